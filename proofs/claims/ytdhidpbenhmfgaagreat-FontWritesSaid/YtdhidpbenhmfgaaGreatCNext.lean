/- font.Next. -/
import Derived.Test.YtdhidpbenhmfgaaGreatCAt
import Derived.Test.YtdhidpbenhmfgaaGreatCWords
import Derived.Deep.MidRow
import Derived.Deep.LoopGhost
import Derived.Maps.AppendAt
namespace Go.Proofs.YtdhidpbenhmfgaaGreat
open Go.RowKit

/-- the chain from a place on, in so many steps -/
def lst (F : Fnt) : Nat → Nat → List Int
  | 0, x => [F.first + x]
  | t + 1, x => (F.first + x) :: lst F t (nx F x)
theorem font_told {F : Fnt} (h : fontE F = 0) : Told F ∧ ∀ i < F.chars.length, Ends F i := by
  unfold fontE at h
  split at h
  · rename_i hb
    rw [fontB_eq] at hb
    unfold cfontB at hb
    simp only [Bool.and_eq_true] at hb
    have V := told_of (charsR_all hb.2.2.1)
    exact ⟨V, fun i hi => (chain_iff V hi).1 (List.all_eq_true.1 hb.2.2.2.1 i (List.mem_range.2 hi))⟩
  · cases h
theorem font_bd0 {F : Fnt} (h : fontE F = 0) : (0 ≤ F.first ∧ F.first ≤ 255) ∧ (F.chars.length : Int) ≤ 256 - F.first := by
  unfold fontE at h
  split at h
  · rename_i hb
    rw [fontB_eq] at hb
    unfold cfontB boundedB at hb
    rw [Bool.and_eq_true, decide_eq_true_eq] at hb
    omega
  · cases h
theorem there_of {F : Fnt} {c : Int} {k : Nat} (h : thereAt F c = some k) : c = F.first + k ∧ k < F.chars.length ∧ metV F c = F.chars[k]?.getD ⟨0, 0, 0, 0, 0, 0⟩ := by
  have hk := there_lt h
  refine ⟨?_, hk, by unfold metV; rw [h]⟩
  unfold thereAt at h
  split at h
  · rename_i hc
    split at h
    · split at h
      · cases h; omega
      · cases h
    · cases h
  · cases h
theorem lst_len (F : Fnt) : ∀ t x, (lst F t x).length = t + 1
  | 0, _ => rfl
  | t + 1, x => by unfold lst; rw [List.length_cons, lst_len F t]
def nextE (F : Fnt) (c : Int) : Int := if fontE F = 0 then (if thB F c then 0 else 42) else 40

set_option maxRecDepth 100000 in
set_option maxHeartbeats 2000000 in
theorem next_bad (F : Fnt) (a : FAddr) (c : Int) (w : World) (hF : FontAt w F a w.heap.size) (hw : F.wf) (_hc : 0 ≤ c ∧ c ≤ 255) (h : fontE F = 40) :
    Calls Tryz.prog 19 #[fontV F a, .int .u8 c] w fun e w' => ∃ v, e = .returned (.tuple #[v, .int .i64 40]) ∧ BRow w' w.heap.size v [] ∧ Kept w w' := by
  obtain ⟨W, hW⟩ : ∃ W, W = w.alloc (.cells #[.int .u32 F.check, .int .i64 F.design, .int .i64 F.first, .slice a.A0 F.chars.length a.c0, .slice a.A1 F.steps.length a.c1, .slice a.A2 F.kerns.length a.c2, .slice a.A3 F.pieces.length a.c3, .slice a.A4 F.params.length a.c4] 28) := ⟨_, rfl⟩
  have hk0 : Kept w W := by rw [hW]; exact walloc _ _
  have hB : FBox W w.heap.size F a := FBox.of_obj (by rw [hW]; exact mkobj _ _)
  have hF' := fun w' (hk : Kept w w') => (hF.kept hk).more hk.size
  have hs := fun w' (hk : Kept w w') => Lib.hid (ccheck_any F a w' (hF' w' hk) hw)
  have HW := Lib.hid hW
  clear hW
  rw [h] at hs
  clear h hF' hF hw
  go_enter Tryz.func19, Tryz.ntmps19
  go_wp2_with (fail)
  rw [← HW.out]
  refine (hs _ hk0).out.mono ?_
  rintro e w1 ⟨rfl, k1⟩
  have kw : Kept w w1 := hk0.trans k1
  go_wp2_with (fail)
  go_ret2
  exact ⟨_, rfl, World.ownsRow_nil _ _ _ _, kw⟩
set_option maxRecDepth 100000 in
set_option maxHeartbeats 2000000 in
theorem next_no (F : Fnt) (a : FAddr) (c : Int) (w : World) (hF : FontAt w F a w.heap.size) (hw : F.wf) (hc : 0 ≤ c ∧ c ≤ 255) (h : fontE F = 0) (ht : thB F c = false) :
    Calls Tryz.prog 19 #[fontV F a, .int .u8 c] w fun e w' => ∃ v, e = .returned (.tuple #[v, .int .i64 42]) ∧ BRow w' w.heap.size v [] ∧ Kept w w' := by
  obtain ⟨W, hW⟩ : ∃ W, W = w.alloc (.cells #[.int .u32 F.check, .int .i64 F.design, .int .i64 F.first, .slice a.A0 F.chars.length a.c0, .slice a.A1 F.steps.length a.c1, .slice a.A2 F.kerns.length a.c2, .slice a.A3 F.pieces.length a.c3, .slice a.A4 F.params.length a.c4] 28) := ⟨_, rfl⟩
  have hk0 : Kept w W := by rw [hW]; exact walloc _ _
  have hB : FBox W w.heap.size F a := FBox.of_obj (by rw [hW]; exact mkobj _ _)
  have hF' := fun w' (hk : Kept w w') => (hF.kept hk).more hk.size
  have hs := fun w' (hk : Kept w w') => Lib.hid (ccheck_any F a w' (hF' w' hk) hw)
  have HW := Lib.hid hW
  clear hW
  rw [h] at hs
  have hm := fun w' (hk : Kept w w') => Lib.hid (cmetric_any F a c w' (hF' w' hk) hw hc)
  rw [ht] at hm
  generalize metV F c = m at *
  clear h hF' hF hw ht
  go_enter Tryz.func19, Tryz.ntmps19
  go_wp2_with (fail)
  rw [← HW.out]
  refine (hs _ hk0).out.mono ?_
  rintro e w1 ⟨rfl, k1⟩
  have kw : Kept w w1 := hk0.trans k1
  obtain ⟨b0, b1, b2, b3, b4, b5, b6, b7, bl⟩ := hB.kept k1
  go_wp2_with (fail)
  refine (hm _ kw).out.mono ?_
  rintro e w2 ⟨rfl, k2⟩
  go_wp2_with (fail)
  go_ret2
  exact ⟨_, rfl, World.ownsRow_nil _ _ _ _, kalloc (kw.trans k2) _⟩
/-- a character's numbers in a block -/
def MObj (w : World) (M : Nat) (m : Met) : Prop := w.heap[M]? = some (.cells #[.int .i64 m.w, .int .i64 m.h, .int .i64 m.d, .int .i64 m.it, .int .i64 m.tag, .int .i64 m.rest] 43 (0, 0))
def NLoop (F : Fnt) (full : List Int) (W : World) (M : Nat) (s1 s9 : Value) (g : Nat) (wr : World) : Prop :=
  ∃ (x : Nat) (pre : List Int), ∃ hx : x < F.chars.length, endsAt F g x ∧ s1 = .int .u8 (F.first + x) ∧ 0 ≤ F.first + x ∧ F.first + (x : Int) ≤ 255 ∧ MObj wr M F.chars[x] ∧ BRow wr (M + 1) s9 pre ∧ pre ++ (lst F g x).tail = full ∧ Below M W wr ∧ M < wr.heap.size ∧ pre.length + g ≤ 600

theorem own_slice' {w : World} {B n s : Nat} {e : TypeId} {v : Value} {xs : List Value} (h : w.ownsRow B e s v n xs) : ∃ A n c, v = .slice A n c := by
  rcases h.2 with ⟨rfl, _⟩ | ⟨g, cap, cur, rfl, _⟩
  · exact ⟨_, _, _, rfl⟩
  · exact ⟨_, _, _, rfl⟩
theorem MObj.cells {w : World} {M : Nat} {m : Met} (h : MObj w M m) : w.cell? ⟨M, 0, none⟩ = some (.int .i64 m.w) ∧ w.cell? ⟨M, 1, none⟩ = some (.int .i64 m.h) ∧ w.cell? ⟨M, 2, none⟩ = some (.int .i64 m.d) ∧ w.cell? ⟨M, 3, none⟩ = some (.int .i64 m.it) ∧ w.cell? ⟨M, 4, none⟩ = some (.int .i64 m.tag) ∧ w.cell? ⟨M, 5, none⟩ = some (.int .i64 m.rest) ∧ (∀ o, w.frozen? ⟨M, o, none⟩ = false) ∧ M < w.heap.size := mbox h
theorem MObj.set {w : World} {M : Nat} {m n : Met} (h : MObj w M m) : MObj ((((((w.setCell ⟨M, 0, none⟩ (.int .i64 n.w)).setCell ⟨M, 1, none⟩ (.int .i64 n.h)).setCell ⟨M, 2, none⟩ (.int .i64 n.d)).setCell ⟨M, 3, none⟩ (.int .i64 n.it)).setCell ⟨M, 4, none⟩ (.int .i64 n.tag)).setCell ⟨M, 5, none⟩ (.int .i64 n.rest)) M n := by
  unfold MObj at *
  simp [World.setCell, Array.getElem?_modify, h]
theorem grown_setCell' (w : World) (b j : Nat) (v : Value) : w.grownBy (w.setCell ⟨b, j, none⟩ v) (some b) :=
  ⟨rfl, rfl, rfl, by simp [World.setCell], fun k hk hne => by
    have : b ≠ k := fun e => hne (by rw [e])
    simp [World.setCell, Array.getElem?_modify, this]⟩
theorem grown_set6 (w : World) (M : Nat) (a b c d e f : Value) : w.grownBy ((((((w.setCell ⟨M, 0, none⟩ a).setCell ⟨M, 1, none⟩ b).setCell ⟨M, 2, none⟩ c).setCell ⟨M, 3, none⟩ d).setCell ⟨M, 4, none⟩ e).setCell ⟨M, 5, none⟩ f) (some M) :=
  grown_trans (grown_trans (grown_trans (grown_trans (grown_trans (grown_setCell' w M 0 a) (grown_setCell' _ M 1 b)) (grown_setCell' _ M 2 c)) (grown_setCell' _ M 3 d)) (grown_setCell' _ M 4 e)) (grown_setCell' _ M 5 f)

set_option maxRecDepth 100000 in
set_option maxHeartbeats 8000000 in
theorem next_ok (F : Fnt) (a : FAddr) (c : Int) (w : World) (hF : FontAt w F a w.heap.size) (hw : F.wf) (hc : 0 ≤ c ∧ c ≤ 255) (h : fontE F = 0) (x0 t0 : Nat) (ht : thereAt F c = some x0) (he : endsAt F t0 x0) :
    Calls Tryz.prog 19 #[fontV F a, .int .u8 c] w fun e w' => ∃ v, e = .returned (.tuple #[v, .int .i64 0]) ∧ BRow w' w.heap.size v (lst F t0 x0) ∧ Kept w w' := by
  obtain ⟨i0, hi, hz0, hz1, hz2⟩ := info_parts infoU8
  obtain ⟨W, hW⟩ : ∃ W, W = w.alloc (.cells #[.int .u32 F.check, .int .i64 F.design, .int .i64 F.first, .slice a.A0 F.chars.length a.c0, .slice a.A1 F.steps.length a.c1, .slice a.A2 F.kerns.length a.c2, .slice a.A3 F.pieces.length a.c3, .slice a.A4 F.params.length a.c4] 28) := ⟨_, rfl⟩
  have hk0 : Kept w W := by rw [hW]; exact walloc _ _
  have hB : FBox W w.heap.size F a := FBox.of_obj (by rw [hW]; exact mkobj _ _)
  have hF' := fun w' (hk : Kept w w') => (hF.kept hk).more hk.size
  have hs := fun w' (hk : Kept w w') => Lib.hid (ccheck_any F a w' (hF' w' hk) hw)
  have HW := Lib.hid hW
  clear hW
  rw [h] at hs
  obtain ⟨V, _⟩ := font_told h
  obtain ⟨hcx, hx0, hmv⟩ := there_of ht
  rw [List.getElem?_eq_getElem hx0] at hmv
  have hm := fun w' (hk : Kept w w') => Lib.hid (cmetric_any F a c w' (hF' w' hk) hw hc)
  rw [(there_yes ht).2, show metV F c = F.chars[x0] from hmv] at hm
  have ht0 : t0 < F.chars.length := ends_soon V he hx0
  have hl256 : F.chars.length ≤ 256 := by have := font_bd0 h; omega
  have hmet : ∀ (x : Nat) (hx : x < F.chars.length), F.chars[x].tag = 2 → ∃ (y : Nat) (hy : y < F.chars.length), y = nx F x ∧ F.chars[x].rest = F.first + y ∧ 0 ≤ F.first + (y : Int) ∧ F.first + (y : Int) ≤ 255 ∧ ∀ w', Kept w w' → Hid (Calls Tryz.prog 13 #[fontV F a, .int .u8 (F.first + y)] w' fun e w'' => e = .returned (.tuple #[metA F.chars[y], .bool true]) ∧ Kept w' w'') := fun x hx htg => by
    obtain ⟨v1, v2, v3, v4, v5⟩ := V x hx htg
    refine ⟨nx F x, v1, rfl, v2, by omega, by omega, fun w' hk => ?_⟩
    have q := cmetric_any F a (F.first + nx F x) w' (hF' w' hk) hw (by omega)
    rw [v2] at v5
    obtain ⟨_, _, e2⟩ := there_of v5
    rw [List.getElem?_eq_getElem v1] at e2
    rw [(there_yes v5).2, show metV F (F.first + nx F x) = F.chars[nx F x] from e2] at q
    exact Lib.hid q
  have hgen : ∀ full, full = lst F t0 x0 → Calls Tryz.prog 19 #[fontV F a, .int .u8 c] w fun e w' => ∃ v, e = .returned (.tuple #[v, .int .i64 0]) ∧ BRow w' w.heap.size v full ∧ Kept w w' := by
    intro full hfull
    have HFull := Lib.hid hfull
    have HE := Lib.hid he
    clear hfull he
    generalize hmm : F.chars[x0] = m0 at *
    have HM0 := Lib.hid hmm
    obtain ⟨m00, m01, m02, m03, m04, m05⟩ := m0
    have Hcx := Lib.hid hcx
    have hc0' : 0 ≤ F.first + (x0 : Int) ∧ F.first + (x0 : Int) ≤ 255 := by omega
    have Hc0 := Lib.hid hc0'
    have Hmet := Lib.hid hmet
    have Ht0 : Hid (t0 < 256) := Lib.hid (by omega)
    clear h hF hF' hw V ht hmm hmv hcx hmet hc0' hl256
    go_enter Tryz.func19, Tryz.ntmps19
    go_wp2_with (fail)
    rw [← HW.out]
    refine (hs _ hk0).out.mono ?_
    rintro e w1 ⟨rfl, k1⟩
    have kw1 : Kept w w1 := hk0.trans k1
    obtain ⟨b0, b1, b2, b3, b4, b5, b6, b7, bl⟩ := hB.kept k1
    go_wp2_with (fail)
    refine (hm _ kw1).out.mono ?_
    rintro e w2 ⟨rfl, k2⟩
    have kw2 := kw1.trans k2
    obtain ⟨W3, hW3⟩ : ∃ W3, W3 = (w2.alloc (.cells #[.int .i64 m00, .int .i64 m01, .int .i64 m02, .int .i64 m03, .int .i64 m04, .int .i64 m05] 43)).alloc (.cells #[.int .u8 c] 5) := ⟨_, rfl⟩
    have k23 : Kept w2 W3 := by rw [hW3]; exact (walloc _ _).trans (walloc _ _)
    have hM3 : MObj W3 w2.heap.size ⟨m00, m01, m02, m03, m04, m05⟩ := by
      rw [hW3]; unfold MObj
      rw [(walloc _ _).block w2.heap.size (by simp)]; exact mkobj _ _
    have hr3 : BRow W3 (w2.heap.size + 1) (.slice (some ⟨w2.heap.size + 1, 0, none⟩) 1 1) [c] := by
      rw [hW3]
      have q := mkobj (w2.alloc (.cells #[.int .i64 m00, .int .i64 m01, .int .i64 m02, .int .i64 m03, .int .i64 m04, .int .i64 m05] 43)) (.cells #[.int .u8 c] 5)
      exact ⟨rfl, .inr ⟨w2.heap.size + 1, 1, _, rfl, Nat.le_refl _, by simpa using q, Nat.le_refl _, by unfold maxLen; omega, rfl, rfl⟩⟩
    have hFB3 : ∀ wr, Below w2.heap.size W3 wr → FBox wr w.heap.size F a := fun wr hb => (hB.kept (k1.trans (k2.trans ((k23.mono (Nat.le_refl _)).trans hb : Below w2.heap.size w2 wr)))) 
    have hkw : ∀ wr, Below w2.heap.size W3 wr → Kept w wr := fun wr hb => kw2.trans (Below.trans k23 hb)
    have HW3 := Lib.hid hW3
    clear hW3
    go_wp2_with (fail)
    rw [← HW3.out]
    go_loopg [1, 9] t0 (fun g s1 s9 wr => ∃ g0, g = g0 ∧ NLoop F full W3 w2.heap.size s1 s9 g0 wr)
    case atStart => exact ⟨t0, rfl, x0, [c], hx0, HE.out, by rw [Hcx.out], Hc0.out.1, Hc0.out.2, by rw [HM0.out]; exact hM3, hr3, by rw [HFull.out, Hcx.out]; cases t0 <;> simp [lst], Below.refl _ _, hM3.cells.2.2.2.2.2.2.2, by have := Ht0.out; rw [List.length_singleton]; omega⟩
    case round =>
      obtain ⟨g, hgg, x, pre, hx, hend, rfl, hc0, hc1, hmo, hrow, hfull, hbel, hMl, hpl⟩ := hrel
      have HGG := Lib.hid hgg
      clear hgg
      obtain ⟨y0, y1, y2, y3, y4, y5, yf, yl⟩ := hmo.cells
      have HMo := Lib.hid hmo
      have HRow := Lib.hid hrow
      obtain ⟨f0, f1, f2, f3, f4, f5, f6, f7, fl⟩ := hFB3 wr hbel
      have htx := tagAt_of hx
      by_cases htg : F.chars[x].tag = 2
      · have z : (F.chars[x].tag == 2) = true := by simp [htg]
        obtain ⟨y, hy, hyn, hrest, hy0, hy1, hcall⟩ := Hmet.out x hx htg
        obtain ⟨g', rfl⟩ : ∃ g', g = g' + 1 := by
          cases g with
          | zero => exact absurd (by rw [htx]; exact htg) hend
          | succ g' => exact ⟨g', rfl⟩
        have hend' : endsAt F g' y := by rw [hyn]; exact hend.2
        have hfull' : (pre ++ [F.first + (y : Int)]) ++ (lst F g' y).tail = full := by
          rw [← hfull, List.append_assoc]
          congr 1
          show [F.first + (y : Int)] ++ (lst F g' y).tail = lst F g' (nx F x)
          rw [← hyn]
          cases g' <;> simp [lst]
        rw [hrest] at y5
        have e1 : IntKind.u8.wrap (F.first + (y : Int)) = F.first + (y : Int) := wrap_u8_id hy0 (by omega)
        generalize F.chars[x] = m at *
        obtain ⟨m0, m1, m2, m3, m4, m5⟩ := m
        obtain ⟨u, hu⟩ : ∃ u, u = F.first + (y : Int) := ⟨_, rfl⟩
        rw [← hu] at y5 e1 hfull' hcall hy0 hy1
        have HU := Lib.hid hu
        have HF' := Lib.hid hfull'
        have HEnd := Lib.hid hend'
        dsimp only at *
        clear hfull hend hend' hfull' htx hrest hu htg hmo hrow hyn
        go_wp2_with (at_builtin; refine wpList_append_own_at _ rfl _ _ 30 rfl (w2.heap.size + 1) 5 i0 (.int .u8 0) 1 1 Tryz.underlying30 hi hz0 hz1 hz2 rfl (by decide) _ _ _ rfl (World.ownsRow.alloc HRow.out _) ⟨wr.heap.size, 0, none⟩ 1 1 [.int .u8 u] rfl rfl (cell_one_new wr _ _) ?c1 ?c2 ?c3 ?c4 ?_)
        case c1 => first | rfl | (intro q hq; rw [List.mem_singleton] at hq; subst hq; rfl)
        case c2 => unfold maxLen; omega
        case c3 => omega
        case c4 => first | omega | (simp; omega)
        intro q yy hown hgr _ _
        obtain ⟨p', l', c', rfl⟩ := own_slice' hown
        have hrow' : BRow yy (w2.heap.size + 1) (.slice p' l' c') (pre ++ [u]) := by
          unfold BRow; rw [List.map_append, List.length_append]; exact hown
        have hlow : ∀ g, Value.ownBlock _ = some g → w2.heap.size + 1 ≤ g := fun g e => (World.ownsRow.lt HRow.out g e).1
        have hby : Below w2.heap.size W3 yy := Below.grown (hbel.alloc (by omega) _) hgr (by simp; omega) (fun j e => by have := hlow j e; omega)
        have hmy : MObj yy w2.heap.size ⟨m0, m1, m2, m3, m4, m5⟩ := by
          unfold MObj
          rw [hgr.block w2.heap.size (by simp; omega) (fun e => by have := hlow _ e.symm; omega), (walloc wr _).block w2.heap.size hMl]
          exact HMo.out
        obtain ⟨ff0, ff1, ff2, ff3, ff4, ff5, ff6, ff7, ffl⟩ := hFB3 yy hby
        clear hown hgr
        go_wp2_with (fail)
        refine (hcall yy (hkw yy hby)).out.mono ?_
        rintro e y8 ⟨rfl, k8⟩
        have hm8 : MObj y8 w2.heap.size ⟨m0, m1, m2, m3, m4, m5⟩ := by unfold MObj; rw [k8.block w2.heap.size hmy.cells.2.2.2.2.2.2.2]; exact hmy
        obtain ⟨t0', t1', t2', t3', t4', t5', tf', tl'⟩ := hm8.cells
        have hrow8 := brow_kept hrow' k8
        have hb8 : Below w2.heap.size W3 y8 := Below.trans hby (k8.mono (by have := hby.size; have := hM3.cells.2.2.2.2.2.2.2; omega))
        go_wp2_with (fail)
        go_roundg g'
        case measure => have := HGG.out; omega
        case rel => exact ⟨g', rfl, y, pre ++ [u], hy, HEnd.out, by rw [HU.out], by rw [← HU.out]; omega, by rw [← HU.out]; omega, hm8.set, brow_grown hrow8 (grown_set6 _ _ _ _ _ _ _ _) (fun g e => by cases e; intro k; have := (World.ownsRow.lt hrow8 _ k).1; omega), HF'.out, ((((((hb8.setCell (p := ⟨w2.heap.size, 0, none⟩) (Nat.le_refl _) _).setCell (p := ⟨w2.heap.size, 1, none⟩) (Nat.le_refl _) _).setCell (p := ⟨w2.heap.size, 2, none⟩) (Nat.le_refl _) _).setCell (p := ⟨w2.heap.size, 3, none⟩) (Nat.le_refl _) _).setCell (p := ⟨w2.heap.size, 4, none⟩) (Nat.le_refl _) _).setCell (p := ⟨w2.heap.size, 5, none⟩) (Nat.le_refl _) _), by simpa [World.setCell] using tl', by rw [List.length_append, List.length_singleton]; omega⟩
      · have z : (F.chars[x].tag == 2) = false := by simp [htg]
        have hg0 : g = 0 := by
          cases g with
          | zero => rfl
          | succ g' => exact absurd (by rw [← htx]; exact hend.1) htg
        subst hg0
        have hfl : pre = full := by simpa [lst] using hfull
        subst hfl
        have hkf := hkw wr hbel
        clear htx htg hfull hend hmo hrow
        go_wp2_with (fail)
        go_ret2
        exact ⟨_, rfl, ⟨HRow.out.1, HRow.out.2.imp id fun ⟨g, cap, cur, e, hb, q⟩ => ⟨g, cap, cur, e, Nat.le_trans (Nat.le_trans kw2.size (Nat.le_succ _)) hb, q⟩⟩, hkf⟩
  exact hgen _ rfl

/-- the chain from a place on, as its tags tell it -/
def chL (F : Fnt) : Nat → Nat → List Int
  | 0, x => [F.first + x]
  | n + 1, x => if tagAt F x = 2 then (F.first + x) :: chL F n (nx F x) else [F.first + x]
theorem chL_lst {F : Fnt} : ∀ {t n x : Nat}, endsAt F t x → t ≤ n → chL F n x = lst F t x
  | 0, 0, _, _, _ => rfl
  | 0, n + 1, x, h, _ => by unfold chL; rw [if_neg h]; rfl
  | t + 1, n + 1, x, h, hn => by unfold chL lst; rw [if_pos h.1, chL_lst h.2 (by omega)]
  | t + 1, 0, _, _, hn => by omega
def nextL (F : Fnt) (c : Int) : List Int := if fontE F = 0 then (match thereAt F c with | some x => chL F F.chars.length x | none => []) else []
theorem next_any (F : Fnt) (a : FAddr) (c : Int) (w : World) (hF : FontAt w F a w.heap.size) (hw : F.wf) (hc : 0 ≤ c ∧ c ≤ 255) :
    Calls Tryz.prog 19 #[fontV F a, .int .u8 c] w fun e w' => ∃ v, e = .returned (.tuple #[v, .int .i64 (nextE F c)]) ∧ BRow w' w.heap.size v (nextL F c) ∧ Kept w w' := by
  unfold nextE nextL
  by_cases h : fontE F = 0
  · rw [if_pos h, if_pos h]
    cases ht : thereAt F c with
    | none => rw [(there_no ht).2]; exact next_no F a c w hF hw hc h (there_no ht).2
    | some x =>
      rw [(there_yes ht).2]
      obtain ⟨V, hE⟩ := font_told h
      obtain ⟨t, he⟩ := hE x (there_lt ht)
      show Calls Tryz.prog 19 #[fontV F a, .int .u8 c] w fun e w' => ∃ v, e = .returned (.tuple #[v, .int .i64 0]) ∧ BRow w' w.heap.size v (chL F F.chars.length x) ∧ Kept w w'
      rw [chL_lst he (by have := ends_soon V he (there_lt ht); omega)]
      exact next_ok F a c w hF hw hc h x t ht he
  · have h40 : fontE F = 40 := by unfold fontE at h ⊢; split at h; exact absurd rfl h; rw [if_neg (by assumption)]
    rw [if_neg h, if_neg h]
    exact next_bad F a c w hF hw hc h40
end Go.Proofs.YtdhidpbenhmfgaaGreat
