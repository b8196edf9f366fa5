/- galleyref03.Next. -/
import Derived.Test.YtdhidpbenhmfgaaGreatM47
import Derived.Test.YtdhidpbenhmfgaaGreatCNext
namespace Go.Proofs.YtdhidpbenhmfgaaGreat
open Go.RowKit

set_option maxRecDepth 100000 in
set_option maxHeartbeats 2000000 in
theorem rnext_bad (F : Fnt) (a : FAddr) (c : Int) (w : World) (hF : FontAt w F a w.heap.size) (hw : F.wf) (h : fontE F = 40) :
    Calls Tryz.prog 20 #[fontV F a, .int .u8 c] w fun e w' => ∃ v, e = .returned (.tuple #[v, .int .i64 40]) ∧ BRow w' w.heap.size v [] ∧ Kept w w' := by
  obtain ⟨W, hW⟩ : ∃ W, W = w.alloc (.cells #[.int .u32 F.check, .int .i64 F.design, .int .i64 F.first, .slice a.A0 F.chars.length a.c0, .slice a.A1 F.steps.length a.c1, .slice a.A2 F.kerns.length a.c2, .slice a.A3 F.pieces.length a.c3, .slice a.A4 F.params.length a.c4] 28) := ⟨_, rfl⟩
  have hk0 : Kept w W := by rw [hW]; exact walloc _ _
  have hB : FBox W w.heap.size F a := FBox.of_obj (by rw [hW]; exact mkobj _ _)
  have hs := fun w' (hk : Kept w w') => Lib.hid (fcheck_any F a w' ((hF.kept hk).more hk.size) hw)
  have HW := Lib.hid hW
  clear hW
  rw [h] at hs
  clear h hF hw
  go_enter Tryz.func20, Tryz.ntmps20
  go_wp2_with (fail)
  rw [← HW.out]
  refine (hs _ hk0).out.mono ?_
  rintro e w1 ⟨rfl, k1⟩
  have kw : Kept w w1 := hk0.trans k1
  go_wp2_with (fail)
  go_ret2
  exact ⟨_, rfl, World.ownsRow_nil _ _ _ _, kw⟩
set_option maxRecDepth 100000 in
set_option maxHeartbeats 2000000 in
theorem rnext_no (F : Fnt) (a : FAddr) (c : Int) (w : World) (hF : FontAt w F a w.heap.size) (hw : F.wf) (hc : 0 ≤ c ∧ c ≤ 255) (h : fontE F = 0) (ht : thereAt F c = none) :
    Calls Tryz.prog 20 #[fontV F a, .int .u8 c] w fun e w' => ∃ v, e = .returned (.tuple #[v, .int .i64 42]) ∧ BRow w' w.heap.size v [] ∧ Kept w w' := by
  obtain ⟨W, hW⟩ : ∃ W, W = w.alloc (.cells #[.int .u32 F.check, .int .i64 F.design, .int .i64 F.first, .slice a.A0 F.chars.length a.c0, .slice a.A1 F.steps.length a.c1, .slice a.A2 F.kerns.length a.c2, .slice a.A3 F.pieces.length a.c3, .slice a.A4 F.params.length a.c4] 28) := ⟨_, rfl⟩
  have hk0 : Kept w W := by rw [hW]; exact walloc _ _
  have hB : FBox W w.heap.size F a := FBox.of_obj (by rw [hW]; exact mkobj _ _)
  have hF' := fun w' (hk : Kept w w') => (hF.kept hk).more hk.size
  have hs := fun w' (hk : Kept w w') => Lib.hid (fcheck_any F a w' (hF' w' hk) hw)
  have hth := fun w' (hk : Kept w w') => Lib.hid (there_any F a c w' (hF' w' hk) ⟨by unfold i64B; omega, hw.first, hw.l0, .inl hc⟩)
  have HW := Lib.hid hW
  clear hW
  rw [h] at hs
  rw [(there_no ht).1, (there_no ht).2] at hth
  clear h hF' hF hw ht
  go_enter Tryz.func20, Tryz.ntmps20
  go_wp2_with (fail)
  rw [← HW.out]
  refine (hs _ hk0).out.mono ?_
  rintro e w1 ⟨rfl, k1⟩
  have kw : Kept w w1 := hk0.trans k1
  obtain ⟨b0, b1, b2, b3, b4, b5, b6, b7, bl⟩ := hB.kept k1
  go_wp2_with (fail)
  refine (hth _ kw).out.mono ?_
  rintro e w2 ⟨rfl, k2⟩
  go_wp2_with (fail)
  go_ret2
  exact ⟨_, rfl, World.ownsRow_nil _ _ _ _, kw.trans k2⟩

def RLoop (F : Fnt) (full : List Int) (W : World) (B : Nat) (s1 s7 s9 : Value) (g : Nat) (wr : World) : Prop :=
  ∃ (x : Nat) (pre : List Int), x < F.chars.length ∧ endsAt F g x ∧ s1 = .int .u8 (F.first + x) ∧ s7 = .int .i64 x ∧ BRow wr B s9 pre ∧ pre ++ (lst F g x).tail = full ∧ Below B W wr ∧ pre.length + g ≤ 600

set_option maxRecDepth 100000 in
set_option maxHeartbeats 8000000 in
theorem rnext_ok (F : Fnt) (a : FAddr) (c : Int) (w : World) (hF : FontAt w F a w.heap.size) (hw : F.wf) (hc : 0 ≤ c ∧ c ≤ 255) (h : fontE F = 0) (x0 t0 : Nat) (ht : thereAt F c = some x0) (he : endsAt F t0 x0) :
    Calls Tryz.prog 20 #[fontV F a, .int .u8 c] w fun e w' => ∃ v, e = .returned (.tuple #[v, .int .i64 0]) ∧ BRow w' w.heap.size v (lst F t0 x0) ∧ Kept w w' := by
  obtain ⟨i0, hi, hz0, hz1, hz2⟩ := info_parts infoU8
  obtain ⟨W, hW⟩ : ∃ W, W = w.alloc (.cells #[.int .u32 F.check, .int .i64 F.design, .int .i64 F.first, .slice a.A0 F.chars.length a.c0, .slice a.A1 F.steps.length a.c1, .slice a.A2 F.kerns.length a.c2, .slice a.A3 F.pieces.length a.c3, .slice a.A4 F.params.length a.c4] 28) := ⟨_, rfl⟩
  have hk0 : Kept w W := by rw [hW]; exact walloc _ _
  have hB : FBox W w.heap.size F a := FBox.of_obj (by rw [hW]; exact mkobj _ _)
  have hF' := fun w' (hk : Kept w w') => (hF.kept hk).more hk.size
  have hs := fun w' (hk : Kept w w') => Lib.hid (fcheck_any F a w' (hF' w' hk) hw)
  have hth := fun w' (hk : Kept w w') => Lib.hid (there_any F a c w' (hF' w' hk) ⟨by unfold i64B; omega, hw.first, hw.l0, .inl hc⟩)
  have HW := Lib.hid hW
  clear hW
  rw [h] at hs
  rw [(there_yes ht).1, (there_yes ht).2] at hth
  obtain ⟨V, _⟩ := font_told h
  obtain ⟨hcx, hx0, _⟩ := there_of ht
  have ht0 : t0 < F.chars.length := ends_soon V he hx0
  have hl256 : F.chars.length ≤ 256 := by have := font_bd0 h; omega
  have hmet : ∀ (x : Nat) (hx : x < F.chars.length), F.chars[x].tag = 2 → ∃ (y : Nat), y < F.chars.length ∧ y = nx F x ∧ F.chars[x].rest = F.first + y ∧ 0 ≤ F.first + (y : Int) ∧ F.first + (y : Int) ≤ 255 ∧ ∀ w', Kept w w' → Hid (Calls Tryz.prog 48 #[fontV F a, .int .i64 (F.first + y)] w' fun e w'' => e = .returned (.tuple #[.int .i64 y, .bool true]) ∧ Kept w' w'') := fun x hx htg => by
    obtain ⟨v1, v2, v3, v4, v5⟩ := V x hx htg
    refine ⟨nx F x, v1, rfl, v2, by omega, by omega, fun w' hk => ?_⟩
    have q := there_any F a (F.first + nx F x) w' (hF' w' hk) ⟨by unfold i64B; omega, hw.first, hw.l0, .inl (by omega)⟩
    rw [v2] at v5
    rw [(there_yes v5).1, (there_yes v5).2] at q
    exact Lib.hid q
  obtain ⟨b, o, hA, hbl, hcell⟩ := hF.m (by omega)
  have hq := fun x (hx : x < F.chars.length) w' (hk : Kept w w') => Lib.hid (And.intro ((hk.cell (p := ⟨b, o + x * 6 + 4, none⟩) hbl).trans (hcell x hx).2.2.2.2.1) ((hk.cell (p := ⟨b, o + x * 6 + 5, none⟩) hbl).trans (hcell x hx).2.2.2.2.2))
  obtain ⟨A0, n0, A1, n1, A2, n2, A3, n3, A4, n4⟩ := a
  obtain rfl : A0 = some ⟨b, o, none⟩ := hA
  have hgen : ∀ full, full = lst F t0 x0 → Calls Tryz.prog 20 #[fontV F ⟨some ⟨b, o, none⟩, n0, A1, n1, A2, n2, A3, n3, A4, n4⟩, .int .u8 c] w fun e w' => ∃ v, e = .returned (.tuple #[v, .int .i64 0]) ∧ BRow w' w.heap.size v full ∧ Kept w w' := by
    intro full hfull
    have HFull := Lib.hid hfull
    have HE := Lib.hid he
    have Hcx := Lib.hid hcx
    have Hmet := Lib.hid hmet
    have Hq := Lib.hid hq
    have Ht0 : Hid (t0 < 256) := Lib.hid (by omega)
    clear hfull he h hF hF' hw V ht hcx hmet hl256 hcell hq ht0
    go_enter Tryz.func20, Tryz.ntmps20
    go_wp2_with (fail)
    rw [← HW.out]
    refine (hs _ hk0).out.mono ?_
    rintro e w1 ⟨rfl, k1⟩
    have kw1 : Kept w w1 := hk0.trans k1
    obtain ⟨b0, b1, b2, b3, b4, b5, b6, b7, bl⟩ := hB.kept k1
    go_wp2_with (fail)
    refine (hth _ kw1).out.mono ?_
    rintro e w2 ⟨rfl, k2⟩
    have kw2 := kw1.trans k2
    obtain ⟨W3, hW3⟩ : ∃ W3, W3 = w2.alloc (.cells #[.int .u8 c] 5) := ⟨_, rfl⟩
    have k23 : Kept w2 W3 := by rw [hW3]; exact walloc _ _
    have hr3 : BRow W3 w2.heap.size (.slice (some ⟨w2.heap.size, 0, none⟩) 1 1) [c] := by
      rw [hW3]
      have q := mkobj w2 (.cells #[.int .u8 c] 5)
      exact ⟨rfl, .inr ⟨w2.heap.size, 1, _, rfl, Nat.le_refl _, q, Nat.le_refl _, by unfold maxLen; omega, rfl, rfl⟩⟩
    have hl3 : w2.heap.size < W3.heap.size := by rw [hW3]; simp
    have hFB3 : ∀ wr, Below w2.heap.size W3 wr → FBox wr w.heap.size F _ := fun wr hb => (hB.kept (k1.trans (k2.trans ((k23.mono (Nat.le_refl _)).trans hb : Below w2.heap.size w2 wr))))
    have hkw : ∀ wr, Below w2.heap.size W3 wr → Kept w wr := fun wr hb => kw2.trans (Below.trans k23 hb)
    have HW3 := Lib.hid hW3
    clear hW3
    go_wp2_with (fail)
    rw [← HW3.out]
    go_loopg [1, 7, 9] t0 (fun g s1 s7 s9 wr => ∃ g0, g = g0 ∧ RLoop F full W3 w2.heap.size s1 s7 s9 g0 wr)
    case atStart => exact ⟨t0, rfl, x0, [c], hx0, HE.out, by rw [Hcx.out], rfl, hr3, by rw [HFull.out, Hcx.out]; cases t0 <;> simp [lst], Below.refl _ _, by have := Ht0.out; rw [List.length_singleton]; omega⟩
    case round =>
      obtain ⟨g, hgg, x, pre, hx, hend, rfl, rfl, hrow, hfull, hbel, hpl⟩ := hrel
      have HGG := Lib.hid hgg
      clear hgg
      have HRow := Lib.hid hrow
      obtain ⟨f0, f1, f2, f3, f4, f5, f6, f7, fl⟩ := hFB3 wr hbel
      obtain ⟨q4, q5⟩ := (Hq.out x hx wr (hkw wr hbel)).out
      have htx := tagAt_of hx
      by_cases htg : F.chars[x].tag = 2
      · have z : (F.chars[x].tag == 2) = true := by simp [htg]
        obtain ⟨y, hy, hyn, hrest, hy0, hy1, hcall⟩ := Hmet.out x hx htg
        obtain ⟨g', rfl⟩ : ∃ g', g = g' + 1 := by
          cases g with
          | zero => exact absurd (by rw [htx]; exact htg) hend
          | succ g' => exact ⟨g', rfl⟩
        have hend' : endsAt F g' y := by rw [hyn]; exact hend.2
        have hfull' : (pre ++ [F.first + (y : Int)]) ++ (lst F g' y).tail = full := by
          rw [← hfull, List.append_assoc]
          congr 1
          show [F.first + (y : Int)] ++ (lst F g' y).tail = lst F g' (nx F x)
          rw [← hyn]
          cases g' <;> simp [lst]
        rw [hrest] at q5
        have e1 : IntKind.u8.wrap (F.first + (y : Int)) = F.first + (y : Int) := wrap_u8_id hy0 (by omega)
        generalize F.chars[x] = m at *
        obtain ⟨m0, m1, m2, m3, m4, m5⟩ := m
        obtain ⟨u, hu⟩ : ∃ u, u = F.first + (y : Int) := ⟨_, rfl⟩
        rw [← hu] at q5 e1 hfull' hcall hy0 hy1
        have HU := Lib.hid hu
        have HF' := Lib.hid hfull'
        have HEnd := Lib.hid hend'
        have HY := Lib.hid hy
        dsimp only at *
        clear hfull hend hend' hfull' htx hrest hu htg hrow hyn
        go_wp2_with (at_builtin; refine wpList_append_own_at _ rfl _ _ 30 rfl w2.heap.size 5 i0 (.int .u8 0) 1 1 Tryz.underlying30 hi hz0 hz1 hz2 rfl (by decide) _ _ _ rfl (World.ownsRow.alloc HRow.out _) ⟨wr.heap.size, 0, none⟩ 1 1 [.int .u8 u] rfl rfl (cell_one_new wr _ _) ?c1 ?c2 ?c3 ?c4 ?_)
        case c1 => first | rfl | (intro q hq; rw [List.mem_singleton] at hq; subst hq; rfl)
        case c2 => unfold maxLen; omega
        case c3 => omega
        case c4 => have := hbel.size; simp; omega
        intro q yy hown hgr _ _
        obtain ⟨p', l', c', rfl⟩ := own_slice' hown
        have hrow' : BRow yy w2.heap.size (.slice p' l' c') (pre ++ [u]) := by
          unfold BRow; rw [List.map_append, List.length_append]; exact hown
        have hlow : ∀ g, Value.ownBlock _ = some g → w2.heap.size ≤ g := fun g e => (World.ownsRow.lt HRow.out g e).1
        have hby : Below w2.heap.size W3 yy := Below.grown (hbel.alloc (by have := hbel.size; omega) _) hgr (by have := hbel.size; simp; omega) (fun j e => by have := hlow j e; omega)
        obtain ⟨ff0, ff1, ff2, ff3, ff4, ff5, ff6, ff7, ffl⟩ := hFB3 yy hby
        clear hown hgr
        go_wp2_with (fail)
        refine (hcall yy (hkw yy hby)).out.mono ?_
        rintro e y8 ⟨rfl, k8⟩
        have hrow8 := brow_kept hrow' k8
        have hb8 : Below w2.heap.size W3 y8 := Below.trans hby (k8.mono (by have := hby.size; omega))
        go_wp2_with (fail)
        go_roundg g'
        case measure => have := HGG.out; omega
        case rel => exact ⟨g', rfl, y, pre ++ [u], HY.out, HEnd.out, by rw [HU.out], rfl, hrow8, HF'.out, hb8, by rw [List.length_append, List.length_singleton]; omega⟩
      · have z : (F.chars[x].tag == 2) = false := by simp [htg]
        have hg0 : g = 0 := by
          cases g with
          | zero => rfl
          | succ g' => exact absurd (by rw [← htx]; exact hend.1) htg
        subst hg0
        have hfl : pre = full := by simpa [lst] using hfull
        subst hfl
        have hkf := hkw wr hbel
        clear htx htg hfull hend hrow
        go_wp2_with (fail)
        go_ret2
        exact ⟨_, rfl, ⟨HRow.out.1, HRow.out.2.imp id fun ⟨g, cap, cur, e, hb, q⟩ => ⟨g, cap, cur, e, Nat.le_trans kw2.size hb, q⟩⟩, hkf⟩
  exact hgen _ rfl

theorem rnext_any (F : Fnt) (a : FAddr) (c : Int) (w : World) (hF : FontAt w F a w.heap.size) (hw : F.wf) (hc : 0 ≤ c ∧ c ≤ 255) :
    Calls Tryz.prog 20 #[fontV F a, .int .u8 c] w fun e w' => ∃ v, e = .returned (.tuple #[v, .int .i64 (nextE F c)]) ∧ BRow w' w.heap.size v (nextL F c) ∧ Kept w w' := by
  unfold nextE nextL
  by_cases h : fontE F = 0
  · rw [if_pos h, if_pos h]
    cases ht : thereAt F c with
    | none => rw [(there_no ht).2]; exact rnext_no F a c w hF hw hc h ht
    | some x =>
      rw [(there_yes ht).2]
      obtain ⟨V, hE⟩ := font_told h
      obtain ⟨t, he⟩ := hE x (there_lt ht)
      show Calls Tryz.prog 20 #[fontV F a, .int .u8 c] w fun e w' => ∃ v, e = .returned (.tuple #[v, .int .i64 0]) ∧ BRow w' w.heap.size v (chL F F.chars.length x) ∧ Kept w w'
      rw [chL_lst he (by have := ends_soon V he (there_lt ht); omega)]
      exact rnext_ok F a c w hF hw hc h x t ht he
  · have h40 : fontE F = 40 := by unfold fontE at h ⊢; split at h; exact absurd rfl h; rw [if_neg (by assumption)]
    rw [if_neg h, if_neg h]
    exact rnext_bad F a c w hF hw h40
end Go.Proofs.YtdhidpbenhmfgaaGreat
