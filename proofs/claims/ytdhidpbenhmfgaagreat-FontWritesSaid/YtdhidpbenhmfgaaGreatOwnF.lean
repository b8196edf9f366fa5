/- galleylaw03.Own. -/
import Derived.Test.YtdhidpbenhmfgaaGreatCFon0
import Derived.Test.YtdhidpbenhmfgaaGreatExtra
namespace Go.Proofs.YtdhidpbenhmfgaaGreat
open Go.RowKit

theorem flatv_len {α : Type} (g : α → List Value) (m : Nat) (hg : ∀ x, (g x).length = m) (l : List α) : (l.flatMap g).length = l.length * m := by
  induction l with
  | nil => simp
  | cons x l ih => rw [List.flatMap_cons, List.length_append, ih, hg, List.length_cons, Nat.succ_mul]; omega
/-- the cells of a row that came in -/
theorem news_of {α : Type} {w : World} {A : Option Addr} {l : List α} {g : α → List Value} {m : Nat} (hm : 0 < m) (hg : ∀ x, (g x).length = m)
    (h : 0 < l.length → ∃ b o, A = some ⟨b, o, none⟩ ∧ ∀ i (h : i < l.length), ∀ j, j < m → ∀ v, (g l[i])[j]? = some v → w.cell? ⟨b, o + (i * m + j), none⟩ = some v) :
    ∀ ad, A = some ad → ∀ j u, (l.flatMap g)[j]? = some u → w.cell? (ad.add j) = some u := by
  intro ad hA j u hu
  have hlt : j < (l.flatMap g).length := (List.getElem?_eq_some_iff.1 hu).1
  rw [flatv_len g m hg] at hlt
  have hn : 0 < l.length := Nat.pos_of_ne_zero fun h0 => by rw [h0] at hlt; omega
  obtain ⟨b, o, e, hc⟩ := h hn
  rw [hA] at e
  cases e
  have hi : j / m < l.length := Nat.div_lt_of_lt_mul (by rw [Nat.mul_comm]; exact hlt)
  have hf := flat_at g m hg l (j / m) hi (j % m) (Nat.mod_lt _ hm)
  rw [Nat.div_add_mod'] at hf
  rw [hf] at hu
  have q := hc (j / m) hi (j % m) (Nat.mod_lt _ hm) u hu
  rw [Nat.div_add_mod'] at q
  rw [Go.Addr.add_mid]
  exact q
theorem mets_news {w : World} {A : Option Addr} {l : List Met} {B : Nat} (h : MetsAt w A l B) : ∀ ad, A = some ad → ∀ j u, (l.flatMap metC)[j]? = some u → w.cell? (ad.add j) = some u :=
  news_of (m := 6) (by omega) (fun _ => rfl) (fun hn => by
    obtain ⟨b, o, e, _, hc⟩ := h hn
    refine ⟨b, o, e, fun i hi j hj v hv => ?_⟩
    obtain ⟨c0, c1, c2, c3, c4, c5⟩ := hc i hi
    rw [← Nat.add_assoc]
    match j, hj with
    | 0, _ => cases hv; exact c0
    | 1, _ => cases hv; exact c1
    | 2, _ => cases hv; exact c2
    | 3, _ => cases hv; exact c3
    | 4, _ => cases hv; exact c4
    | 5, _ => cases hv; exact c5)
theorem sts_news {w : World} {A : Option Addr} {l : List St} {B : Nat} (h : StsAt w A l B) : ∀ ad, A = some ad → ∀ j u, (l.flatMap stC)[j]? = some u → w.cell? (ad.add j) = some u :=
  news_of (m := 4) (by omega) (fun _ => rfl) (fun hn => by
    obtain ⟨b, o, e, _, hc⟩ := h hn
    refine ⟨b, o, e, fun i hi j hj v hv => ?_⟩
    obtain ⟨c0, c1, c2, c3⟩ := hc i hi
    rw [← Nat.add_assoc]
    match j, hj with
    | 0, _ => cases hv; exact c0
    | 1, _ => cases hv; exact c1
    | 2, _ => cases hv; exact c2
    | 3, _ => cases hv; exact c3)
theorem nums_news {w : World} {A : Option Addr} {l : List Int} {B : Nat} (h : NumsAt w A l B) : ∀ ad, A = some ad → ∀ j u, (l.map (Value.int .i64))[j]? = some u → w.cell? (ad.add j) = some u := by
  intro ad hA j u hu
  have hlt : j < l.length := by have := (List.getElem?_eq_some_iff.1 hu).1; simpa using this
  obtain ⟨b, o, e, _, hc⟩ := h (by omega)
  rw [hA] at e
  cases e
  rw [List.getElem?_map, List.getElem?_eq_getElem hlt] at hu
  cases hu
  rw [Go.Addr.add_mid]
  exact hc j hlt
theorem own_empty (W : World) (B N : Nat) (hN : W.heap.size = N) (hB : B ≤ W.heap.size) (e : TypeId) (size : Nat) : (W.alloc (.cells #[] e)).ownsRow B e size (.slice (some ⟨N, 0, none⟩) 0 0) 0 [] := by
  subst hN
  exact ⟨by simp, .inr ⟨W.heap.size, 0, #[], rfl, hB, by simpa using mkobj W (.cells #[] e), Nat.le_refl _, by unfold maxLen; omega, by simp, by simp⟩⟩
/-- the two boxes of Own, and what is kept -/
structure OSt (w W : World) (c : Array Value) : Prop where
  P : W.heap[w.heap.size]? = some (.cells c 28 (0, 0))
  Z : FObj W (w.heap.size + 1) (.int .u32 0) (.int .i64 0) (.int .i64 0) (.slice none 0 0) (.slice none 0 0) (.slice none 0 0) (.slice none 0 0) (.slice none 0 0)
  k : Kept w W
theorem OSt.size {w W : World} {c : Array Value} (h : OSt w W c) : w.heap.size + 2 ≤ W.heap.size := (Array.getElem?_eq_some_iff.1 h.Z).1
theorem OSt.step {w W yy : World} {c : Array Value} {e : TypeId} (h : OSt w W c) (g : (W.alloc (.cells #[] e)).grownBy yy (some W.heap.size)) (i : Nat) (u : Value) : OSt w (yy.setCell ⟨w.heap.size, i, none⟩ u) (c.setIfInBounds i u) := by
  have hs := h.size
  have hs' : W.heap.size < (W.alloc (.cells #[] e)).heap.size := by simp
  refine ⟨?_, ?_, ?_⟩
  · refine block_set1 ?_
    rw [g.block w.heap.size (by omega) (by intro e; injection e; omega), (walloc W _).block w.heap.size (by omega)]
    exact h.P
  · exact ((h.Z.grown (row := none) (grown_kept (walloc W _)) (by simp)).grown g (by intro e; injection e; omega)).grown (grown_set1 yy w.heap.size i u) (by intro e; injection e; omega)
  · exact Below.setCell (Below.grown (h.k.trans (walloc W _)) g (by have := h.k.size; omega) (fun j e => by injection e; omega)) (Nat.le_refl _) _
theorem OSt.row {w W yy : World} {c : Array Value} {e e' : TypeId} (_h : OSt w W c) (g : (W.alloc (.cells #[] e)).grownBy yy (some W.heap.size)) (i : Nat) (u : Value) {s n : Nat} {v : Value} {xs : List Value} (hr : W.ownsRow (w.heap.size + 2) e' s v n xs) :
    (yy.setCell ⟨w.heap.size, i, none⟩ u).ownsRow (w.heap.size + 2) e' s v n xs := by
  have hne : v.ownBlock = none ∨ v.ownBlock ≠ some W.heap.size := .inr fun e => by have := (hr.lt _ e).2; omega
  exact ((hr.alloc _).kept g hne).kept (grown_set1 yy w.heap.size i u) (.inr fun e => by have := (hr.lt _ e).1; omega)
theorem own_put {yy : World} {B P i : Nat} {u v : Value} {e : TypeId} {s n : Nat} {xs : List Value} (hr : yy.ownsRow B e s v n xs) (hP : P < B) : (yy.setCell ⟨P, i, none⟩ u).ownsRow B e s v n xs :=
  hr.kept (grown_set1 yy P i u) (.inr fun e => by have := (hr.lt _ e).1; omega)
theorem OSt.obj {w W : World} {v0 v1 v2 v3 v4 v5 v6 v7 : Value} (h : OSt w W #[v0, v1, v2, v3, v4, v5, v6, v7]) : FObj W w.heap.size v0 v1 v2 v3 v4 v5 v6 v7 := h.P

set_option maxRecDepth 100000 in
set_option maxHeartbeats 8000000 in
theorem own_any (F : Fnt) (a : FAddr) (w : World) (hF : FontAt w F a w.heap.size) (hw : F.wf) (hf : FFit F a) :
    Calls Tryz.prog 5 #[fontV F a] w fun e w' => ∃ b, e = .returned (fontV F b) ∧ FontAt w' F b w'.heap.size ∧ Kept w w' := by
  obtain ⟨i0, hi, hz0, hz1, hz2⟩ := info_parts infoMet
  obtain ⟨j0, ji, jz0, jz1, jz2⟩ := info_parts infoStep
  obtain ⟨k0, ki, kz0, kz1, kz2⟩ := info_parts infoInt
  obtain ⟨l0, li, lz0, lz1, lz2⟩ := info_parts infoArr4
  obtain ⟨W, hW⟩ : ∃ W, W = (w.alloc (.cells #[.int .u32 F.check, .int .i64 F.design, .int .i64 F.first, .slice a.A0 F.chars.length a.c0, .slice a.A1 F.steps.length a.c1, .slice a.A2 F.kerns.length a.c2, .slice a.A3 F.pieces.length a.c3, .slice a.A4 F.params.length a.c4] 28)).alloc (.cells #[.int .u32 0, .int .i64 0, .int .i64 0, .slice none 0 0, .slice none 0 0, .slice none 0 0, .slice none 0 0, .slice none 0 0] 28) := ⟨_, rfl⟩
  have hO : OSt w W #[.int .u32 F.check, .int .i64 F.design, .int .i64 F.first, .slice a.A0 F.chars.length a.c0, .slice a.A1 F.steps.length a.c1, .slice a.A2 F.kerns.length a.c2, .slice a.A3 F.pieces.length a.c3, .slice a.A4 F.params.length a.c4] := by
    rw [hW]
    refine ⟨?_, ?_, (walloc _ _).trans (walloc _ _)⟩
    · rw [(walloc _ _).block w.heap.size (by simp)]; exact mkobj _ _
    · have := mkobj (w.alloc (.cells #[.int .u32 F.check, .int .i64 F.design, .int .i64 F.first, .slice a.A0 F.chars.length a.c0, .slice a.A1 F.steps.length a.c1, .slice a.A2 F.kerns.length a.c2, .slice a.A3 F.pieces.length a.c3, .slice a.A4 F.params.length a.c4] 28)) (.cells #[.int .u32 0, .int .i64 0, .int .i64 0, .slice none 0 0, .slice none 0 0, .slice none 0 0, .slice none 0 0, .slice none 0 0] 28)
      unfold FObj
      simpa using this
  have hN : W.heap.size = w.heap.size + 1 + 1 := by rw [hW]; simp
  have HW := Lib.hid hW
  have n0 := fun W' (h : Kept w W') => Lib.hid (mets_news (hF.m.kept h))
  have n1 := fun W' (h : Kept w W') => Lib.hid (sts_news (hF.s.kept h))
  have n2 := fun W' (h : Kept w W') => Lib.hid (nums_news (hF.k.kept h))
  have n3 := fun W' (h : Kept w W') => Lib.hid (sts_news (hF.p.kept h))
  have n4 := fun W' (h : Kept w W') => Lib.hid (nums_news (hF.q.kept h))
  have HFit := Lib.hid hf
  have HWF := Lib.hid hw
  clear hW hF hf hw
  go_enter Tryz.func5, Tryz.ntmps5
  have hs0 : w.heap.size + 2 ≤ W.heap.size := hO.size
  go_wp2_with (at_builtin; rw [← HW.out]; refine wpList_append_in rfl _ _ 23 rfl (w.heap.size + 2) 43 i0 (.agg #[.int .i64 0, .int .i64 0, .int .i64 0, .int .i64 0, .int .i64 0, .int .i64 0]) 6 48 Tryz.underlying23 hi hz0 hz1 hz2 rfl (by decide) _ 0 [] rfl (own_empty W (w.heap.size + 2) _ hN hs0 43 6) a.A0 F.chars.length a.c0 (F.chars.flatMap metC) rfl HFit.out.r0.1 (flatv_len metC 6 (fun _ => rfl) F.chars) (n0 _ (hO.k.trans (walloc _ _))).out ?a1 ?a2 ?a3 ?a4 ?_)
  case a1 => intro u hu; obtain ⟨x, _, hx⟩ := List.mem_flatMap.1 hu; simp [metC] at hx; rcases hx with rfl | rfl | rfl | rfl | rfl | rfl <;> rfl
  case a2 => have := HWF.out.l0; omega
  case a3 => have := HFit.out.r0.2; omega
  case a4 => simp; omega
  intro q0 y0 hown0 hgr0 _
  rw [show Value.ownBlock (.slice (some ⟨w.heap.size + 1 + 1, 0, none⟩) 0 0) = some W.heap.size by rw [hN]; rfl] at hgr0
  obtain ⟨A0, m0, c0, rfl⟩ := own_slice hown0
  obtain ⟨_, _, rfl⟩ := own_mets' (l := F.chars) hown0 rfl
  obtain ⟨W0, hW0⟩ : ∃ X, X = y0.setCell ⟨w.heap.size, 3, none⟩ (.slice A0 F.chars.length c0) := ⟨_, rfl⟩
  have hO0 : OSt w W0 #[.int .u32 F.check, .int .i64 F.design, .int .i64 F.first, .slice A0 F.chars.length c0, .slice a.A1 F.steps.length a.c1, .slice a.A2 F.kerns.length a.c2, .slice a.A3 F.pieces.length a.c3, .slice a.A4 F.params.length a.c4] := by rw [hW0]; exact hO.step hgr0 3 _
  have r0_0 := (by rw [hW0]; exact own_put hown0 (by omega) : W0.ownsRow (w.heap.size + 2) 43 6 (.slice A0 F.chars.length c0) F.chars.length (F.chars.flatMap metC))
  have g0 := ((hO.k.trans (walloc W (.cells #[] 43))).grown hgr0 (by simp; have := hO.k.size; omega) (fun j e => by injection e; omega) : Kept w y0)
  have hY0 : FObj y0 w.heap.size (.int .u32 F.check) (.int .i64 F.design) (.int .i64 F.first) (.slice a.A0 F.chars.length a.c0) (.slice a.A1 F.steps.length a.c1) (.slice a.A2 F.kerns.length a.c2) (.slice a.A3 F.pieces.length a.c3) (.slice a.A4 F.params.length a.c4) := ((hO.obj.grown (row := none) (grown_kept (walloc W _)) (by simp)).grown hgr0 (by intro e; injection e; omega))
  have hZ0 := ((hO.Z.grown (row := none) (grown_kept (walloc W _)) (by simp)).grown hgr0 (by intro e; injection e; omega))
  have hN1 : W0.heap.size = y0.heap.size := by rw [hW0]; simp [World.setCell]
  have HW0 := Lib.hid hW0
  clear hW0 hown0 hgr0  hO hs0
  have hs1 : w.heap.size + 2 ≤ W0.heap.size := hO0.size
  obtain ⟨p0, p1, p2, p3, p4, p5, p6, p7, pf, pl⟩ := FObj.cells hY0
  go_wp2_with (at_builtin; rw [← HW0.out]; refine wpList_append_in rfl _ _ 24 rfl (w.heap.size + 2) 71 j0 (.agg #[.int .u8 0, .int .u8 0, .int .u8 0, .int .u8 0]) 4 4 Tryz.underlying24 ji jz0 jz1 jz2 rfl (by decide) _ 0 [] rfl (own_empty W0 (w.heap.size + 2) _ hN1 hs1 71 4) a.A1 F.steps.length a.c1 (F.steps.flatMap stC) rfl HFit.out.r1.1 (flatv_len stC 4 (fun _ => rfl) F.steps) (n1 _ (hO0.k.trans (walloc _ _))).out ?a1 ?a2 ?a3 ?a4 ?_)
  case a1 => intro u hu; obtain ⟨x, _, hx⟩ := List.mem_flatMap.1 hu; simp [stC] at hx; rcases hx with rfl | rfl | rfl | rfl <;> rfl
  case a2 => have := HWF.out.l1; omega
  case a3 => have := HFit.out.r1.2; omega
  case a4 => simp; omega
  intro q1 y1 hown1 hgr1 _
  rw [show Value.ownBlock (.slice (some ⟨y0.heap.size, 0, none⟩) 0 0) = some W0.heap.size by rw [hN1]; rfl] at hgr1
  obtain ⟨A1, m1, c1, rfl⟩ := own_slice hown1
  obtain ⟨_, _, rfl⟩ := own_sts' (l := F.steps) hown1 rfl
  obtain ⟨W1, hW1⟩ : ∃ X, X = y1.setCell ⟨w.heap.size, 4, none⟩ (.slice A1 F.steps.length c1) := ⟨_, rfl⟩
  have hO1 : OSt w W1 #[.int .u32 F.check, .int .i64 F.design, .int .i64 F.first, .slice A0 F.chars.length c0, .slice A1 F.steps.length c1, .slice a.A2 F.kerns.length a.c2, .slice a.A3 F.pieces.length a.c3, .slice a.A4 F.params.length a.c4] := by rw [hW1]; exact hO0.step hgr1 4 _
  have r0_1 := (by rw [hW1]; exact hO0.row hgr1 4 _ r0_0 : W1.ownsRow (w.heap.size + 2) 43 6 (.slice A0 F.chars.length c0) F.chars.length (F.chars.flatMap metC))
  have r1_1 := (by rw [hW1]; exact own_put hown1 (by omega) : W1.ownsRow (w.heap.size + 2) 71 4 (.slice A1 F.steps.length c1) F.steps.length (F.steps.flatMap stC))
  have g1 := ((hO0.k.trans (walloc W0 (.cells #[] 71))).grown hgr1 (by simp; have := hO0.k.size; omega) (fun j e => by injection e; omega) : Kept w y1)
  have hY1 : FObj y1 w.heap.size (.int .u32 F.check) (.int .i64 F.design) (.int .i64 F.first) (.slice A0 F.chars.length c0) (.slice a.A1 F.steps.length a.c1) (.slice a.A2 F.kerns.length a.c2) (.slice a.A3 F.pieces.length a.c3) (.slice a.A4 F.params.length a.c4) := ((hO0.obj.grown (row := none) (grown_kept (walloc W0 _)) (by simp)).grown hgr1 (by intro e; injection e; omega))
  have hZ1 := ((hO0.Z.grown (row := none) (grown_kept (walloc W0 _)) (by simp)).grown hgr1 (by intro e; injection e; omega))
  have hN2 : W1.heap.size = y1.heap.size := by rw [hW1]; simp [World.setCell]
  have HW1 := Lib.hid hW1
  clear hW1 hown1 hgr1 p0 p1 p2 p3 p4 p5 p6 p7 pf pl hO0 hs1
  have hs2 : w.heap.size + 2 ≤ W1.heap.size := hO1.size
  obtain ⟨p0, p1, p2, p3, p4, p5, p6, p7, pf, pl⟩ := FObj.cells hY1
  go_wp2_with (at_builtin; rw [← HW1.out]; refine wpList_append_in rfl _ _ 25 rfl (w.heap.size + 2) 3 k0 (.int .i64 0) 1 8 Tryz.underlying25 ki kz0 kz1 kz2 rfl (by decide) _ 0 [] rfl (own_empty W1 (w.heap.size + 2) _ hN2 hs2 3 1) a.A2 F.kerns.length a.c2 (F.kerns.map (Value.int .i64)) rfl HFit.out.r2.1 (by simp) (n2 _ (hO1.k.trans (walloc _ _))).out ?a1 ?a2 ?a3 ?a4 ?_)
  case a1 => intro u hu; obtain ⟨x, _, rfl⟩ := List.mem_map.1 hu; rfl
  case a2 => have := HWF.out.l2; omega
  case a3 => have := HFit.out.r2.2; omega
  case a4 => simp; omega
  intro q2 y2 hown2 hgr2 _
  rw [show Value.ownBlock (.slice (some ⟨y1.heap.size, 0, none⟩) 0 0) = some W1.heap.size by rw [hN2]; rfl] at hgr2
  obtain ⟨A2, m2, c2, rfl⟩ := own_slice hown2
  obtain ⟨_, _, rfl⟩ := own_nums' (l := F.kerns) (show IRow _ _ _ _ from hown2)
  obtain ⟨W2, hW2⟩ : ∃ X, X = y2.setCell ⟨w.heap.size, 5, none⟩ (.slice A2 F.kerns.length c2) := ⟨_, rfl⟩
  have hO2 : OSt w W2 #[.int .u32 F.check, .int .i64 F.design, .int .i64 F.first, .slice A0 F.chars.length c0, .slice A1 F.steps.length c1, .slice A2 F.kerns.length c2, .slice a.A3 F.pieces.length a.c3, .slice a.A4 F.params.length a.c4] := by rw [hW2]; exact hO1.step hgr2 5 _
  have r0_2 := (by rw [hW2]; exact hO1.row hgr2 5 _ r0_1 : W2.ownsRow (w.heap.size + 2) 43 6 (.slice A0 F.chars.length c0) F.chars.length (F.chars.flatMap metC))
  have r1_2 := (by rw [hW2]; exact hO1.row hgr2 5 _ r1_1 : W2.ownsRow (w.heap.size + 2) 71 4 (.slice A1 F.steps.length c1) F.steps.length (F.steps.flatMap stC))
  have r2_2 := (by rw [hW2]; exact own_put hown2 (by omega) : W2.ownsRow (w.heap.size + 2) 3 1 (.slice A2 F.kerns.length c2) F.kerns.length (F.kerns.map (Value.int .i64)))
  have g2 := ((hO1.k.trans (walloc W1 (.cells #[] 3))).grown hgr2 (by simp; have := hO1.k.size; omega) (fun j e => by injection e; omega) : Kept w y2)
  have hY2 : FObj y2 w.heap.size (.int .u32 F.check) (.int .i64 F.design) (.int .i64 F.first) (.slice A0 F.chars.length c0) (.slice A1 F.steps.length c1) (.slice a.A2 F.kerns.length a.c2) (.slice a.A3 F.pieces.length a.c3) (.slice a.A4 F.params.length a.c4) := ((hO1.obj.grown (row := none) (grown_kept (walloc W1 _)) (by simp)).grown hgr2 (by intro e; injection e; omega))
  have hZ2 := ((hO1.Z.grown (row := none) (grown_kept (walloc W1 _)) (by simp)).grown hgr2 (by intro e; injection e; omega))
  have hN3 : W2.heap.size = y2.heap.size := by rw [hW2]; simp [World.setCell]
  have HW2 := Lib.hid hW2
  clear hW2 hown2 hgr2 p0 p1 p2 p3 p4 p5 p6 p7 pf pl hO1 hs2
  have hs3 : w.heap.size + 2 ≤ W2.heap.size := hO2.size
  obtain ⟨p0, p1, p2, p3, p4, p5, p6, p7, pf, pl⟩ := FObj.cells hY2
  go_wp2_with (at_builtin; rw [← HW2.out]; refine wpList_append_in rfl _ _ 26 rfl (w.heap.size + 2) 74 l0 (.agg #[.int .u8 0, .int .u8 0, .int .u8 0, .int .u8 0]) 4 4 Tryz.underlying26 li lz0 lz1 lz2 rfl (by decide) _ 0 [] rfl (own_empty W2 (w.heap.size + 2) _ hN3 hs3 74 4) a.A3 F.pieces.length a.c3 (F.pieces.flatMap stC) rfl HFit.out.r3.1 (flatv_len stC 4 (fun _ => rfl) F.pieces) (n3 _ (hO2.k.trans (walloc _ _))).out ?a1 ?a2 ?a3 ?a4 ?_)
  case a1 => intro u hu; obtain ⟨x, _, hx⟩ := List.mem_flatMap.1 hu; simp [stC] at hx; rcases hx with rfl | rfl | rfl | rfl <;> rfl
  case a2 => have := HWF.out.l3; omega
  case a3 => have := HFit.out.r3.2; omega
  case a4 => simp; omega
  intro q3 y3 hown3 hgr3 _
  rw [show Value.ownBlock (.slice (some ⟨y2.heap.size, 0, none⟩) 0 0) = some W2.heap.size by rw [hN3]; rfl] at hgr3
  obtain ⟨A3, m3, c3, rfl⟩ := own_slice hown3
  obtain ⟨_, _, rfl⟩ := own_sts' (l := F.pieces) hown3 rfl
  obtain ⟨W3, hW3⟩ : ∃ X, X = y3.setCell ⟨w.heap.size, 6, none⟩ (.slice A3 F.pieces.length c3) := ⟨_, rfl⟩
  have hO3 : OSt w W3 #[.int .u32 F.check, .int .i64 F.design, .int .i64 F.first, .slice A0 F.chars.length c0, .slice A1 F.steps.length c1, .slice A2 F.kerns.length c2, .slice A3 F.pieces.length c3, .slice a.A4 F.params.length a.c4] := by rw [hW3]; exact hO2.step hgr3 6 _
  have r0_3 := (by rw [hW3]; exact hO2.row hgr3 6 _ r0_2 : W3.ownsRow (w.heap.size + 2) 43 6 (.slice A0 F.chars.length c0) F.chars.length (F.chars.flatMap metC))
  have r1_3 := (by rw [hW3]; exact hO2.row hgr3 6 _ r1_2 : W3.ownsRow (w.heap.size + 2) 71 4 (.slice A1 F.steps.length c1) F.steps.length (F.steps.flatMap stC))
  have r2_3 := (by rw [hW3]; exact hO2.row hgr3 6 _ r2_2 : W3.ownsRow (w.heap.size + 2) 3 1 (.slice A2 F.kerns.length c2) F.kerns.length (F.kerns.map (Value.int .i64)))
  have r3_3 := (by rw [hW3]; exact own_put hown3 (by omega) : W3.ownsRow (w.heap.size + 2) 74 4 (.slice A3 F.pieces.length c3) F.pieces.length (F.pieces.flatMap stC))
  have g3 := ((hO2.k.trans (walloc W2 (.cells #[] 74))).grown hgr3 (by simp; have := hO2.k.size; omega) (fun j e => by injection e; omega) : Kept w y3)
  have hY3 : FObj y3 w.heap.size (.int .u32 F.check) (.int .i64 F.design) (.int .i64 F.first) (.slice A0 F.chars.length c0) (.slice A1 F.steps.length c1) (.slice A2 F.kerns.length c2) (.slice a.A3 F.pieces.length a.c3) (.slice a.A4 F.params.length a.c4) := ((hO2.obj.grown (row := none) (grown_kept (walloc W2 _)) (by simp)).grown hgr3 (by intro e; injection e; omega))
  have hZ3 := ((hO2.Z.grown (row := none) (grown_kept (walloc W2 _)) (by simp)).grown hgr3 (by intro e; injection e; omega))
  have hN4 : W3.heap.size = y3.heap.size := by rw [hW3]; simp [World.setCell]
  have HW3 := Lib.hid hW3
  clear hW3 hown3 hgr3 p0 p1 p2 p3 p4 p5 p6 p7 pf pl hO2 hs3
  have hs4 : w.heap.size + 2 ≤ W3.heap.size := hO3.size
  obtain ⟨p0, p1, p2, p3, p4, p5, p6, p7, pf, pl⟩ := FObj.cells hY3
  go_wp2_with (at_builtin; rw [← HW3.out]; refine wpList_append_in rfl _ _ 25 rfl (w.heap.size + 2) 3 k0 (.int .i64 0) 1 8 Tryz.underlying25 ki kz0 kz1 kz2 rfl (by decide) _ 0 [] rfl (own_empty W3 (w.heap.size + 2) _ hN4 hs4 3 1) a.A4 F.params.length a.c4 (F.params.map (Value.int .i64)) rfl HFit.out.r4.1 (by simp) (n4 _ (hO3.k.trans (walloc _ _))).out ?a1 ?a2 ?a3 ?a4 ?_)
  case a1 => intro u hu; obtain ⟨x, _, rfl⟩ := List.mem_map.1 hu; rfl
  case a2 => have := HWF.out.l4; omega
  case a3 => have := HFit.out.r4.2; omega
  case a4 => simp; omega
  intro q4 y4 hown4 hgr4 _
  rw [show Value.ownBlock (.slice (some ⟨y3.heap.size, 0, none⟩) 0 0) = some W3.heap.size by rw [hN4]; rfl] at hgr4
  obtain ⟨A4, m4, c4, rfl⟩ := own_slice hown4
  obtain ⟨_, _, rfl⟩ := own_nums' (l := F.params) (show IRow _ _ _ _ from hown4)
  obtain ⟨W4, hW4⟩ : ∃ X, X = y4.setCell ⟨w.heap.size, 7, none⟩ (.slice A4 F.params.length c4) := ⟨_, rfl⟩
  have hO4 : OSt w W4 #[.int .u32 F.check, .int .i64 F.design, .int .i64 F.first, .slice A0 F.chars.length c0, .slice A1 F.steps.length c1, .slice A2 F.kerns.length c2, .slice A3 F.pieces.length c3, .slice A4 F.params.length c4] := by rw [hW4]; exact hO3.step hgr4 7 _
  have r0_4 := (by rw [hW4]; exact hO3.row hgr4 7 _ r0_3 : W4.ownsRow (w.heap.size + 2) 43 6 (.slice A0 F.chars.length c0) F.chars.length (F.chars.flatMap metC))
  have r1_4 := (by rw [hW4]; exact hO3.row hgr4 7 _ r1_3 : W4.ownsRow (w.heap.size + 2) 71 4 (.slice A1 F.steps.length c1) F.steps.length (F.steps.flatMap stC))
  have r2_4 := (by rw [hW4]; exact hO3.row hgr4 7 _ r2_3 : W4.ownsRow (w.heap.size + 2) 3 1 (.slice A2 F.kerns.length c2) F.kerns.length (F.kerns.map (Value.int .i64)))
  have r3_4 := (by rw [hW4]; exact hO3.row hgr4 7 _ r3_3 : W4.ownsRow (w.heap.size + 2) 74 4 (.slice A3 F.pieces.length c3) F.pieces.length (F.pieces.flatMap stC))
  have r4_4 := (by rw [hW4]; exact own_put hown4 (by omega) : W4.ownsRow (w.heap.size + 2) 3 1 (.slice A4 F.params.length c4) F.params.length (F.params.map (Value.int .i64)))
  have g4 := ((hO3.k.trans (walloc W3 (.cells #[] 3))).grown hgr4 (by simp; have := hO3.k.size; omega) (fun j e => by injection e; omega) : Kept w y4)
  have hY4 : FObj y4 w.heap.size (.int .u32 F.check) (.int .i64 F.design) (.int .i64 F.first) (.slice A0 F.chars.length c0) (.slice A1 F.steps.length c1) (.slice A2 F.kerns.length c2) (.slice A3 F.pieces.length c3) (.slice a.A4 F.params.length a.c4) := ((hO3.obj.grown (row := none) (grown_kept (walloc W3 _)) (by simp)).grown hgr4 (by intro e; injection e; omega))
  have hZ4 := ((hO3.Z.grown (row := none) (grown_kept (walloc W3 _)) (by simp)).grown hgr4 (by intro e; injection e; omega))
  have hN5 : W4.heap.size = y4.heap.size := by rw [hW4]; simp [World.setCell]
  have HW4 := Lib.hid hW4
  clear hW4 hown4 hgr4 p0 p1 p2 p3 p4 p5 p6 p7 pf pl hO3 hs4
  obtain ⟨p0, p1, p2, p3, p4, p5, p6, p7, pf, pl⟩ := FObj.cells hY4
  obtain ⟨z0, z1, z2, z3, z4, z5, z6, z7, zf, zl⟩ := FObj.cells hZ4
  go_wp2_with (fail)
  rw [← HW4.out]
  have g8 := grown_set8 W4 (w.heap.size + 1) (.int .u32 F.check) (.int .i64 F.design) (.int .i64 F.first) (.slice A0 F.chars.length c0) (.slice A1 F.steps.length c1) (.slice A2 F.kerns.length c2) (.slice A3 F.pieces.length c3) (.slice A4 F.params.length c4)
  have hz : ∀ {e' : TypeId} {s n : Nat} {v : Value} {xs : List Value}, W4.ownsRow (w.heap.size + 2) e' s v n xs → v.ownBlock = none ∨ v.ownBlock ≠ some (w.heap.size + 1) := fun h => .inr fun e => by have := (h.lt _ e).1; omega
  have q0 := own_mets' (r0_4.kept g8 (hz r0_4)) rfl
  have q1 := own_sts' (r1_4.kept g8 (hz r1_4)) rfl
  have q2 := own_nums' (l := F.kerns) (by unfold IRow; exact r2_4.kept g8 (hz r2_4))
  have q3 := own_sts' (r3_4.kept g8 (hz r3_4)) rfl
  have q4 := own_nums' (l := F.params) (by unfold IRow; exact r4_4.kept g8 (hz r4_4))
  have hk : Kept w (set8w W4 (w.heap.size + 1) (.int .u32 F.check) (.int .i64 F.design) (.int .i64 F.first) (.slice A0 F.chars.length c0) (.slice A1 F.steps.length c1) (.slice A2 F.kerns.length c2) (.slice A3 F.pieces.length c3) (.slice A4 F.params.length c4)) := Below.grown hO4.k g8 hO4.k.size (fun j e => by injection e; omega)
  obtain ⟨u0, u1, u2, u3, u4, u5, u6, u7, _, _⟩ := FObj.cells (FObj.set8 (u0 := .int .u32 F.check) (u1 := .int .i64 F.design) (u2 := .int .i64 F.first) (u3 := .slice A0 F.chars.length c0) (u4 := .slice A1 F.steps.length c1) (u5 := .slice A2 F.kerns.length c2) (u6 := .slice A3 F.pieces.length c3) (u7 := .slice A4 F.params.length c4) hO4.Z)
  exact bodyPost_ret (v := fontV F ⟨A0, c0, A1, c1, A2, c2, A3, c3, A4, c4⟩) (by simp [results, Tryz.results5, go_sem, u0, u1, u2, u3, u4, u5, u6, u7]) rfl
    ⟨⟨A0, c0, A1, c1, A2, c2, A3, c3, A4, c4⟩, rfl, ⟨q0.1, q1.1, q2.1, q3.1, q4.1, q0.2.1, q1.2.1, q2.2.1, q3.2.1, q4.2.1⟩, hk⟩
end Go.Proofs.YtdhidpbenhmfgaaGreat
