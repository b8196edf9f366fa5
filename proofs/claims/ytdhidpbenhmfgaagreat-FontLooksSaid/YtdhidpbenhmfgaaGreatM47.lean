/- FMetric FAt. -/
import Derived.Test.YtdhidpbenhmfgaaGreatFCheck
namespace Go.Proofs.YtdhidpbenhmfgaaGreat
open Go.RowKit

set_option maxRecDepth 100000 in
set_option maxHeartbeats 2000000 in
theorem metric_any (F : Fnt) (a : FAddr) (c : Int) (w : World) (hF : FontAt w F a w.heap.size) (hw : F.wf) (hc : 0 ≤ c ∧ c ≤ 255) :
    Calls Tryz.prog 14 #[fontV F a, .int .u8 c] w fun e w' => e = .returned (.tuple #[.agg #[.int .i64 (metV F c).w, .int .i64 (metV F c).h, .int .i64 (metV F c).d, .int .i64 (metV F c).it, .int .i64 (metV F c).tag, .int .i64 (metV F c).rest], .bool (thB F c)]) ∧ Kept w w' := by
  have hth := fun w' (hk : Kept w w') => Lib.hid (there_any F a c w' ((hF.kept hk).more hk.size) ⟨by unfold i64B; omega, hw.first, hw.l0, .inl hc⟩)
  obtain ⟨hc0, hc1⟩ := hc
  have hl0 : F.chars.length ≤ 9223372036854775807 := hw.l0
  obtain ⟨A0, n0, A1, n1, A2, n2, A3, n3, A4, n4⟩ := a
  obtain ⟨W, hW⟩ : ∃ W, W = (w.alloc (.cells #[.int .u32 F.check, .int .i64 F.design, .int .i64 F.first, .slice A0 F.chars.length n0, .slice A1 F.steps.length n1, .slice A2 F.kerns.length n2, .slice A3 F.pieces.length n3, .slice A4 F.params.length n4] 28)).alloc (.cells #[.int .i64 0, .int .i64 0, .int .i64 0, .int .i64 0, .int .i64 0, .int .i64 0] 43) := ⟨_, rfl⟩
  have hk0 : Kept w W := by rw [hW]; exact (walloc _ _).trans (walloc _ _)
  have hB : FBox W w.heap.size F ⟨A0, n0, A1, n1, A2, n2, A3, n3, A4, n4⟩ := by rw [hW]; exact FBox.kept (FBox.of_obj (mkobj _ _)) (walloc _ _)
  have hM : W.heap[w.heap.size + 1]? = some (.cells #[.int .i64 0, .int .i64 0, .int .i64 0, .int .i64 0, .int .i64 0, .int .i64 0] 43 (0, 0)) := by
    rw [hW]
    have := mkobj (w.alloc (.cells #[.int .u32 F.check, .int .i64 F.design, .int .i64 F.first, .slice A0 F.chars.length n0, .slice A1 F.steps.length n1, .slice A2 F.kerns.length n2, .slice A3 F.pieces.length n3, .slice A4 F.params.length n4] 28)) (.cells #[.int .i64 0, .int .i64 0, .int .i64 0, .int .i64 0, .int .i64 0, .int .i64 0] 43)
    simpa using this
  have hm := fun w' (hk : Kept W w') => Lib.hid (mbox ((hk.block (w.heap.size + 1) (by
    rcases Nat.lt_or_ge (w.heap.size + 1) W.heap.size with h' | h'
    · exact h'
    · rw [Array.getElem?_eq_none h'] at hM; cases hM)).trans hM))
  have HW := Lib.hid hW
  have Hm := Lib.hid hF.m
  clear hW hM hw hF
  cases ht : thereAt F c with
  | none =>
    obtain ⟨e1, e2⟩ := there_no ht
    have e3 : metV F c = ⟨0, 0, 0, 0, 0, 0⟩ := by unfold metV; rw [ht]
    rw [e1, e2] at hth
    rw [e2, e3]
    clear e1 e2 e3 ht
    go_enter Tryz.func14, Tryz.ntmps14
    go_wp2_with (fail)
    rw [← HW.out]
    refine (hth _ hk0).out.mono ?_
    rintro e w1 ⟨rfl, k1⟩
    obtain ⟨t0, t1, t2, t3, t4, t5, tf, tl⟩ := (hm _ k1).out
    have kw : Kept w w1 := hk0.trans k1
    go_wp2_with (fail)
    exact bodyPost_ret (v := .tuple #[.agg #[.int .i64 0, .int .i64 0, .int .i64 0, .int .i64 0, .int .i64 0, .int .i64 0], .bool false]) (by simp [results, Tryz.results14, go_sem, t0, t1, t2, t3, t4, t5]) rfl ⟨rfl, (Below.setCell (Below.setCell (Below.setCell (Below.setCell (Below.setCell (Below.setCell kw (by simp; try omega) _) (by simp; try omega) _) (by simp; try omega) _) (by simp; try omega) _) (by simp; try omega) _) (by simp; try omega) _)⟩
  | some k =>
    obtain ⟨e1, e2⟩ := there_yes ht
    have hk := there_lt ht
    have e3 : metV F c = F.chars[k] := by unfold metV; rw [ht]; simp only [List.getElem?_eq_getElem hk]; rfl
    rw [e1, e2] at hth
    rw [e2, e3]
    obtain ⟨b, o, hA, hbl, hcell⟩ := Hm.out (by omega)
    obtain rfl : A0 = some ⟨b, o, none⟩ := hA
    have hq : ∀ w', Kept W w' → ∀ j, w'.cell? ⟨b, j, none⟩ = w.cell? ⟨b, j, none⟩ := fun w' hk j => (hk0.trans hk).cell (p := ⟨b, j, none⟩) hbl
    have hcl := hcell k hk
    obtain ⟨m, hmm⟩ : ∃ m, F.chars[k] = m := ⟨_, rfl⟩
    rw [hmm] at hcl
    rw [hmm]
    obtain ⟨q0, q1, q2, q3, q4, q5⟩ := hcl
    have hQ := fun w' (hk : Kept W w') => Lib.hid (And.intro ((hq w' hk _).trans q0) (And.intro ((hq w' hk _).trans q1) (And.intro ((hq w' hk _).trans q2) (And.intro ((hq w' hk _).trans q3) (And.intro ((hq w' hk _).trans q4) ((hq w' hk _).trans q5))))))
    clear e1 e2 e3 ht hmm hcell hq q0 q1 q2 q3 q4 q5
    go_enter Tryz.func14, Tryz.ntmps14
    go_wp2_with (fail)
    rw [← HW.out]
    refine (hth _ hk0).out.mono ?_
    rintro e w1 ⟨rfl, k1⟩
    obtain ⟨t0, t1, t2, t3, t4, t5, tf, tl⟩ := (hm _ k1).out
    obtain ⟨b0, b1, b2, b3, b4, b5, b6, b7, bl⟩ := hB.kept k1
    obtain ⟨q0, q1, q2, q3, q4, q5⟩ := (hQ _ k1).out
    have kw : Kept w w1 := hk0.trans k1
    go_wp2_with (fail)
    exact bodyPost_ret (v := .tuple #[.agg #[.int .i64 m.w, .int .i64 m.h, .int .i64 m.d, .int .i64 m.it, .int .i64 m.tag, .int .i64 m.rest], .bool true]) (by simp [results, Tryz.results14, go_sem, t0, t1, t2, t3, t4, t5]) rfl ⟨rfl, (Below.setCell (Below.setCell (Below.setCell (Below.setCell (Below.setCell (Below.setCell kw (by simp; try omega) _) (by simp; try omega) _) (by simp; try omega) _) (by simp; try omega) _) (by simp; try omega) _) (by simp; try omega) _)⟩
end Go.Proofs.YtdhidpbenhmfgaaGreat
namespace Go.Proofs.YtdhidpbenhmfgaaGreat
open Go.RowKit

set_option maxRecDepth 100000 in
set_option maxHeartbeats 2000000 in
theorem at_bad (F : Fnt) (a : FAddr) (c n : Int) (w : World) (hF : FontAt w F a w.heap.size) (hw : F.wf) (h : fontE F = 40) :
    Calls Tryz.prog 18 #[fontV F a, .int .u8 c, .int .i64 n] w fun e w' => e = .returned (.tuple #[.int .i64 0, .int .i64 0, .int .i64 0, .int .i64 0, .int .i64 40]) ∧ Kept w w' := by
  obtain ⟨W, hW⟩ : ∃ W, W = w.alloc (.cells #[.int .u32 F.check, .int .i64 F.design, .int .i64 F.first, .slice a.A0 F.chars.length a.c0, .slice a.A1 F.steps.length a.c1, .slice a.A2 F.kerns.length a.c2, .slice a.A3 F.pieces.length a.c3, .slice a.A4 F.params.length a.c4] 28) := ⟨_, rfl⟩
  have hk0 : Kept w W := by rw [hW]; exact walloc _ _
  have hB : FBox W w.heap.size F a := FBox.of_obj (by rw [hW]; exact mkobj _ _)
  have hs := fun w' (hk : Kept w w') => Lib.hid (fcheck_any F a w' ((hF.kept hk).more hk.size) hw)
  have HW := Lib.hid hW
  clear hW
  rw [h] at hs
  clear h
  go_enter Tryz.func18, Tryz.ntmps18
  go_wp2_with (fail)
  rw [← HW.out]
  refine (hs _ hk0).out.mono ?_
  rintro e w1 ⟨rfl, k1⟩
  have kw : Kept w w1 := hk0.trans k1
  obtain ⟨b0, b1, b2, b3, b4, b5, b6, b7, bl⟩ := hB.kept k1
  go_wp2_with (fail)
  exact bodyPost_ret (v := .tuple #[.int .i64 0, .int .i64 0, .int .i64 0, .int .i64 0, .int .i64 40]) (by simp [results, Tryz.results18, go_sem]) rfl ⟨rfl, kw⟩

set_option maxRecDepth 100000 in
set_option maxHeartbeats 2000000 in
theorem at_lo (F : Fnt) (a : FAddr) (c n : Int) (w : World) (hF : FontAt w F a w.heap.size) (hw : F.wf) (h : fontE F = 0) (h0 : n < 1) :
    Calls Tryz.prog 18 #[fontV F a, .int .u8 c, .int .i64 n] w fun e w' => e = .returned (.tuple #[.int .i64 0, .int .i64 0, .int .i64 0, .int .i64 0, .int .i64 11]) ∧ Kept w w' := by
  obtain ⟨W, hW⟩ : ∃ W, W = w.alloc (.cells #[.int .u32 F.check, .int .i64 F.design, .int .i64 F.first, .slice a.A0 F.chars.length a.c0, .slice a.A1 F.steps.length a.c1, .slice a.A2 F.kerns.length a.c2, .slice a.A3 F.pieces.length a.c3, .slice a.A4 F.params.length a.c4] 28) := ⟨_, rfl⟩
  have hk0 : Kept w W := by rw [hW]; exact walloc _ _
  have hB : FBox W w.heap.size F a := FBox.of_obj (by rw [hW]; exact mkobj _ _)
  have hs := fun w' (hk : Kept w w') => Lib.hid (fcheck_any F a w' ((hF.kept hk).more hk.size) hw)
  have HW := Lib.hid hW
  clear hW
  rw [h] at hs
  clear h
  have f0 : decide (n < 1) = true := decide_eq_true h0
  go_enter Tryz.func18, Tryz.ntmps18
  go_wp2_with (fail)
  rw [← HW.out]
  refine (hs _ hk0).out.mono ?_
  rintro e w1 ⟨rfl, k1⟩
  have kw : Kept w w1 := hk0.trans k1
  obtain ⟨b0, b1, b2, b3, b4, b5, b6, b7, bl⟩ := hB.kept k1
  go_wp2_with (fail)
  exact bodyPost_ret (v := .tuple #[.int .i64 0, .int .i64 0, .int .i64 0, .int .i64 0, .int .i64 11]) (by simp [results, Tryz.results18, go_sem]) rfl ⟨rfl, kw⟩

set_option maxRecDepth 100000 in
set_option maxHeartbeats 2000000 in
theorem at_hi (F : Fnt) (a : FAddr) (c n : Int) (w : World) (hF : FontAt w F a w.heap.size) (hw : F.wf) (h : fontE F = 0) (h0 : ¬ n < 1) (h1 : 134217728 ≤ n) :
    Calls Tryz.prog 18 #[fontV F a, .int .u8 c, .int .i64 n] w fun e w' => e = .returned (.tuple #[.int .i64 0, .int .i64 0, .int .i64 0, .int .i64 0, .int .i64 11]) ∧ Kept w w' := by
  obtain ⟨W, hW⟩ : ∃ W, W = w.alloc (.cells #[.int .u32 F.check, .int .i64 F.design, .int .i64 F.first, .slice a.A0 F.chars.length a.c0, .slice a.A1 F.steps.length a.c1, .slice a.A2 F.kerns.length a.c2, .slice a.A3 F.pieces.length a.c3, .slice a.A4 F.params.length a.c4] 28) := ⟨_, rfl⟩
  have hk0 : Kept w W := by rw [hW]; exact walloc _ _
  have hB : FBox W w.heap.size F a := FBox.of_obj (by rw [hW]; exact mkobj _ _)
  have hs := fun w' (hk : Kept w w') => Lib.hid (fcheck_any F a w' ((hF.kept hk).more hk.size) hw)
  have HW := Lib.hid hW
  clear hW
  rw [h] at hs
  clear h
  have f0 : decide (n < 1) = false := decide_eq_false h0
  have f1 : decide (134217728 ≤ n) = true := decide_eq_true h1
  go_enter Tryz.func18, Tryz.ntmps18
  go_wp2_with (fail)
  rw [← HW.out]
  refine (hs _ hk0).out.mono ?_
  rintro e w1 ⟨rfl, k1⟩
  have kw : Kept w w1 := hk0.trans k1
  obtain ⟨b0, b1, b2, b3, b4, b5, b6, b7, bl⟩ := hB.kept k1
  go_wp2_with (fail)
  exact bodyPost_ret (v := .tuple #[.int .i64 0, .int .i64 0, .int .i64 0, .int .i64 0, .int .i64 11]) (by simp [results, Tryz.results18, go_sem]) rfl ⟨rfl, kw⟩

set_option maxRecDepth 100000 in
set_option maxHeartbeats 2000000 in
theorem at_no (F : Fnt) (a : FAddr) (c n : Int) (w : World) (hF : FontAt w F a w.heap.size) (hw : F.wf) (h : fontE F = 0) (h0 : ¬ n < 1) (h1 : ¬ 134217728 ≤ n) (hc : 0 ≤ c ∧ c ≤ 255) (ht : thB F c = false) :
    Calls Tryz.prog 18 #[fontV F a, .int .u8 c, .int .i64 n] w fun e w' => e = .returned (.tuple #[.int .i64 0, .int .i64 0, .int .i64 0, .int .i64 0, .int .i64 42]) ∧ Kept w w' := by
  have hm := fun w' (hk : Kept w w') => Lib.hid (metric_any F a c w' ((hF.kept hk).more hk.size) hw hc)
  rw [ht] at hm
  generalize metV F c = m at *
  clear ht hc
  obtain ⟨W, hW⟩ : ∃ W, W = w.alloc (.cells #[.int .u32 F.check, .int .i64 F.design, .int .i64 F.first, .slice a.A0 F.chars.length a.c0, .slice a.A1 F.steps.length a.c1, .slice a.A2 F.kerns.length a.c2, .slice a.A3 F.pieces.length a.c3, .slice a.A4 F.params.length a.c4] 28) := ⟨_, rfl⟩
  have hk0 : Kept w W := by rw [hW]; exact walloc _ _
  have hB : FBox W w.heap.size F a := FBox.of_obj (by rw [hW]; exact mkobj _ _)
  have hs := fun w' (hk : Kept w w') => Lib.hid (fcheck_any F a w' ((hF.kept hk).more hk.size) hw)
  have HW := Lib.hid hW
  clear hW
  rw [h] at hs
  clear h
  have f0 : decide (n < 1) = false := decide_eq_false h0
  have f1 : decide (134217728 ≤ n) = false := decide_eq_false h1
  go_enter Tryz.func18, Tryz.ntmps18
  go_wp2_with (fail)
  rw [← HW.out]
  refine (hs _ hk0).out.mono ?_
  rintro e w1 ⟨rfl, k1⟩
  have kw : Kept w w1 := hk0.trans k1
  obtain ⟨b0, b1, b2, b3, b4, b5, b6, b7, bl⟩ := hB.kept k1
  go_wp2_with (fail)
  refine (hm _ kw).out.mono ?_
  rintro e w2 ⟨rfl, k2⟩
  go_wp2_with (fail)
  exact bodyPost_ret (v := .tuple #[.int .i64 0, .int .i64 0, .int .i64 0, .int .i64 0, .int .i64 42]) (by simp [results, Tryz.results18, go_sem]) rfl ⟨rfl, (kw.trans k2).trans (walloc _ _)⟩

set_option maxRecDepth 100000 in
set_option maxHeartbeats 2000000 in
theorem at_yes (F : Fnt) (a : FAddr) (c n : Int) (w : World) (hF : FontAt w F a w.heap.size) (hw : F.wf) (h : fontE F = 0) (h0 : ¬ n < 1) (h1 : ¬ 134217728 ≤ n) (hc : 0 ≤ c ∧ c ≤ 255) (ht : thB F c = true) :
    Calls Tryz.prog 18 #[fontV F a, .int .u8 c, .int .i64 n] w fun e w' => e = .returned (.tuple #[.int .i64 (sizeR n (metV F c).w), .int .i64 (sizeR n (metV F c).h), .int .i64 (sizeR n (metV F c).d), .int .i64 (sizeR n (metV F c).it), .int .i64 0]) ∧ Kept w w' := by
  have hm := fun w' (hk : Kept w w') => Lib.hid (metric_any F a c w' ((hF.kept hk).more hk.size) hw hc)
  rw [ht] at hm
  generalize metV F c = m at *
  clear ht hc
  have hz0 := fun w => Lib.hid (rsize_any n m.w w)
  have hz1 := fun w => Lib.hid (rsize_any n m.h w)
  have hz2 := fun w => Lib.hid (rsize_any n m.d w)
  have hz3 := fun w => Lib.hid (rsize_any n m.it w)
  generalize sizeR n m.w = R0 at *
  generalize sizeE n m.w = E0 at *
  generalize sizeR n m.h = R1 at *
  generalize sizeE n m.h = E1 at *
  generalize sizeR n m.d = R2 at *
  generalize sizeE n m.d = E2 at *
  generalize sizeR n m.it = R3 at *
  generalize sizeE n m.it = E3 at *
  obtain ⟨W, hW⟩ : ∃ W, W = w.alloc (.cells #[.int .u32 F.check, .int .i64 F.design, .int .i64 F.first, .slice a.A0 F.chars.length a.c0, .slice a.A1 F.steps.length a.c1, .slice a.A2 F.kerns.length a.c2, .slice a.A3 F.pieces.length a.c3, .slice a.A4 F.params.length a.c4] 28) := ⟨_, rfl⟩
  have hk0 : Kept w W := by rw [hW]; exact walloc _ _
  have hB : FBox W w.heap.size F a := FBox.of_obj (by rw [hW]; exact mkobj _ _)
  have hs := fun w' (hk : Kept w w') => Lib.hid (fcheck_any F a w' ((hF.kept hk).more hk.size) hw)
  have HW := Lib.hid hW
  clear hW
  rw [h] at hs
  clear h
  have f0 : decide (n < 1) = false := decide_eq_false h0
  have f1 : decide (134217728 ≤ n) = false := decide_eq_false h1
  go_enter Tryz.func18, Tryz.ntmps18
  go_wp2_with (fail)
  rw [← HW.out]
  refine (hs _ hk0).out.mono ?_
  rintro e w1 ⟨rfl, k1⟩
  have kw : Kept w w1 := hk0.trans k1
  obtain ⟨b0, b1, b2, b3, b4, b5, b6, b7, bl⟩ := hB.kept k1
  go_wp2_with (fail)
  refine (hm _ kw).out.mono ?_
  rintro e w2 ⟨rfl, k2⟩
  go_wp2_with (fail)
  refine (hz0 _).out.mono ?_
  rintro e w' ⟨rfl, rfl⟩
  go_wp2_with (fail)
  refine (hz1 _).out.mono ?_
  rintro e w' ⟨rfl, rfl⟩
  go_wp2_with (fail)
  refine (hz2 _).out.mono ?_
  rintro e w' ⟨rfl, rfl⟩
  go_wp2_with (fail)
  refine (hz3 _).out.mono ?_
  rintro e w' ⟨rfl, rfl⟩
  go_wp2_with (fail)
  exact bodyPost_ret (v := .tuple #[.int .i64 R0, .int .i64 R1, .int .i64 R2, .int .i64 R3, .int .i64 0]) (by simp [results, Tryz.results18, go_sem]) rfl ⟨rfl, (kw.trans k2).trans (walloc _ _)⟩
end Go.Proofs.YtdhidpbenhmfgaaGreat
