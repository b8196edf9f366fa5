/- galleyref03.step. -/
import Derived.Test.YtdhidpbenhmfgaaGreatFChar2
import Derived.IntWalk
namespace Go.Proofs.YtdhidpbenhmfgaaGreat
open Go.RowKit

set_option maxRecDepth 100000 in
set_option maxHeartbeats 4000000 in
theorem step_A1 (F : Fnt) (a : FAddr) (i : Nat) (w : World) (hF : FontAt w F a w.heap.size) (hok : FOk F) (hi : i < F.steps.length) (s : St) (hs : F.steps[i] = s) (h0 : i = 0) (h1 : 128 < s.skip) (h2 : s.skip = 255) :
    Calls Tryz.prog 43 #[fontV F a, .int .i64 i] w fun e w' => e = .returned (.bool true) ∧ Kept w w' := by
  have hil : F.steps.length ≤ 32510 := hok.nsteps
  obtain ⟨⟨y0, y1⟩, ⟨y2, y3⟩, ⟨y4, y5⟩, ⟨y6, y7⟩⟩ : s.wf := hs ▸ hok.wf.steps F.steps[i] (List.getElem_mem hi)
  obtain ⟨A0, n0, A1, n1, A2, n2, A3, n3, A4, n4⟩ := a
  obtain ⟨b, o, hA, hb, hc⟩ := hF.s (by omega)
  obtain ⟨c0, c1, c2, c3⟩ := hc i hi
  obtain rfl : A1 = some ⟨b, o, none⟩ := hA
  rw [hs] at c0 c1 c2 c3
  clear hc hs hF hok
  obtain ⟨s0, s1, s2, s3⟩ := s
  simp only at c0 c1 c2 c3 y0 y1 y2 y3 y4 y5 y6 y7   h0 h1 h2
  have f0 : decide (128 < s0) = true := by simp [*] <;> omega
  have f1 : ((i : Int) == 0) = true := by simp [*] <;> omega
  have f2 : (s0 == 255) = true := by simp [*] <;> omega
  clear h0 h1 h2
  go_enter Tryz.func43, Tryz.ntmps43
  go_wp2_with (fail)
  go_ret
  exact ⟨rfl, (walloc _ _).trans (walloc _ _)⟩


set_option maxRecDepth 100000 in
set_option maxHeartbeats 4000000 in
theorem step_A2 (F : Fnt) (a : FAddr) (i : Nat) (w : World) (hF : FontAt w F a w.heap.size) (hok : FOk F) (hi : i < F.steps.length) (s : St) (hs : F.steps[i] = s) (h0 : ¬ i = 0) (h1 : 128 < s.skip) :
    Calls Tryz.prog 43 #[fontV F a, .int .i64 i] w fun e w' => e = .returned (.bool (decide (256 * s.op + s.rest < F.steps.length))) ∧ Kept w w' := by
  have hil : F.steps.length ≤ 32510 := hok.nsteps
  obtain ⟨⟨y0, y1⟩, ⟨y2, y3⟩, ⟨y4, y5⟩, ⟨y6, y7⟩⟩ : s.wf := hs ▸ hok.wf.steps F.steps[i] (List.getElem_mem hi)
  obtain ⟨A0, n0, A1, n1, A2, n2, A3, n3, A4, n4⟩ := a
  obtain ⟨b, o, hA, hb, hc⟩ := hF.s (by omega)
  obtain ⟨c0, c1, c2, c3⟩ := hc i hi
  obtain rfl : A1 = some ⟨b, o, none⟩ := hA
  rw [hs] at c0 c1 c2 c3
  clear hc hs hF hok
  obtain ⟨s0, s1, s2, s3⟩ := s
  simp only at c0 c1 c2 c3 y0 y1 y2 y3 y4 y5 y6 y7   h0 h1
  have f0 : decide (128 < s0) = true := by simp [*] <;> omega
  have f1 : ((i : Int) == 0) = false := by simp [*] <;> omega
  clear h0 h1
  go_enter Tryz.func43, Tryz.ntmps43
  go_wp2_with (fail)
  go_ret
  exact ⟨rfl, (walloc _ _).trans (walloc _ _)⟩


set_option maxRecDepth 100000 in
set_option maxHeartbeats 4000000 in
theorem step_A3 (F : Fnt) (a : FAddr) (i : Nat) (w : World) (hF : FontAt w F a w.heap.size) (hok : FOk F) (hi : i < F.steps.length) (s : St) (hs : F.steps[i] = s) (h0 : i = 0) (h1 : 128 < s.skip) (h2 : ¬ s.skip = 255) :
    Calls Tryz.prog 43 #[fontV F a, .int .i64 i] w fun e w' => e = .returned (.bool (decide (256 * s.op + s.rest < F.steps.length))) ∧ Kept w w' := by
  have hil : F.steps.length ≤ 32510 := hok.nsteps
  obtain ⟨⟨y0, y1⟩, ⟨y2, y3⟩, ⟨y4, y5⟩, ⟨y6, y7⟩⟩ : s.wf := hs ▸ hok.wf.steps F.steps[i] (List.getElem_mem hi)
  obtain ⟨A0, n0, A1, n1, A2, n2, A3, n3, A4, n4⟩ := a
  obtain ⟨b, o, hA, hb, hc⟩ := hF.s (by omega)
  obtain ⟨c0, c1, c2, c3⟩ := hc i hi
  obtain rfl : A1 = some ⟨b, o, none⟩ := hA
  rw [hs] at c0 c1 c2 c3
  clear hc hs hF hok
  obtain ⟨s0, s1, s2, s3⟩ := s
  simp only at c0 c1 c2 c3 y0 y1 y2 y3 y4 y5 y6 y7   h0 h1 h2
  have f0 : decide (128 < s0) = true := by simp [*] <;> omega
  have f1 : ((i : Int) == 0) = true := by simp [*] <;> omega
  have f2 : (s0 == 255) = false := by simp [*] <;> omega
  clear h0 h1 h2
  go_enter Tryz.func43, Tryz.ntmps43
  go_wp2_with (fail)
  go_ret
  exact ⟨rfl, (walloc _ _).trans (walloc _ _)⟩


set_option maxRecDepth 100000 in
set_option maxHeartbeats 4000000 in
theorem step_B1 (F : Fnt) (a : FAddr) (i : Nat) (w : World) (hF : FontAt w F a w.heap.size) (hok : FOk F) (hi : i < F.steps.length) (s : St) (hs : F.steps[i] = s) (h0 : thB F s.next = false) (h1 : ¬ 128 < s.skip) (h2 : ¬ s.next = edge F) :
    Calls Tryz.prog 43 #[fontV F a, .int .i64 i] w fun e w' => e = .returned (.bool false) ∧ Kept w w' := by
  have hil : F.steps.length ≤ 32510 := hok.nsteps
  obtain ⟨⟨y0, y1⟩, ⟨y2, y3⟩, ⟨y4, y5⟩, ⟨y6, y7⟩⟩ : s.wf := hs ▸ hok.wf.steps F.steps[i] (List.getElem_mem hi)
  have ht1 := fun w' (hk : Kept w w') => Lib.hid (there_any F a s.next w' ((hF.kept hk).more hk.size) (hok.th (by unfold i64B; omega)))
  have hed := fun w' (hk : Kept w w') => Lib.hid (edge_any F a w' ((hF.kept hk).more hk.size) hok.wf)
  obtain ⟨A0, n0, A1, n1, A2, n2, A3, n3, A4, n4⟩ := a
  obtain ⟨b, o, hA, hb, hc⟩ := hF.s (by omega)
  obtain ⟨c0, c1, c2, c3⟩ := hc i hi
  obtain rfl : A1 = some ⟨b, o, none⟩ := hA
  rw [hs] at c0 c1 c2 c3
  clear hc hs hF hok
  obtain ⟨s0, s1, s2, s3⟩ := s
  simp only at c0 c1 c2 c3 y0 y1 y2 y3 y4 y5 y6 y7 ht1  h0 h1 h2
  rw [h0] at ht1
  generalize thV F s1 = V1 at *
  generalize edge F = ED at *
  have f0 : decide (128 < s0) = false := by simp [*] <;> omega
  have f1 : (s1 != ED) = true := by simp [*] <;> omega
  have f2 : (s1 == ED) = false := by simp [*] <;> omega
  obtain ⟨W, hW⟩ : ∃ W, W = (w.alloc (.cells #[.int .u32 F.check, .int .i64 F.design, .int .i64 F.first, .slice A0 F.chars.length n0, .slice (some ⟨b, o, none⟩) F.steps.length n1, .slice A2 F.kerns.length n2, .slice A3 F.pieces.length n3, .slice A4 F.params.length n4] 28)).alloc (.cells #[.int .u8 s0, .int .u8 s1, .int .u8 s2, .int .u8 s3] 71) := ⟨_, rfl⟩
  have hk0 : Kept w W := by rw [hW]; exact (walloc _ _).trans (walloc _ _)
  have hB : FBox W w.heap.size F ⟨A0, n0, some ⟨b, o, none⟩, n1, A2, n2, A3, n3, A4, n4⟩ := by rw [hW]; exact FBox.kept (FBox.of_obj (mkobj _ _)) (walloc _ _)
  have hSB : SBox W (w.heap.size + 1) ⟨s0, s1, s2, s3⟩ := by
    rw [hW]
    have := mkobj (w.alloc (.cells #[.int .u32 F.check, .int .i64 F.design, .int .i64 F.first, .slice A0 F.chars.length n0, .slice (some ⟨b, o, none⟩) F.steps.length n1, .slice A2 F.kerns.length n2, .slice A3 F.pieces.length n3, .slice A4 F.params.length n4] 28)) (.cells #[.int .u8 s0, .int .u8 s1, .int .u8 s2, .int .u8 s3] 71)
    exact SBox.of_obj (by simpa using this)
  have HW := Lib.hid hW
  have hS : ∀ w', Kept W w' → Hid (w'.cell? ⟨w.heap.size, 0, none⟩ = some (.int .u32 F.check) ∧ w'.cell? ⟨w.heap.size, 1, none⟩ = some (.int .i64 F.design) ∧ w'.cell? ⟨w.heap.size, 2, none⟩ = some (.int .i64 F.first) ∧ w'.cell? ⟨w.heap.size, 3, none⟩ = some (.slice A0 F.chars.length n0) ∧ w'.cell? ⟨w.heap.size, 4, none⟩ = some (.slice (some ⟨b, o, none⟩) F.steps.length n1) ∧ w'.cell? ⟨w.heap.size, 5, none⟩ = some (.slice A2 F.kerns.length n2) ∧ w'.cell? ⟨w.heap.size, 6, none⟩ = some (.slice A3 F.pieces.length n3) ∧ w'.cell? ⟨w.heap.size, 7, none⟩ = some (.slice A4 F.params.length n4) ∧ w'.cell? ⟨w.heap.size + 1, 1, none⟩ = some (.int .u8 s1) ∧ Kept W w') := fun w' hk => by
    obtain ⟨z0, z1, z2, z3, z4, z5, z6, z7, _⟩ := hB.kept hk
    exact Lib.hid ⟨z0, z1, z2, z3, z4, z5, z6, z7, (hSB.kept hk).c1, hk⟩
  clear hW
  clear h0 h1 h2
  have hwr : IntKind.i64.wrap s1 = s1 := IntWalk.i64_in _ (by omega)
  go_enter Tryz.func43, Tryz.ntmps43
  go_wp2_with (fail)
  rw [← HW.out]
  refine (ht1 _ hk0).out.mono ?_
  rintro e w1 ⟨rfl, k1⟩
  obtain ⟨z0, z1, z2, z3, z4, z5, z6, z7, z8⟩ := hB.kept k1
  obtain ⟨x0, x1, x2, x3, x4⟩ := hSB.kept k1
  go_wp2_with (fail)
  go_region_held3 (fun w' => w'.cell? ⟨w.heap.size, 0, none⟩ = some (.int .u32 F.check) ∧ w'.cell? ⟨w.heap.size, 1, none⟩ = some (.int .i64 F.design) ∧ w'.cell? ⟨w.heap.size, 2, none⟩ = some (.int .i64 F.first) ∧ w'.cell? ⟨w.heap.size, 3, none⟩ = some (.slice A0 F.chars.length n0) ∧ w'.cell? ⟨w.heap.size, 4, none⟩ = some (.slice (some ⟨b, o, none⟩) F.steps.length n1) ∧ w'.cell? ⟨w.heap.size, 5, none⟩ = some (.slice A2 F.kerns.length n2) ∧ w'.cell? ⟨w.heap.size, 6, none⟩ = some (.slice A3 F.pieces.length n3) ∧ w'.cell? ⟨w.heap.size, 7, none⟩ = some (.slice A4 F.params.length n4) ∧ w'.cell? ⟨w.heap.size + 1, 1, none⟩ = some (.int .u8 s1) ∧ Kept W w') (first | exact (hS _ (by first | assumption | exact Below.drew (by assumption))).out) (first | (go_at_call 62; refine (hed _ (hk0.trans (Below.drew k1))).out.mono ?_; rintro e w2 ⟨rfl, k2⟩; have kb : Kept W w2 := Kept.trans (Below.drew k1) k2))
  all_goals
    clear x0 x1 x2 x3 x4 z0 z1 z2 z3 z4 z5 z6 z7 z8
    obtain ⟨z0, z1, z2, z3, z4, z5, z6, z7, z8⟩ := hB.kept kb
    obtain ⟨x0, x1, x2, x3, x4⟩ := hSB.kept kb
    go_wp2_with (fail)
    go_ret
    exact ⟨rfl, hk0.trans (kb)⟩


set_option maxRecDepth 100000 in
set_option maxHeartbeats 4000000 in
theorem step_BC1 (F : Fnt) (a : FAddr) (i : Nat) (w : World) (hF : FontAt w F a w.heap.size) (hok : FOk F) (hi : i < F.steps.length) (s : St) (hs : F.steps[i] = s) (h0 : thB F s.next = true) (h1 : ¬ 128 < s.skip) (h2 : s.skip < 128) (h3 : (F.steps.length : Int) ≤ i + s.skip + 1) :
    Calls Tryz.prog 43 #[fontV F a, .int .i64 i] w fun e w' => e = .returned (.bool false) ∧ Kept w w' := by
  have hil : F.steps.length ≤ 32510 := hok.nsteps
  obtain ⟨⟨y0, y1⟩, ⟨y2, y3⟩, ⟨y4, y5⟩, ⟨y6, y7⟩⟩ : s.wf := hs ▸ hok.wf.steps F.steps[i] (List.getElem_mem hi)
  have ht1 := fun w' (hk : Kept w w') => Lib.hid (there_any F a s.next w' ((hF.kept hk).more hk.size) (hok.th (by unfold i64B; omega)))
  obtain ⟨A0, n0, A1, n1, A2, n2, A3, n3, A4, n4⟩ := a
  obtain ⟨b, o, hA, hb, hc⟩ := hF.s (by omega)
  obtain ⟨c0, c1, c2, c3⟩ := hc i hi
  obtain rfl : A1 = some ⟨b, o, none⟩ := hA
  rw [hs] at c0 c1 c2 c3
  clear hc hs hF hok
  obtain ⟨s0, s1, s2, s3⟩ := s
  simp only at c0 c1 c2 c3 y0 y1 y2 y3 y4 y5 y6 y7 ht1  h0 h1 h2 h3
  rw [h0] at ht1
  generalize thV F s1 = V1 at *
  have f0 : decide (128 < s0) = false := by simp [*] <;> omega
  have f1 : decide (s0 < 128) = true := by simp [*] <;> omega
  have f2 : decide ((F.steps.length : Int) ≤ (i : Int) + s0 + 1) = true := by simp [*] <;> omega
  obtain ⟨W, hW⟩ : ∃ W, W = (w.alloc (.cells #[.int .u32 F.check, .int .i64 F.design, .int .i64 F.first, .slice A0 F.chars.length n0, .slice (some ⟨b, o, none⟩) F.steps.length n1, .slice A2 F.kerns.length n2, .slice A3 F.pieces.length n3, .slice A4 F.params.length n4] 28)).alloc (.cells #[.int .u8 s0, .int .u8 s1, .int .u8 s2, .int .u8 s3] 71) := ⟨_, rfl⟩
  have hk0 : Kept w W := by rw [hW]; exact (walloc _ _).trans (walloc _ _)
  have hB : FBox W w.heap.size F ⟨A0, n0, some ⟨b, o, none⟩, n1, A2, n2, A3, n3, A4, n4⟩ := by rw [hW]; exact FBox.kept (FBox.of_obj (mkobj _ _)) (walloc _ _)
  have hSB : SBox W (w.heap.size + 1) ⟨s0, s1, s2, s3⟩ := by
    rw [hW]
    have := mkobj (w.alloc (.cells #[.int .u32 F.check, .int .i64 F.design, .int .i64 F.first, .slice A0 F.chars.length n0, .slice (some ⟨b, o, none⟩) F.steps.length n1, .slice A2 F.kerns.length n2, .slice A3 F.pieces.length n3, .slice A4 F.params.length n4] 28)) (.cells #[.int .u8 s0, .int .u8 s1, .int .u8 s2, .int .u8 s3] 71)
    exact SBox.of_obj (by simpa using this)
  have HW := Lib.hid hW
  have hS : ∀ w', Kept W w' → Hid (w'.cell? ⟨w.heap.size, 0, none⟩ = some (.int .u32 F.check) ∧ w'.cell? ⟨w.heap.size, 1, none⟩ = some (.int .i64 F.design) ∧ w'.cell? ⟨w.heap.size, 2, none⟩ = some (.int .i64 F.first) ∧ w'.cell? ⟨w.heap.size, 3, none⟩ = some (.slice A0 F.chars.length n0) ∧ w'.cell? ⟨w.heap.size, 4, none⟩ = some (.slice (some ⟨b, o, none⟩) F.steps.length n1) ∧ w'.cell? ⟨w.heap.size, 5, none⟩ = some (.slice A2 F.kerns.length n2) ∧ w'.cell? ⟨w.heap.size, 6, none⟩ = some (.slice A3 F.pieces.length n3) ∧ w'.cell? ⟨w.heap.size, 7, none⟩ = some (.slice A4 F.params.length n4) ∧ w'.cell? ⟨w.heap.size + 1, 1, none⟩ = some (.int .u8 s1) ∧ Kept W w') := fun w' hk => by
    obtain ⟨z0, z1, z2, z3, z4, z5, z6, z7, _⟩ := hB.kept hk
    exact Lib.hid ⟨z0, z1, z2, z3, z4, z5, z6, z7, (hSB.kept hk).c1, hk⟩
  clear hW
  clear h0 h1 h2 h3
  have hwr : IntKind.i64.wrap s1 = s1 := IntWalk.i64_in _ (by omega)
  go_enter Tryz.func43, Tryz.ntmps43
  go_wp2_with (fail)
  rw [← HW.out]
  refine (ht1 _ hk0).out.mono ?_
  rintro e w1 ⟨rfl, k1⟩
  obtain ⟨z0, z1, z2, z3, z4, z5, z6, z7, z8⟩ := hB.kept k1
  obtain ⟨x0, x1, x2, x3, x4⟩ := hSB.kept k1
  go_wp2_with (fail)
  go_quiet (fail)
  all_goals
    go_wp2_with (fail)
    go_ret
    exact ⟨rfl, hk0.trans (below_drewN k1 _)⟩


set_option maxRecDepth 100000 in
set_option maxHeartbeats 4000000 in
theorem step_Ba1 (F : Fnt) (a : FAddr) (i : Nat) (w : World) (hF : FontAt w F a w.heap.size) (hok : FOk F) (hi : i < F.steps.length) (s : St) (hs : F.steps[i] = s) (h0 : thB F s.next = true) (h1 : ¬ 128 < s.skip) (h2 : s.skip < 128) (h3 : i + s.skip + 1 < F.steps.length) (h4 : s.op < 128) :
    Calls Tryz.prog 43 #[fontV F a, .int .i64 i] w fun e w' => e = .returned (.bool (thB F s.rest)) ∧ Kept w w' := by
  have hil : F.steps.length ≤ 32510 := hok.nsteps
  obtain ⟨⟨y0, y1⟩, ⟨y2, y3⟩, ⟨y4, y5⟩, ⟨y6, y7⟩⟩ : s.wf := hs ▸ hok.wf.steps F.steps[i] (List.getElem_mem hi)
  have ht1 := fun w' (hk : Kept w w') => Lib.hid (there_any F a s.next w' ((hF.kept hk).more hk.size) (hok.th (by unfold i64B; omega)))
  have ht2 := fun w' (hk : Kept w w') => Lib.hid (there_any F a s.rest w' ((hF.kept hk).more hk.size) (hok.th (by unfold i64B; omega)))
  obtain ⟨A0, n0, A1, n1, A2, n2, A3, n3, A4, n4⟩ := a
  obtain ⟨b, o, hA, hb, hc⟩ := hF.s (by omega)
  obtain ⟨c0, c1, c2, c3⟩ := hc i hi
  obtain rfl : A1 = some ⟨b, o, none⟩ := hA
  rw [hs] at c0 c1 c2 c3
  clear hc hs hF hok
  obtain ⟨s0, s1, s2, s3⟩ := s
  simp only at c0 c1 c2 c3 y0 y1 y2 y3 y4 y5 y6 y7 ht1 ht2 h0 h1 h2 h3 h4
  rw [h0] at ht1
  generalize thV F s1 = V1 at *
  generalize thV F s3 = V3 at *
  generalize thB F s3 = B3 at *
  have f0 : decide (128 < s0) = false := by simp [*] <;> omega
  have f1 : decide (s0 < 128) = true := by simp [*] <;> omega
  have f2 : decide ((F.steps.length : Int) ≤ (i : Int) + s0 + 1) = false := by simp [*] <;> omega
  have f3 : decide (s2 < 128) = true := by simp [*] <;> omega
  obtain ⟨W, hW⟩ : ∃ W, W = (w.alloc (.cells #[.int .u32 F.check, .int .i64 F.design, .int .i64 F.first, .slice A0 F.chars.length n0, .slice (some ⟨b, o, none⟩) F.steps.length n1, .slice A2 F.kerns.length n2, .slice A3 F.pieces.length n3, .slice A4 F.params.length n4] 28)).alloc (.cells #[.int .u8 s0, .int .u8 s1, .int .u8 s2, .int .u8 s3] 71) := ⟨_, rfl⟩
  have hk0 : Kept w W := by rw [hW]; exact (walloc _ _).trans (walloc _ _)
  have hB : FBox W w.heap.size F ⟨A0, n0, some ⟨b, o, none⟩, n1, A2, n2, A3, n3, A4, n4⟩ := by rw [hW]; exact FBox.kept (FBox.of_obj (mkobj _ _)) (walloc _ _)
  have hSB : SBox W (w.heap.size + 1) ⟨s0, s1, s2, s3⟩ := by
    rw [hW]
    have := mkobj (w.alloc (.cells #[.int .u32 F.check, .int .i64 F.design, .int .i64 F.first, .slice A0 F.chars.length n0, .slice (some ⟨b, o, none⟩) F.steps.length n1, .slice A2 F.kerns.length n2, .slice A3 F.pieces.length n3, .slice A4 F.params.length n4] 28)) (.cells #[.int .u8 s0, .int .u8 s1, .int .u8 s2, .int .u8 s3] 71)
    exact SBox.of_obj (by simpa using this)
  have HW := Lib.hid hW
  have hS : ∀ w', Kept W w' → Hid (w'.cell? ⟨w.heap.size, 0, none⟩ = some (.int .u32 F.check) ∧ w'.cell? ⟨w.heap.size, 1, none⟩ = some (.int .i64 F.design) ∧ w'.cell? ⟨w.heap.size, 2, none⟩ = some (.int .i64 F.first) ∧ w'.cell? ⟨w.heap.size, 3, none⟩ = some (.slice A0 F.chars.length n0) ∧ w'.cell? ⟨w.heap.size, 4, none⟩ = some (.slice (some ⟨b, o, none⟩) F.steps.length n1) ∧ w'.cell? ⟨w.heap.size, 5, none⟩ = some (.slice A2 F.kerns.length n2) ∧ w'.cell? ⟨w.heap.size, 6, none⟩ = some (.slice A3 F.pieces.length n3) ∧ w'.cell? ⟨w.heap.size, 7, none⟩ = some (.slice A4 F.params.length n4) ∧ w'.cell? ⟨w.heap.size + 1, 1, none⟩ = some (.int .u8 s1) ∧ Kept W w') := fun w' hk => by
    obtain ⟨z0, z1, z2, z3, z4, z5, z6, z7, _⟩ := hB.kept hk
    exact Lib.hid ⟨z0, z1, z2, z3, z4, z5, z6, z7, (hSB.kept hk).c1, hk⟩
  clear hW
  clear h0 h1 h2 h3 h4
  have hwr : IntKind.i64.wrap s1 = s1 := IntWalk.i64_in _ (by omega)
  go_enter Tryz.func43, Tryz.ntmps43
  go_wp2_with (fail)
  rw [← HW.out]
  refine (ht1 _ hk0).out.mono ?_
  rintro e w1 ⟨rfl, k1⟩
  obtain ⟨z0, z1, z2, z3, z4, z5, z6, z7, z8⟩ := hB.kept k1
  obtain ⟨x0, x1, x2, x3, x4⟩ := hSB.kept k1
  go_wp2_with (fail)
  go_quiet (fail)
  all_goals
    go_wp2_with (fail)
    refine (ht2 _ (hk0.trans (below_drewN k1 _))).out.mono ?_
    rintro e w5 ⟨rfl, k5⟩
    go_wp2_with (fail)
    go_ret
    exact ⟨rfl, (hk0.trans (below_drewN k1 _)).trans k5⟩


set_option maxRecDepth 100000 in
set_option maxHeartbeats 4000000 in
theorem step_Ba2 (F : Fnt) (a : FAddr) (i : Nat) (w : World) (hF : FontAt w F a w.heap.size) (hok : FOk F) (hi : i < F.steps.length) (s : St) (hs : F.steps[i] = s) (h0 : thB F s.next = true) (h1 : ¬ 128 < s.skip) (h2 : s.skip < 128) (h3 : i + s.skip + 1 < F.steps.length) (h4 : ¬ s.op < 128) :
    Calls Tryz.prog 43 #[fontV F a, .int .i64 i] w fun e w' => e = .returned (.bool (decide (256 * (s.op - 128) + s.rest < F.kerns.length))) ∧ Kept w w' := by
  have hil : F.steps.length ≤ 32510 := hok.nsteps
  obtain ⟨⟨y0, y1⟩, ⟨y2, y3⟩, ⟨y4, y5⟩, ⟨y6, y7⟩⟩ : s.wf := hs ▸ hok.wf.steps F.steps[i] (List.getElem_mem hi)
  have ht1 := fun w' (hk : Kept w w') => Lib.hid (there_any F a s.next w' ((hF.kept hk).more hk.size) (hok.th (by unfold i64B; omega)))
  obtain ⟨A0, n0, A1, n1, A2, n2, A3, n3, A4, n4⟩ := a
  obtain ⟨b, o, hA, hb, hc⟩ := hF.s (by omega)
  obtain ⟨c0, c1, c2, c3⟩ := hc i hi
  obtain rfl : A1 = some ⟨b, o, none⟩ := hA
  rw [hs] at c0 c1 c2 c3
  clear hc hs hF hok
  obtain ⟨s0, s1, s2, s3⟩ := s
  simp only at c0 c1 c2 c3 y0 y1 y2 y3 y4 y5 y6 y7 ht1  h0 h1 h2 h3 h4
  rw [h0] at ht1
  generalize thV F s1 = V1 at *
  have f0 : decide (128 < s0) = false := by simp [*] <;> omega
  have f1 : decide (s0 < 128) = true := by simp [*] <;> omega
  have f2 : decide ((F.steps.length : Int) ≤ (i : Int) + s0 + 1) = false := by simp [*] <;> omega
  have f3 : decide (s2 < 128) = false := by simp [*] <;> omega
  obtain ⟨W, hW⟩ : ∃ W, W = (w.alloc (.cells #[.int .u32 F.check, .int .i64 F.design, .int .i64 F.first, .slice A0 F.chars.length n0, .slice (some ⟨b, o, none⟩) F.steps.length n1, .slice A2 F.kerns.length n2, .slice A3 F.pieces.length n3, .slice A4 F.params.length n4] 28)).alloc (.cells #[.int .u8 s0, .int .u8 s1, .int .u8 s2, .int .u8 s3] 71) := ⟨_, rfl⟩
  have hk0 : Kept w W := by rw [hW]; exact (walloc _ _).trans (walloc _ _)
  have hB : FBox W w.heap.size F ⟨A0, n0, some ⟨b, o, none⟩, n1, A2, n2, A3, n3, A4, n4⟩ := by rw [hW]; exact FBox.kept (FBox.of_obj (mkobj _ _)) (walloc _ _)
  have hSB : SBox W (w.heap.size + 1) ⟨s0, s1, s2, s3⟩ := by
    rw [hW]
    have := mkobj (w.alloc (.cells #[.int .u32 F.check, .int .i64 F.design, .int .i64 F.first, .slice A0 F.chars.length n0, .slice (some ⟨b, o, none⟩) F.steps.length n1, .slice A2 F.kerns.length n2, .slice A3 F.pieces.length n3, .slice A4 F.params.length n4] 28)) (.cells #[.int .u8 s0, .int .u8 s1, .int .u8 s2, .int .u8 s3] 71)
    exact SBox.of_obj (by simpa using this)
  have HW := Lib.hid hW
  have hS : ∀ w', Kept W w' → Hid (w'.cell? ⟨w.heap.size, 0, none⟩ = some (.int .u32 F.check) ∧ w'.cell? ⟨w.heap.size, 1, none⟩ = some (.int .i64 F.design) ∧ w'.cell? ⟨w.heap.size, 2, none⟩ = some (.int .i64 F.first) ∧ w'.cell? ⟨w.heap.size, 3, none⟩ = some (.slice A0 F.chars.length n0) ∧ w'.cell? ⟨w.heap.size, 4, none⟩ = some (.slice (some ⟨b, o, none⟩) F.steps.length n1) ∧ w'.cell? ⟨w.heap.size, 5, none⟩ = some (.slice A2 F.kerns.length n2) ∧ w'.cell? ⟨w.heap.size, 6, none⟩ = some (.slice A3 F.pieces.length n3) ∧ w'.cell? ⟨w.heap.size, 7, none⟩ = some (.slice A4 F.params.length n4) ∧ w'.cell? ⟨w.heap.size + 1, 1, none⟩ = some (.int .u8 s1) ∧ Kept W w') := fun w' hk => by
    obtain ⟨z0, z1, z2, z3, z4, z5, z6, z7, _⟩ := hB.kept hk
    exact Lib.hid ⟨z0, z1, z2, z3, z4, z5, z6, z7, (hSB.kept hk).c1, hk⟩
  clear hW
  clear h0 h1 h2 h3 h4
  have hwr : IntKind.i64.wrap s1 = s1 := IntWalk.i64_in _ (by omega)
  go_enter Tryz.func43, Tryz.ntmps43
  go_wp2_with (fail)
  rw [← HW.out]
  refine (ht1 _ hk0).out.mono ?_
  rintro e w1 ⟨rfl, k1⟩
  obtain ⟨z0, z1, z2, z3, z4, z5, z6, z7, z8⟩ := hB.kept k1
  obtain ⟨x0, x1, x2, x3, x4⟩ := hSB.kept k1
  go_wp2_with (fail)
  go_quiet (fail)
  all_goals
    go_wp2_with (fail)
    go_ret
    exact ⟨rfl, hk0.trans (below_drewN k1 _)⟩


set_option maxRecDepth 100000 in
set_option maxHeartbeats 4000000 in
theorem step_Bb1 (F : Fnt) (a : FAddr) (i : Nat) (w : World) (hF : FontAt w F a w.heap.size) (hok : FOk F) (hi : i < F.steps.length) (s : St) (hs : F.steps[i] = s) (h0 : thB F s.next = true) (h1 : ¬ 128 < s.skip) (h2 : ¬ s.skip < 128) (h3 : s.op < 128) :
    Calls Tryz.prog 43 #[fontV F a, .int .i64 i] w fun e w' => e = .returned (.bool (thB F s.rest)) ∧ Kept w w' := by
  have hil : F.steps.length ≤ 32510 := hok.nsteps
  obtain ⟨⟨y0, y1⟩, ⟨y2, y3⟩, ⟨y4, y5⟩, ⟨y6, y7⟩⟩ : s.wf := hs ▸ hok.wf.steps F.steps[i] (List.getElem_mem hi)
  have ht1 := fun w' (hk : Kept w w') => Lib.hid (there_any F a s.next w' ((hF.kept hk).more hk.size) (hok.th (by unfold i64B; omega)))
  have ht2 := fun w' (hk : Kept w w') => Lib.hid (there_any F a s.rest w' ((hF.kept hk).more hk.size) (hok.th (by unfold i64B; omega)))
  obtain ⟨A0, n0, A1, n1, A2, n2, A3, n3, A4, n4⟩ := a
  obtain ⟨b, o, hA, hb, hc⟩ := hF.s (by omega)
  obtain ⟨c0, c1, c2, c3⟩ := hc i hi
  obtain rfl : A1 = some ⟨b, o, none⟩ := hA
  rw [hs] at c0 c1 c2 c3
  clear hc hs hF hok
  obtain ⟨s0, s1, s2, s3⟩ := s
  simp only at c0 c1 c2 c3 y0 y1 y2 y3 y4 y5 y6 y7 ht1 ht2 h0 h1 h2 h3
  rw [h0] at ht1
  generalize thV F s1 = V1 at *
  generalize thV F s3 = V3 at *
  generalize thB F s3 = B3 at *
  have f0 : decide (128 < s0) = false := by simp [*] <;> omega
  have f1 : decide (s0 < 128) = false := by simp [*] <;> omega
  have f2 : decide (s2 < 128) = true := by simp [*] <;> omega
  obtain ⟨W, hW⟩ : ∃ W, W = (w.alloc (.cells #[.int .u32 F.check, .int .i64 F.design, .int .i64 F.first, .slice A0 F.chars.length n0, .slice (some ⟨b, o, none⟩) F.steps.length n1, .slice A2 F.kerns.length n2, .slice A3 F.pieces.length n3, .slice A4 F.params.length n4] 28)).alloc (.cells #[.int .u8 s0, .int .u8 s1, .int .u8 s2, .int .u8 s3] 71) := ⟨_, rfl⟩
  have hk0 : Kept w W := by rw [hW]; exact (walloc _ _).trans (walloc _ _)
  have hB : FBox W w.heap.size F ⟨A0, n0, some ⟨b, o, none⟩, n1, A2, n2, A3, n3, A4, n4⟩ := by rw [hW]; exact FBox.kept (FBox.of_obj (mkobj _ _)) (walloc _ _)
  have hSB : SBox W (w.heap.size + 1) ⟨s0, s1, s2, s3⟩ := by
    rw [hW]
    have := mkobj (w.alloc (.cells #[.int .u32 F.check, .int .i64 F.design, .int .i64 F.first, .slice A0 F.chars.length n0, .slice (some ⟨b, o, none⟩) F.steps.length n1, .slice A2 F.kerns.length n2, .slice A3 F.pieces.length n3, .slice A4 F.params.length n4] 28)) (.cells #[.int .u8 s0, .int .u8 s1, .int .u8 s2, .int .u8 s3] 71)
    exact SBox.of_obj (by simpa using this)
  have HW := Lib.hid hW
  have hS : ∀ w', Kept W w' → Hid (w'.cell? ⟨w.heap.size, 0, none⟩ = some (.int .u32 F.check) ∧ w'.cell? ⟨w.heap.size, 1, none⟩ = some (.int .i64 F.design) ∧ w'.cell? ⟨w.heap.size, 2, none⟩ = some (.int .i64 F.first) ∧ w'.cell? ⟨w.heap.size, 3, none⟩ = some (.slice A0 F.chars.length n0) ∧ w'.cell? ⟨w.heap.size, 4, none⟩ = some (.slice (some ⟨b, o, none⟩) F.steps.length n1) ∧ w'.cell? ⟨w.heap.size, 5, none⟩ = some (.slice A2 F.kerns.length n2) ∧ w'.cell? ⟨w.heap.size, 6, none⟩ = some (.slice A3 F.pieces.length n3) ∧ w'.cell? ⟨w.heap.size, 7, none⟩ = some (.slice A4 F.params.length n4) ∧ w'.cell? ⟨w.heap.size + 1, 1, none⟩ = some (.int .u8 s1) ∧ Kept W w') := fun w' hk => by
    obtain ⟨z0, z1, z2, z3, z4, z5, z6, z7, _⟩ := hB.kept hk
    exact Lib.hid ⟨z0, z1, z2, z3, z4, z5, z6, z7, (hSB.kept hk).c1, hk⟩
  clear hW
  clear h0 h1 h2 h3
  have hwr : IntKind.i64.wrap s1 = s1 := IntWalk.i64_in _ (by omega)
  go_enter Tryz.func43, Tryz.ntmps43
  go_wp2_with (fail)
  rw [← HW.out]
  refine (ht1 _ hk0).out.mono ?_
  rintro e w1 ⟨rfl, k1⟩
  obtain ⟨z0, z1, z2, z3, z4, z5, z6, z7, z8⟩ := hB.kept k1
  obtain ⟨x0, x1, x2, x3, x4⟩ := hSB.kept k1
  go_wp2_with (fail)
  go_quiet (fail)
  all_goals
    go_wp2_with (fail)
    refine (ht2 _ (hk0.trans (below_drewN k1 _))).out.mono ?_
    rintro e w5 ⟨rfl, k5⟩
    go_wp2_with (fail)
    go_ret
    exact ⟨rfl, (hk0.trans (below_drewN k1 _)).trans k5⟩


set_option maxRecDepth 100000 in
set_option maxHeartbeats 4000000 in
theorem step_Bb2 (F : Fnt) (a : FAddr) (i : Nat) (w : World) (hF : FontAt w F a w.heap.size) (hok : FOk F) (hi : i < F.steps.length) (s : St) (hs : F.steps[i] = s) (h0 : thB F s.next = true) (h1 : ¬ 128 < s.skip) (h2 : ¬ s.skip < 128) (h3 : ¬ s.op < 128) :
    Calls Tryz.prog 43 #[fontV F a, .int .i64 i] w fun e w' => e = .returned (.bool (decide (256 * (s.op - 128) + s.rest < F.kerns.length))) ∧ Kept w w' := by
  have hil : F.steps.length ≤ 32510 := hok.nsteps
  obtain ⟨⟨y0, y1⟩, ⟨y2, y3⟩, ⟨y4, y5⟩, ⟨y6, y7⟩⟩ : s.wf := hs ▸ hok.wf.steps F.steps[i] (List.getElem_mem hi)
  have ht1 := fun w' (hk : Kept w w') => Lib.hid (there_any F a s.next w' ((hF.kept hk).more hk.size) (hok.th (by unfold i64B; omega)))
  obtain ⟨A0, n0, A1, n1, A2, n2, A3, n3, A4, n4⟩ := a
  obtain ⟨b, o, hA, hb, hc⟩ := hF.s (by omega)
  obtain ⟨c0, c1, c2, c3⟩ := hc i hi
  obtain rfl : A1 = some ⟨b, o, none⟩ := hA
  rw [hs] at c0 c1 c2 c3
  clear hc hs hF hok
  obtain ⟨s0, s1, s2, s3⟩ := s
  simp only at c0 c1 c2 c3 y0 y1 y2 y3 y4 y5 y6 y7 ht1  h0 h1 h2 h3
  rw [h0] at ht1
  generalize thV F s1 = V1 at *
  have f0 : decide (128 < s0) = false := by simp [*] <;> omega
  have f1 : decide (s0 < 128) = false := by simp [*] <;> omega
  have f2 : decide (s2 < 128) = false := by simp [*] <;> omega
  obtain ⟨W, hW⟩ : ∃ W, W = (w.alloc (.cells #[.int .u32 F.check, .int .i64 F.design, .int .i64 F.first, .slice A0 F.chars.length n0, .slice (some ⟨b, o, none⟩) F.steps.length n1, .slice A2 F.kerns.length n2, .slice A3 F.pieces.length n3, .slice A4 F.params.length n4] 28)).alloc (.cells #[.int .u8 s0, .int .u8 s1, .int .u8 s2, .int .u8 s3] 71) := ⟨_, rfl⟩
  have hk0 : Kept w W := by rw [hW]; exact (walloc _ _).trans (walloc _ _)
  have hB : FBox W w.heap.size F ⟨A0, n0, some ⟨b, o, none⟩, n1, A2, n2, A3, n3, A4, n4⟩ := by rw [hW]; exact FBox.kept (FBox.of_obj (mkobj _ _)) (walloc _ _)
  have hSB : SBox W (w.heap.size + 1) ⟨s0, s1, s2, s3⟩ := by
    rw [hW]
    have := mkobj (w.alloc (.cells #[.int .u32 F.check, .int .i64 F.design, .int .i64 F.first, .slice A0 F.chars.length n0, .slice (some ⟨b, o, none⟩) F.steps.length n1, .slice A2 F.kerns.length n2, .slice A3 F.pieces.length n3, .slice A4 F.params.length n4] 28)) (.cells #[.int .u8 s0, .int .u8 s1, .int .u8 s2, .int .u8 s3] 71)
    exact SBox.of_obj (by simpa using this)
  have HW := Lib.hid hW
  have hS : ∀ w', Kept W w' → Hid (w'.cell? ⟨w.heap.size, 0, none⟩ = some (.int .u32 F.check) ∧ w'.cell? ⟨w.heap.size, 1, none⟩ = some (.int .i64 F.design) ∧ w'.cell? ⟨w.heap.size, 2, none⟩ = some (.int .i64 F.first) ∧ w'.cell? ⟨w.heap.size, 3, none⟩ = some (.slice A0 F.chars.length n0) ∧ w'.cell? ⟨w.heap.size, 4, none⟩ = some (.slice (some ⟨b, o, none⟩) F.steps.length n1) ∧ w'.cell? ⟨w.heap.size, 5, none⟩ = some (.slice A2 F.kerns.length n2) ∧ w'.cell? ⟨w.heap.size, 6, none⟩ = some (.slice A3 F.pieces.length n3) ∧ w'.cell? ⟨w.heap.size, 7, none⟩ = some (.slice A4 F.params.length n4) ∧ w'.cell? ⟨w.heap.size + 1, 1, none⟩ = some (.int .u8 s1) ∧ Kept W w') := fun w' hk => by
    obtain ⟨z0, z1, z2, z3, z4, z5, z6, z7, _⟩ := hB.kept hk
    exact Lib.hid ⟨z0, z1, z2, z3, z4, z5, z6, z7, (hSB.kept hk).c1, hk⟩
  clear hW
  clear h0 h1 h2 h3
  have hwr : IntKind.i64.wrap s1 = s1 := IntWalk.i64_in _ (by omega)
  go_enter Tryz.func43, Tryz.ntmps43
  go_wp2_with (fail)
  rw [← HW.out]
  refine (ht1 _ hk0).out.mono ?_
  rintro e w1 ⟨rfl, k1⟩
  obtain ⟨z0, z1, z2, z3, z4, z5, z6, z7, z8⟩ := hB.kept k1
  obtain ⟨x0, x1, x2, x3, x4⟩ := hSB.kept k1
  go_wp2_with (fail)
  go_quiet (fail)
  all_goals
    go_wp2_with (fail)
    go_ret
    exact ⟨rfl, hk0.trans (below_drewN k1 _)⟩


set_option maxRecDepth 100000 in
set_option maxHeartbeats 4000000 in
theorem step_EC1 (F : Fnt) (a : FAddr) (i : Nat) (w : World) (hF : FontAt w F a w.heap.size) (hok : FOk F) (hi : i < F.steps.length) (s : St) (hs : F.steps[i] = s) (h0 : thB F s.next = false) (h1 : ¬ 128 < s.skip) (h2 : s.next = edge F) (h3 : s.skip < 128) (h4 : (F.steps.length : Int) ≤ i + s.skip + 1) :
    Calls Tryz.prog 43 #[fontV F a, .int .i64 i] w fun e w' => e = .returned (.bool false) ∧ Kept w w' := by
  have hil : F.steps.length ≤ 32510 := hok.nsteps
  obtain ⟨⟨y0, y1⟩, ⟨y2, y3⟩, ⟨y4, y5⟩, ⟨y6, y7⟩⟩ : s.wf := hs ▸ hok.wf.steps F.steps[i] (List.getElem_mem hi)
  have ht1 := fun w' (hk : Kept w w') => Lib.hid (there_any F a s.next w' ((hF.kept hk).more hk.size) (hok.th (by unfold i64B; omega)))
  have hed := fun w' (hk : Kept w w') => Lib.hid (edge_any F a w' ((hF.kept hk).more hk.size) hok.wf)
  obtain ⟨A0, n0, A1, n1, A2, n2, A3, n3, A4, n4⟩ := a
  obtain ⟨b, o, hA, hb, hc⟩ := hF.s (by omega)
  obtain ⟨c0, c1, c2, c3⟩ := hc i hi
  obtain rfl : A1 = some ⟨b, o, none⟩ := hA
  rw [hs] at c0 c1 c2 c3
  clear hc hs hF hok
  obtain ⟨s0, s1, s2, s3⟩ := s
  simp only at c0 c1 c2 c3 y0 y1 y2 y3 y4 y5 y6 y7 ht1  h0 h1 h2 h3 h4
  rw [h0] at ht1
  generalize thV F s1 = V1 at *
  generalize edge F = ED at *
  have f0 : decide (128 < s0) = false := by simp [*] <;> omega
  have f1 : (s1 != ED) = false := by simp [*] <;> omega
  have f2 : (s1 == ED) = true := by simp [*] <;> omega
  have f3 : decide (s0 < 128) = true := by simp [*] <;> omega
  have f4 : decide ((F.steps.length : Int) ≤ (i : Int) + s0 + 1) = true := by simp [*] <;> omega
  obtain ⟨W, hW⟩ : ∃ W, W = (w.alloc (.cells #[.int .u32 F.check, .int .i64 F.design, .int .i64 F.first, .slice A0 F.chars.length n0, .slice (some ⟨b, o, none⟩) F.steps.length n1, .slice A2 F.kerns.length n2, .slice A3 F.pieces.length n3, .slice A4 F.params.length n4] 28)).alloc (.cells #[.int .u8 s0, .int .u8 s1, .int .u8 s2, .int .u8 s3] 71) := ⟨_, rfl⟩
  have hk0 : Kept w W := by rw [hW]; exact (walloc _ _).trans (walloc _ _)
  have hB : FBox W w.heap.size F ⟨A0, n0, some ⟨b, o, none⟩, n1, A2, n2, A3, n3, A4, n4⟩ := by rw [hW]; exact FBox.kept (FBox.of_obj (mkobj _ _)) (walloc _ _)
  have hSB : SBox W (w.heap.size + 1) ⟨s0, s1, s2, s3⟩ := by
    rw [hW]
    have := mkobj (w.alloc (.cells #[.int .u32 F.check, .int .i64 F.design, .int .i64 F.first, .slice A0 F.chars.length n0, .slice (some ⟨b, o, none⟩) F.steps.length n1, .slice A2 F.kerns.length n2, .slice A3 F.pieces.length n3, .slice A4 F.params.length n4] 28)) (.cells #[.int .u8 s0, .int .u8 s1, .int .u8 s2, .int .u8 s3] 71)
    exact SBox.of_obj (by simpa using this)
  have HW := Lib.hid hW
  have hS : ∀ w', Kept W w' → Hid (w'.cell? ⟨w.heap.size, 0, none⟩ = some (.int .u32 F.check) ∧ w'.cell? ⟨w.heap.size, 1, none⟩ = some (.int .i64 F.design) ∧ w'.cell? ⟨w.heap.size, 2, none⟩ = some (.int .i64 F.first) ∧ w'.cell? ⟨w.heap.size, 3, none⟩ = some (.slice A0 F.chars.length n0) ∧ w'.cell? ⟨w.heap.size, 4, none⟩ = some (.slice (some ⟨b, o, none⟩) F.steps.length n1) ∧ w'.cell? ⟨w.heap.size, 5, none⟩ = some (.slice A2 F.kerns.length n2) ∧ w'.cell? ⟨w.heap.size, 6, none⟩ = some (.slice A3 F.pieces.length n3) ∧ w'.cell? ⟨w.heap.size, 7, none⟩ = some (.slice A4 F.params.length n4) ∧ w'.cell? ⟨w.heap.size + 1, 1, none⟩ = some (.int .u8 s1) ∧ Kept W w') := fun w' hk => by
    obtain ⟨z0, z1, z2, z3, z4, z5, z6, z7, _⟩ := hB.kept hk
    exact Lib.hid ⟨z0, z1, z2, z3, z4, z5, z6, z7, (hSB.kept hk).c1, hk⟩
  clear hW
  clear h0 h1 h2 h3 h4
  have hwr : IntKind.i64.wrap s1 = s1 := IntWalk.i64_in _ (by omega)
  go_enter Tryz.func43, Tryz.ntmps43
  go_wp2_with (fail)
  rw [← HW.out]
  refine (ht1 _ hk0).out.mono ?_
  rintro e w1 ⟨rfl, k1⟩
  obtain ⟨z0, z1, z2, z3, z4, z5, z6, z7, z8⟩ := hB.kept k1
  obtain ⟨x0, x1, x2, x3, x4⟩ := hSB.kept k1
  go_wp2_with (fail)
  go_region_held3 (fun w' => w'.cell? ⟨w.heap.size, 0, none⟩ = some (.int .u32 F.check) ∧ w'.cell? ⟨w.heap.size, 1, none⟩ = some (.int .i64 F.design) ∧ w'.cell? ⟨w.heap.size, 2, none⟩ = some (.int .i64 F.first) ∧ w'.cell? ⟨w.heap.size, 3, none⟩ = some (.slice A0 F.chars.length n0) ∧ w'.cell? ⟨w.heap.size, 4, none⟩ = some (.slice (some ⟨b, o, none⟩) F.steps.length n1) ∧ w'.cell? ⟨w.heap.size, 5, none⟩ = some (.slice A2 F.kerns.length n2) ∧ w'.cell? ⟨w.heap.size, 6, none⟩ = some (.slice A3 F.pieces.length n3) ∧ w'.cell? ⟨w.heap.size, 7, none⟩ = some (.slice A4 F.params.length n4) ∧ w'.cell? ⟨w.heap.size + 1, 1, none⟩ = some (.int .u8 s1) ∧ Kept W w') (first | exact (hS _ (by first | assumption | exact Below.drew (by assumption))).out) (first | (go_at_call 62; refine (hed _ (hk0.trans (Below.drew k1))).out.mono ?_; rintro e w2 ⟨rfl, k2⟩; have kb : Kept W w2 := Kept.trans (Below.drew k1) k2))
  all_goals
    clear x0 x1 x2 x3 x4 z0 z1 z2 z3 z4 z5 z6 z7 z8
    obtain ⟨z0, z1, z2, z3, z4, z5, z6, z7, z8⟩ := hB.kept kb
    obtain ⟨x0, x1, x2, x3, x4⟩ := hSB.kept kb
    go_wp2_with (fail)
    go_ret
    exact ⟨rfl, hk0.trans (kb)⟩


set_option maxRecDepth 100000 in
set_option maxHeartbeats 4000000 in
theorem step_Ea1 (F : Fnt) (a : FAddr) (i : Nat) (w : World) (hF : FontAt w F a w.heap.size) (hok : FOk F) (hi : i < F.steps.length) (s : St) (hs : F.steps[i] = s) (h0 : thB F s.next = false) (h1 : ¬ 128 < s.skip) (h2 : s.next = edge F) (h3 : s.skip < 128) (h4 : i + s.skip + 1 < F.steps.length) (h5 : s.op < 128) :
    Calls Tryz.prog 43 #[fontV F a, .int .i64 i] w fun e w' => e = .returned (.bool (thB F s.rest)) ∧ Kept w w' := by
  have hil : F.steps.length ≤ 32510 := hok.nsteps
  obtain ⟨⟨y0, y1⟩, ⟨y2, y3⟩, ⟨y4, y5⟩, ⟨y6, y7⟩⟩ : s.wf := hs ▸ hok.wf.steps F.steps[i] (List.getElem_mem hi)
  have ht1 := fun w' (hk : Kept w w') => Lib.hid (there_any F a s.next w' ((hF.kept hk).more hk.size) (hok.th (by unfold i64B; omega)))
  have hed := fun w' (hk : Kept w w') => Lib.hid (edge_any F a w' ((hF.kept hk).more hk.size) hok.wf)
  have ht2 := fun w' (hk : Kept w w') => Lib.hid (there_any F a s.rest w' ((hF.kept hk).more hk.size) (hok.th (by unfold i64B; omega)))
  obtain ⟨A0, n0, A1, n1, A2, n2, A3, n3, A4, n4⟩ := a
  obtain ⟨b, o, hA, hb, hc⟩ := hF.s (by omega)
  obtain ⟨c0, c1, c2, c3⟩ := hc i hi
  obtain rfl : A1 = some ⟨b, o, none⟩ := hA
  rw [hs] at c0 c1 c2 c3
  clear hc hs hF hok
  obtain ⟨s0, s1, s2, s3⟩ := s
  simp only at c0 c1 c2 c3 y0 y1 y2 y3 y4 y5 y6 y7 ht1 ht2 h0 h1 h2 h3 h4 h5
  rw [h0] at ht1
  generalize thV F s1 = V1 at *
  generalize edge F = ED at *
  generalize thV F s3 = V3 at *
  generalize thB F s3 = B3 at *
  have f0 : decide (128 < s0) = false := by simp [*] <;> omega
  have f1 : (s1 != ED) = false := by simp [*] <;> omega
  have f2 : (s1 == ED) = true := by simp [*] <;> omega
  have f3 : decide (s0 < 128) = true := by simp [*] <;> omega
  have f4 : decide ((F.steps.length : Int) ≤ (i : Int) + s0 + 1) = false := by simp [*] <;> omega
  have f5 : decide (s2 < 128) = true := by simp [*] <;> omega
  obtain ⟨W, hW⟩ : ∃ W, W = (w.alloc (.cells #[.int .u32 F.check, .int .i64 F.design, .int .i64 F.first, .slice A0 F.chars.length n0, .slice (some ⟨b, o, none⟩) F.steps.length n1, .slice A2 F.kerns.length n2, .slice A3 F.pieces.length n3, .slice A4 F.params.length n4] 28)).alloc (.cells #[.int .u8 s0, .int .u8 s1, .int .u8 s2, .int .u8 s3] 71) := ⟨_, rfl⟩
  have hk0 : Kept w W := by rw [hW]; exact (walloc _ _).trans (walloc _ _)
  have hB : FBox W w.heap.size F ⟨A0, n0, some ⟨b, o, none⟩, n1, A2, n2, A3, n3, A4, n4⟩ := by rw [hW]; exact FBox.kept (FBox.of_obj (mkobj _ _)) (walloc _ _)
  have hSB : SBox W (w.heap.size + 1) ⟨s0, s1, s2, s3⟩ := by
    rw [hW]
    have := mkobj (w.alloc (.cells #[.int .u32 F.check, .int .i64 F.design, .int .i64 F.first, .slice A0 F.chars.length n0, .slice (some ⟨b, o, none⟩) F.steps.length n1, .slice A2 F.kerns.length n2, .slice A3 F.pieces.length n3, .slice A4 F.params.length n4] 28)) (.cells #[.int .u8 s0, .int .u8 s1, .int .u8 s2, .int .u8 s3] 71)
    exact SBox.of_obj (by simpa using this)
  have HW := Lib.hid hW
  have hS : ∀ w', Kept W w' → Hid (w'.cell? ⟨w.heap.size, 0, none⟩ = some (.int .u32 F.check) ∧ w'.cell? ⟨w.heap.size, 1, none⟩ = some (.int .i64 F.design) ∧ w'.cell? ⟨w.heap.size, 2, none⟩ = some (.int .i64 F.first) ∧ w'.cell? ⟨w.heap.size, 3, none⟩ = some (.slice A0 F.chars.length n0) ∧ w'.cell? ⟨w.heap.size, 4, none⟩ = some (.slice (some ⟨b, o, none⟩) F.steps.length n1) ∧ w'.cell? ⟨w.heap.size, 5, none⟩ = some (.slice A2 F.kerns.length n2) ∧ w'.cell? ⟨w.heap.size, 6, none⟩ = some (.slice A3 F.pieces.length n3) ∧ w'.cell? ⟨w.heap.size, 7, none⟩ = some (.slice A4 F.params.length n4) ∧ w'.cell? ⟨w.heap.size + 1, 1, none⟩ = some (.int .u8 s1) ∧ Kept W w') := fun w' hk => by
    obtain ⟨z0, z1, z2, z3, z4, z5, z6, z7, _⟩ := hB.kept hk
    exact Lib.hid ⟨z0, z1, z2, z3, z4, z5, z6, z7, (hSB.kept hk).c1, hk⟩
  clear hW
  clear h0 h1 h2 h3 h4 h5
  have hwr : IntKind.i64.wrap s1 = s1 := IntWalk.i64_in _ (by omega)
  go_enter Tryz.func43, Tryz.ntmps43
  go_wp2_with (fail)
  rw [← HW.out]
  refine (ht1 _ hk0).out.mono ?_
  rintro e w1 ⟨rfl, k1⟩
  obtain ⟨z0, z1, z2, z3, z4, z5, z6, z7, z8⟩ := hB.kept k1
  obtain ⟨x0, x1, x2, x3, x4⟩ := hSB.kept k1
  go_wp2_with (fail)
  go_region_held3 (fun w' => w'.cell? ⟨w.heap.size, 0, none⟩ = some (.int .u32 F.check) ∧ w'.cell? ⟨w.heap.size, 1, none⟩ = some (.int .i64 F.design) ∧ w'.cell? ⟨w.heap.size, 2, none⟩ = some (.int .i64 F.first) ∧ w'.cell? ⟨w.heap.size, 3, none⟩ = some (.slice A0 F.chars.length n0) ∧ w'.cell? ⟨w.heap.size, 4, none⟩ = some (.slice (some ⟨b, o, none⟩) F.steps.length n1) ∧ w'.cell? ⟨w.heap.size, 5, none⟩ = some (.slice A2 F.kerns.length n2) ∧ w'.cell? ⟨w.heap.size, 6, none⟩ = some (.slice A3 F.pieces.length n3) ∧ w'.cell? ⟨w.heap.size, 7, none⟩ = some (.slice A4 F.params.length n4) ∧ w'.cell? ⟨w.heap.size + 1, 1, none⟩ = some (.int .u8 s1) ∧ Kept W w') (first | exact (hS _ (by first | assumption | exact Below.drew (by assumption))).out) (first | (go_at_call 62; refine (hed _ (hk0.trans (Below.drew k1))).out.mono ?_; rintro e w2 ⟨rfl, k2⟩; have kb : Kept W w2 := Kept.trans (Below.drew k1) k2))
  all_goals
    clear x0 x1 x2 x3 x4 z0 z1 z2 z3 z4 z5 z6 z7 z8
    obtain ⟨z0, z1, z2, z3, z4, z5, z6, z7, z8⟩ := hB.kept kb
    obtain ⟨x0, x1, x2, x3, x4⟩ := hSB.kept kb
    go_wp2_with (fail)
    refine (ht2 _ (hk0.trans (kb))).out.mono ?_
    rintro e w5 ⟨rfl, k5⟩
    go_wp2_with (fail)
    go_ret
    exact ⟨rfl, (hk0.trans (kb)).trans k5⟩


set_option maxRecDepth 100000 in
set_option maxHeartbeats 4000000 in
theorem step_Ea2 (F : Fnt) (a : FAddr) (i : Nat) (w : World) (hF : FontAt w F a w.heap.size) (hok : FOk F) (hi : i < F.steps.length) (s : St) (hs : F.steps[i] = s) (h0 : thB F s.next = false) (h1 : ¬ 128 < s.skip) (h2 : s.next = edge F) (h3 : s.skip < 128) (h4 : i + s.skip + 1 < F.steps.length) (h5 : ¬ s.op < 128) :
    Calls Tryz.prog 43 #[fontV F a, .int .i64 i] w fun e w' => e = .returned (.bool (decide (256 * (s.op - 128) + s.rest < F.kerns.length))) ∧ Kept w w' := by
  have hil : F.steps.length ≤ 32510 := hok.nsteps
  obtain ⟨⟨y0, y1⟩, ⟨y2, y3⟩, ⟨y4, y5⟩, ⟨y6, y7⟩⟩ : s.wf := hs ▸ hok.wf.steps F.steps[i] (List.getElem_mem hi)
  have ht1 := fun w' (hk : Kept w w') => Lib.hid (there_any F a s.next w' ((hF.kept hk).more hk.size) (hok.th (by unfold i64B; omega)))
  have hed := fun w' (hk : Kept w w') => Lib.hid (edge_any F a w' ((hF.kept hk).more hk.size) hok.wf)
  obtain ⟨A0, n0, A1, n1, A2, n2, A3, n3, A4, n4⟩ := a
  obtain ⟨b, o, hA, hb, hc⟩ := hF.s (by omega)
  obtain ⟨c0, c1, c2, c3⟩ := hc i hi
  obtain rfl : A1 = some ⟨b, o, none⟩ := hA
  rw [hs] at c0 c1 c2 c3
  clear hc hs hF hok
  obtain ⟨s0, s1, s2, s3⟩ := s
  simp only at c0 c1 c2 c3 y0 y1 y2 y3 y4 y5 y6 y7 ht1  h0 h1 h2 h3 h4 h5
  rw [h0] at ht1
  generalize thV F s1 = V1 at *
  generalize edge F = ED at *
  have f0 : decide (128 < s0) = false := by simp [*] <;> omega
  have f1 : (s1 != ED) = false := by simp [*] <;> omega
  have f2 : (s1 == ED) = true := by simp [*] <;> omega
  have f3 : decide (s0 < 128) = true := by simp [*] <;> omega
  have f4 : decide ((F.steps.length : Int) ≤ (i : Int) + s0 + 1) = false := by simp [*] <;> omega
  have f5 : decide (s2 < 128) = false := by simp [*] <;> omega
  obtain ⟨W, hW⟩ : ∃ W, W = (w.alloc (.cells #[.int .u32 F.check, .int .i64 F.design, .int .i64 F.first, .slice A0 F.chars.length n0, .slice (some ⟨b, o, none⟩) F.steps.length n1, .slice A2 F.kerns.length n2, .slice A3 F.pieces.length n3, .slice A4 F.params.length n4] 28)).alloc (.cells #[.int .u8 s0, .int .u8 s1, .int .u8 s2, .int .u8 s3] 71) := ⟨_, rfl⟩
  have hk0 : Kept w W := by rw [hW]; exact (walloc _ _).trans (walloc _ _)
  have hB : FBox W w.heap.size F ⟨A0, n0, some ⟨b, o, none⟩, n1, A2, n2, A3, n3, A4, n4⟩ := by rw [hW]; exact FBox.kept (FBox.of_obj (mkobj _ _)) (walloc _ _)
  have hSB : SBox W (w.heap.size + 1) ⟨s0, s1, s2, s3⟩ := by
    rw [hW]
    have := mkobj (w.alloc (.cells #[.int .u32 F.check, .int .i64 F.design, .int .i64 F.first, .slice A0 F.chars.length n0, .slice (some ⟨b, o, none⟩) F.steps.length n1, .slice A2 F.kerns.length n2, .slice A3 F.pieces.length n3, .slice A4 F.params.length n4] 28)) (.cells #[.int .u8 s0, .int .u8 s1, .int .u8 s2, .int .u8 s3] 71)
    exact SBox.of_obj (by simpa using this)
  have HW := Lib.hid hW
  have hS : ∀ w', Kept W w' → Hid (w'.cell? ⟨w.heap.size, 0, none⟩ = some (.int .u32 F.check) ∧ w'.cell? ⟨w.heap.size, 1, none⟩ = some (.int .i64 F.design) ∧ w'.cell? ⟨w.heap.size, 2, none⟩ = some (.int .i64 F.first) ∧ w'.cell? ⟨w.heap.size, 3, none⟩ = some (.slice A0 F.chars.length n0) ∧ w'.cell? ⟨w.heap.size, 4, none⟩ = some (.slice (some ⟨b, o, none⟩) F.steps.length n1) ∧ w'.cell? ⟨w.heap.size, 5, none⟩ = some (.slice A2 F.kerns.length n2) ∧ w'.cell? ⟨w.heap.size, 6, none⟩ = some (.slice A3 F.pieces.length n3) ∧ w'.cell? ⟨w.heap.size, 7, none⟩ = some (.slice A4 F.params.length n4) ∧ w'.cell? ⟨w.heap.size + 1, 1, none⟩ = some (.int .u8 s1) ∧ Kept W w') := fun w' hk => by
    obtain ⟨z0, z1, z2, z3, z4, z5, z6, z7, _⟩ := hB.kept hk
    exact Lib.hid ⟨z0, z1, z2, z3, z4, z5, z6, z7, (hSB.kept hk).c1, hk⟩
  clear hW
  clear h0 h1 h2 h3 h4 h5
  have hwr : IntKind.i64.wrap s1 = s1 := IntWalk.i64_in _ (by omega)
  go_enter Tryz.func43, Tryz.ntmps43
  go_wp2_with (fail)
  rw [← HW.out]
  refine (ht1 _ hk0).out.mono ?_
  rintro e w1 ⟨rfl, k1⟩
  obtain ⟨z0, z1, z2, z3, z4, z5, z6, z7, z8⟩ := hB.kept k1
  obtain ⟨x0, x1, x2, x3, x4⟩ := hSB.kept k1
  go_wp2_with (fail)
  go_region_held3 (fun w' => w'.cell? ⟨w.heap.size, 0, none⟩ = some (.int .u32 F.check) ∧ w'.cell? ⟨w.heap.size, 1, none⟩ = some (.int .i64 F.design) ∧ w'.cell? ⟨w.heap.size, 2, none⟩ = some (.int .i64 F.first) ∧ w'.cell? ⟨w.heap.size, 3, none⟩ = some (.slice A0 F.chars.length n0) ∧ w'.cell? ⟨w.heap.size, 4, none⟩ = some (.slice (some ⟨b, o, none⟩) F.steps.length n1) ∧ w'.cell? ⟨w.heap.size, 5, none⟩ = some (.slice A2 F.kerns.length n2) ∧ w'.cell? ⟨w.heap.size, 6, none⟩ = some (.slice A3 F.pieces.length n3) ∧ w'.cell? ⟨w.heap.size, 7, none⟩ = some (.slice A4 F.params.length n4) ∧ w'.cell? ⟨w.heap.size + 1, 1, none⟩ = some (.int .u8 s1) ∧ Kept W w') (first | exact (hS _ (by first | assumption | exact Below.drew (by assumption))).out) (first | (go_at_call 62; refine (hed _ (hk0.trans (Below.drew k1))).out.mono ?_; rintro e w2 ⟨rfl, k2⟩; have kb : Kept W w2 := Kept.trans (Below.drew k1) k2))
  all_goals
    clear x0 x1 x2 x3 x4 z0 z1 z2 z3 z4 z5 z6 z7 z8
    obtain ⟨z0, z1, z2, z3, z4, z5, z6, z7, z8⟩ := hB.kept kb
    obtain ⟨x0, x1, x2, x3, x4⟩ := hSB.kept kb
    go_wp2_with (fail)
    go_ret
    exact ⟨rfl, hk0.trans (kb)⟩


set_option maxRecDepth 100000 in
set_option maxHeartbeats 4000000 in
theorem step_Eb1 (F : Fnt) (a : FAddr) (i : Nat) (w : World) (hF : FontAt w F a w.heap.size) (hok : FOk F) (hi : i < F.steps.length) (s : St) (hs : F.steps[i] = s) (h0 : thB F s.next = false) (h1 : ¬ 128 < s.skip) (h2 : s.next = edge F) (h3 : ¬ s.skip < 128) (h4 : s.op < 128) :
    Calls Tryz.prog 43 #[fontV F a, .int .i64 i] w fun e w' => e = .returned (.bool (thB F s.rest)) ∧ Kept w w' := by
  have hil : F.steps.length ≤ 32510 := hok.nsteps
  obtain ⟨⟨y0, y1⟩, ⟨y2, y3⟩, ⟨y4, y5⟩, ⟨y6, y7⟩⟩ : s.wf := hs ▸ hok.wf.steps F.steps[i] (List.getElem_mem hi)
  have ht1 := fun w' (hk : Kept w w') => Lib.hid (there_any F a s.next w' ((hF.kept hk).more hk.size) (hok.th (by unfold i64B; omega)))
  have hed := fun w' (hk : Kept w w') => Lib.hid (edge_any F a w' ((hF.kept hk).more hk.size) hok.wf)
  have ht2 := fun w' (hk : Kept w w') => Lib.hid (there_any F a s.rest w' ((hF.kept hk).more hk.size) (hok.th (by unfold i64B; omega)))
  obtain ⟨A0, n0, A1, n1, A2, n2, A3, n3, A4, n4⟩ := a
  obtain ⟨b, o, hA, hb, hc⟩ := hF.s (by omega)
  obtain ⟨c0, c1, c2, c3⟩ := hc i hi
  obtain rfl : A1 = some ⟨b, o, none⟩ := hA
  rw [hs] at c0 c1 c2 c3
  clear hc hs hF hok
  obtain ⟨s0, s1, s2, s3⟩ := s
  simp only at c0 c1 c2 c3 y0 y1 y2 y3 y4 y5 y6 y7 ht1 ht2 h0 h1 h2 h3 h4
  rw [h0] at ht1
  generalize thV F s1 = V1 at *
  generalize edge F = ED at *
  generalize thV F s3 = V3 at *
  generalize thB F s3 = B3 at *
  have f0 : decide (128 < s0) = false := by simp [*] <;> omega
  have f1 : (s1 != ED) = false := by simp [*] <;> omega
  have f2 : (s1 == ED) = true := by simp [*] <;> omega
  have f3 : decide (s0 < 128) = false := by simp [*] <;> omega
  have f4 : decide (s2 < 128) = true := by simp [*] <;> omega
  obtain ⟨W, hW⟩ : ∃ W, W = (w.alloc (.cells #[.int .u32 F.check, .int .i64 F.design, .int .i64 F.first, .slice A0 F.chars.length n0, .slice (some ⟨b, o, none⟩) F.steps.length n1, .slice A2 F.kerns.length n2, .slice A3 F.pieces.length n3, .slice A4 F.params.length n4] 28)).alloc (.cells #[.int .u8 s0, .int .u8 s1, .int .u8 s2, .int .u8 s3] 71) := ⟨_, rfl⟩
  have hk0 : Kept w W := by rw [hW]; exact (walloc _ _).trans (walloc _ _)
  have hB : FBox W w.heap.size F ⟨A0, n0, some ⟨b, o, none⟩, n1, A2, n2, A3, n3, A4, n4⟩ := by rw [hW]; exact FBox.kept (FBox.of_obj (mkobj _ _)) (walloc _ _)
  have hSB : SBox W (w.heap.size + 1) ⟨s0, s1, s2, s3⟩ := by
    rw [hW]
    have := mkobj (w.alloc (.cells #[.int .u32 F.check, .int .i64 F.design, .int .i64 F.first, .slice A0 F.chars.length n0, .slice (some ⟨b, o, none⟩) F.steps.length n1, .slice A2 F.kerns.length n2, .slice A3 F.pieces.length n3, .slice A4 F.params.length n4] 28)) (.cells #[.int .u8 s0, .int .u8 s1, .int .u8 s2, .int .u8 s3] 71)
    exact SBox.of_obj (by simpa using this)
  have HW := Lib.hid hW
  have hS : ∀ w', Kept W w' → Hid (w'.cell? ⟨w.heap.size, 0, none⟩ = some (.int .u32 F.check) ∧ w'.cell? ⟨w.heap.size, 1, none⟩ = some (.int .i64 F.design) ∧ w'.cell? ⟨w.heap.size, 2, none⟩ = some (.int .i64 F.first) ∧ w'.cell? ⟨w.heap.size, 3, none⟩ = some (.slice A0 F.chars.length n0) ∧ w'.cell? ⟨w.heap.size, 4, none⟩ = some (.slice (some ⟨b, o, none⟩) F.steps.length n1) ∧ w'.cell? ⟨w.heap.size, 5, none⟩ = some (.slice A2 F.kerns.length n2) ∧ w'.cell? ⟨w.heap.size, 6, none⟩ = some (.slice A3 F.pieces.length n3) ∧ w'.cell? ⟨w.heap.size, 7, none⟩ = some (.slice A4 F.params.length n4) ∧ w'.cell? ⟨w.heap.size + 1, 1, none⟩ = some (.int .u8 s1) ∧ Kept W w') := fun w' hk => by
    obtain ⟨z0, z1, z2, z3, z4, z5, z6, z7, _⟩ := hB.kept hk
    exact Lib.hid ⟨z0, z1, z2, z3, z4, z5, z6, z7, (hSB.kept hk).c1, hk⟩
  clear hW
  clear h0 h1 h2 h3 h4
  have hwr : IntKind.i64.wrap s1 = s1 := IntWalk.i64_in _ (by omega)
  go_enter Tryz.func43, Tryz.ntmps43
  go_wp2_with (fail)
  rw [← HW.out]
  refine (ht1 _ hk0).out.mono ?_
  rintro e w1 ⟨rfl, k1⟩
  obtain ⟨z0, z1, z2, z3, z4, z5, z6, z7, z8⟩ := hB.kept k1
  obtain ⟨x0, x1, x2, x3, x4⟩ := hSB.kept k1
  go_wp2_with (fail)
  go_region_held3 (fun w' => w'.cell? ⟨w.heap.size, 0, none⟩ = some (.int .u32 F.check) ∧ w'.cell? ⟨w.heap.size, 1, none⟩ = some (.int .i64 F.design) ∧ w'.cell? ⟨w.heap.size, 2, none⟩ = some (.int .i64 F.first) ∧ w'.cell? ⟨w.heap.size, 3, none⟩ = some (.slice A0 F.chars.length n0) ∧ w'.cell? ⟨w.heap.size, 4, none⟩ = some (.slice (some ⟨b, o, none⟩) F.steps.length n1) ∧ w'.cell? ⟨w.heap.size, 5, none⟩ = some (.slice A2 F.kerns.length n2) ∧ w'.cell? ⟨w.heap.size, 6, none⟩ = some (.slice A3 F.pieces.length n3) ∧ w'.cell? ⟨w.heap.size, 7, none⟩ = some (.slice A4 F.params.length n4) ∧ w'.cell? ⟨w.heap.size + 1, 1, none⟩ = some (.int .u8 s1) ∧ Kept W w') (first | exact (hS _ (by first | assumption | exact Below.drew (by assumption))).out) (first | (go_at_call 62; refine (hed _ (hk0.trans (Below.drew k1))).out.mono ?_; rintro e w2 ⟨rfl, k2⟩; have kb : Kept W w2 := Kept.trans (Below.drew k1) k2))
  all_goals
    clear x0 x1 x2 x3 x4 z0 z1 z2 z3 z4 z5 z6 z7 z8
    obtain ⟨z0, z1, z2, z3, z4, z5, z6, z7, z8⟩ := hB.kept kb
    obtain ⟨x0, x1, x2, x3, x4⟩ := hSB.kept kb
    go_wp2_with (fail)
    refine (ht2 _ (hk0.trans (kb))).out.mono ?_
    rintro e w5 ⟨rfl, k5⟩
    go_wp2_with (fail)
    go_ret
    exact ⟨rfl, (hk0.trans (kb)).trans k5⟩


set_option maxRecDepth 100000 in
set_option maxHeartbeats 4000000 in
theorem step_Eb2 (F : Fnt) (a : FAddr) (i : Nat) (w : World) (hF : FontAt w F a w.heap.size) (hok : FOk F) (hi : i < F.steps.length) (s : St) (hs : F.steps[i] = s) (h0 : thB F s.next = false) (h1 : ¬ 128 < s.skip) (h2 : s.next = edge F) (h3 : ¬ s.skip < 128) (h4 : ¬ s.op < 128) :
    Calls Tryz.prog 43 #[fontV F a, .int .i64 i] w fun e w' => e = .returned (.bool (decide (256 * (s.op - 128) + s.rest < F.kerns.length))) ∧ Kept w w' := by
  have hil : F.steps.length ≤ 32510 := hok.nsteps
  obtain ⟨⟨y0, y1⟩, ⟨y2, y3⟩, ⟨y4, y5⟩, ⟨y6, y7⟩⟩ : s.wf := hs ▸ hok.wf.steps F.steps[i] (List.getElem_mem hi)
  have ht1 := fun w' (hk : Kept w w') => Lib.hid (there_any F a s.next w' ((hF.kept hk).more hk.size) (hok.th (by unfold i64B; omega)))
  have hed := fun w' (hk : Kept w w') => Lib.hid (edge_any F a w' ((hF.kept hk).more hk.size) hok.wf)
  obtain ⟨A0, n0, A1, n1, A2, n2, A3, n3, A4, n4⟩ := a
  obtain ⟨b, o, hA, hb, hc⟩ := hF.s (by omega)
  obtain ⟨c0, c1, c2, c3⟩ := hc i hi
  obtain rfl : A1 = some ⟨b, o, none⟩ := hA
  rw [hs] at c0 c1 c2 c3
  clear hc hs hF hok
  obtain ⟨s0, s1, s2, s3⟩ := s
  simp only at c0 c1 c2 c3 y0 y1 y2 y3 y4 y5 y6 y7 ht1  h0 h1 h2 h3 h4
  rw [h0] at ht1
  generalize thV F s1 = V1 at *
  generalize edge F = ED at *
  have f0 : decide (128 < s0) = false := by simp [*] <;> omega
  have f1 : (s1 != ED) = false := by simp [*] <;> omega
  have f2 : (s1 == ED) = true := by simp [*] <;> omega
  have f3 : decide (s0 < 128) = false := by simp [*] <;> omega
  have f4 : decide (s2 < 128) = false := by simp [*] <;> omega
  obtain ⟨W, hW⟩ : ∃ W, W = (w.alloc (.cells #[.int .u32 F.check, .int .i64 F.design, .int .i64 F.first, .slice A0 F.chars.length n0, .slice (some ⟨b, o, none⟩) F.steps.length n1, .slice A2 F.kerns.length n2, .slice A3 F.pieces.length n3, .slice A4 F.params.length n4] 28)).alloc (.cells #[.int .u8 s0, .int .u8 s1, .int .u8 s2, .int .u8 s3] 71) := ⟨_, rfl⟩
  have hk0 : Kept w W := by rw [hW]; exact (walloc _ _).trans (walloc _ _)
  have hB : FBox W w.heap.size F ⟨A0, n0, some ⟨b, o, none⟩, n1, A2, n2, A3, n3, A4, n4⟩ := by rw [hW]; exact FBox.kept (FBox.of_obj (mkobj _ _)) (walloc _ _)
  have hSB : SBox W (w.heap.size + 1) ⟨s0, s1, s2, s3⟩ := by
    rw [hW]
    have := mkobj (w.alloc (.cells #[.int .u32 F.check, .int .i64 F.design, .int .i64 F.first, .slice A0 F.chars.length n0, .slice (some ⟨b, o, none⟩) F.steps.length n1, .slice A2 F.kerns.length n2, .slice A3 F.pieces.length n3, .slice A4 F.params.length n4] 28)) (.cells #[.int .u8 s0, .int .u8 s1, .int .u8 s2, .int .u8 s3] 71)
    exact SBox.of_obj (by simpa using this)
  have HW := Lib.hid hW
  have hS : ∀ w', Kept W w' → Hid (w'.cell? ⟨w.heap.size, 0, none⟩ = some (.int .u32 F.check) ∧ w'.cell? ⟨w.heap.size, 1, none⟩ = some (.int .i64 F.design) ∧ w'.cell? ⟨w.heap.size, 2, none⟩ = some (.int .i64 F.first) ∧ w'.cell? ⟨w.heap.size, 3, none⟩ = some (.slice A0 F.chars.length n0) ∧ w'.cell? ⟨w.heap.size, 4, none⟩ = some (.slice (some ⟨b, o, none⟩) F.steps.length n1) ∧ w'.cell? ⟨w.heap.size, 5, none⟩ = some (.slice A2 F.kerns.length n2) ∧ w'.cell? ⟨w.heap.size, 6, none⟩ = some (.slice A3 F.pieces.length n3) ∧ w'.cell? ⟨w.heap.size, 7, none⟩ = some (.slice A4 F.params.length n4) ∧ w'.cell? ⟨w.heap.size + 1, 1, none⟩ = some (.int .u8 s1) ∧ Kept W w') := fun w' hk => by
    obtain ⟨z0, z1, z2, z3, z4, z5, z6, z7, _⟩ := hB.kept hk
    exact Lib.hid ⟨z0, z1, z2, z3, z4, z5, z6, z7, (hSB.kept hk).c1, hk⟩
  clear hW
  clear h0 h1 h2 h3 h4
  have hwr : IntKind.i64.wrap s1 = s1 := IntWalk.i64_in _ (by omega)
  go_enter Tryz.func43, Tryz.ntmps43
  go_wp2_with (fail)
  rw [← HW.out]
  refine (ht1 _ hk0).out.mono ?_
  rintro e w1 ⟨rfl, k1⟩
  obtain ⟨z0, z1, z2, z3, z4, z5, z6, z7, z8⟩ := hB.kept k1
  obtain ⟨x0, x1, x2, x3, x4⟩ := hSB.kept k1
  go_wp2_with (fail)
  go_region_held3 (fun w' => w'.cell? ⟨w.heap.size, 0, none⟩ = some (.int .u32 F.check) ∧ w'.cell? ⟨w.heap.size, 1, none⟩ = some (.int .i64 F.design) ∧ w'.cell? ⟨w.heap.size, 2, none⟩ = some (.int .i64 F.first) ∧ w'.cell? ⟨w.heap.size, 3, none⟩ = some (.slice A0 F.chars.length n0) ∧ w'.cell? ⟨w.heap.size, 4, none⟩ = some (.slice (some ⟨b, o, none⟩) F.steps.length n1) ∧ w'.cell? ⟨w.heap.size, 5, none⟩ = some (.slice A2 F.kerns.length n2) ∧ w'.cell? ⟨w.heap.size, 6, none⟩ = some (.slice A3 F.pieces.length n3) ∧ w'.cell? ⟨w.heap.size, 7, none⟩ = some (.slice A4 F.params.length n4) ∧ w'.cell? ⟨w.heap.size + 1, 1, none⟩ = some (.int .u8 s1) ∧ Kept W w') (first | exact (hS _ (by first | assumption | exact Below.drew (by assumption))).out) (first | (go_at_call 62; refine (hed _ (hk0.trans (Below.drew k1))).out.mono ?_; rintro e w2 ⟨rfl, k2⟩; have kb : Kept W w2 := Kept.trans (Below.drew k1) k2))
  all_goals
    clear x0 x1 x2 x3 x4 z0 z1 z2 z3 z4 z5 z6 z7 z8
    obtain ⟨z0, z1, z2, z3, z4, z5, z6, z7, z8⟩ := hB.kept kb
    obtain ⟨x0, x1, x2, x3, x4⟩ := hSB.kept kb
    go_wp2_with (fail)
    go_ret
    exact ⟨rfl, hk0.trans (kb)⟩

end Go.Proofs.YtdhidpbenhmfgaaGreat
