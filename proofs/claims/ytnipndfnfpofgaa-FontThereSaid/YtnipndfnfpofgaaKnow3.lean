/- galleylaw03.num, Small, knows. -/
import Derived.Test.YtnipndfnfpofgaaFBack
import Derived.Test.YtnipndfnfpofgaaCAt
namespace Go.Proofs.Ytnipndfnfpofgaa
open Go.RowKit

theorem num3_any (n : Int) (w : World) : Calls Try.prog 14 #[.int .i64 n] w fun e w' => e = .returned (.int .i64 n) ∧ w = w' := by
  go_enter Try.func14, Try.ntmps14
  go_wp2
  go_ret
  exact ⟨rfl, rfl⟩
abbrev smallV (a : FAddr) : Value := .agg #[.int .u32 7, .int .i64 10485760, .int .i64 97, .slice a.A0 1 a.c0, .slice a.A1 0 a.c1, .slice a.A2 0 a.c2, .slice a.A3 0 a.c3, .slice a.A4 2 a.c4]
theorem mets1 {w : World} {B C : Nat} {a b : Int} {T : TypeId} (h : w.heap[B]? = some (.cells #[.int .i64 a, .int .i64 b, .int .i64 0, .int .i64 0, .int .i64 0, .int .i64 0] T (0, 0))) (hC : B < C) : MetsAt w (some ⟨B, 0, none⟩) [⟨a, b, 0, 0, 0, 0⟩] C := fun _ =>
  ⟨B, 0, rfl, hC, fun i hi => by
    obtain rfl : i = 0 := by simpa using hi
    simp [World.cell?, h]⟩
theorem small_any (w : World) :
    Calls Try.prog 51 #[] w fun e w' => ∃ a, e = .returned (smallV a) ∧ FontAt w' smallF a w'.heap.size ∧ Kept w w' := by
  go_enter Try.func51, Try.ntmps51
  go_wp2_with (fail)
  obtain ⟨Z, hZ⟩ : ∃ Z, Z = ((w.alloc (.cells #[.int .u32 7, .int .i64 10485760, .int .i64 97, .slice (some ⟨w.heap.size + 1, 0, none⟩) 1 1, .slice none 0 0, .slice none 0 0, .slice none 0 0, .slice (some ⟨w.heap.size + 1 + 1, 0, none⟩) 2 2] 28)).alloc (.cells #[.int .i64 524288, .int .i64 262144, .int .i64 0, .int .i64 0, .int .i64 0, .int .i64 0] 47)).alloc (.cells #[.int .i64 0, .int .i64 262144] 3) := ⟨_, rfl⟩
  have s1 : (w.alloc (.cells #[.int .u32 7, .int .i64 10485760, .int .i64 97, .slice (some ⟨w.heap.size + 1, 0, none⟩) 1 1, .slice none 0 0, .slice none 0 0, .slice none 0 0, .slice (some ⟨w.heap.size + 1 + 1, 0, none⟩) 2 2] 28)).heap.size = w.heap.size + 1 := by simp
  have s2 : ((w.alloc (.cells #[.int .u32 7, .int .i64 10485760, .int .i64 97, .slice (some ⟨w.heap.size + 1, 0, none⟩) 1 1, .slice none 0 0, .slice none 0 0, .slice none 0 0, .slice (some ⟨w.heap.size + 1 + 1, 0, none⟩) 2 2] 28)).alloc (.cells #[.int .i64 524288, .int .i64 262144, .int .i64 0, .int .i64 0, .int .i64 0, .int .i64 0] 47)).heap.size = w.heap.size + 1 + 1 := by simp
  have s3 : Z.heap.size = w.heap.size + 1 + 1 + 1 := by rw [hZ]; simp
  have m1 : Z.heap[w.heap.size + 1]? = some (.cells #[.int .i64 524288, .int .i64 262144, .int .i64 0, .int .i64 0, .int .i64 0, .int .i64 0] 47 (0, 0)) := by
    rw [hZ]
    refine ((walloc _ _).block (w.heap.size + 1) (by rw [s2]; omega)).trans ?_
    have q := mkobj (w.alloc (.cells #[.int .u32 7, .int .i64 10485760, .int .i64 97, .slice (some ⟨w.heap.size + 1, 0, none⟩) 1 1, .slice none 0 0, .slice none 0 0, .slice none 0 0, .slice (some ⟨w.heap.size + 1 + 1, 0, none⟩) 2 2] 28)) (.cells #[.int .i64 524288, .int .i64 262144, .int .i64 0, .int .i64 0, .int .i64 0, .int .i64 0] 47)
    rw [s1] at q
    exact q
  have m2 : Z.heap[w.heap.size + 1 + 1]? = some (.cells #[.int .i64 0, .int .i64 262144] 3 (0, 0)) := by
    rw [hZ]
    have q := mkobj ((w.alloc (.cells #[.int .u32 7, .int .i64 10485760, .int .i64 97, .slice (some ⟨w.heap.size + 1, 0, none⟩) 1 1, .slice none 0 0, .slice none 0 0, .slice none 0 0, .slice (some ⟨w.heap.size + 1 + 1, 0, none⟩) 2 2] 28)).alloc (.cells #[.int .i64 524288, .int .i64 262144, .int .i64 0, .int .i64 0, .int .i64 0, .int .i64 0] 47)) (.cells #[.int .i64 0, .int .i64 262144] 3)
    rw [s2] at q
    exact q
  have m0 : Z.heap[w.heap.size]? = some (.cells #[.int .u32 7, .int .i64 10485760, .int .i64 97, .slice (some ⟨w.heap.size + 1, 0, none⟩) 1 1, .slice none 0 0, .slice none 0 0, .slice none 0 0, .slice (some ⟨w.heap.size + 1 + 1, 0, none⟩) 2 2] 28 (0, 0)) := by
    rw [hZ]
    exact ((walloc _ _).block w.heap.size (by rw [s2]; omega)).trans (((walloc _ _).block w.heap.size (by rw [s1]; omega)).trans (mkobj _ _))
  have kZ : Kept w Z := by rw [hZ]; exact ((walloc _ _).trans (walloc _ _)).trans (walloc _ _)
  rw [← hZ]
  clear hZ
  obtain ⟨x0, x1, x2, x3, x4, x5, x6, x7, _, _⟩ := cells8 m0
  exact bodyPost_ret (v := .agg #[.int .u32 7, .int .i64 10485760, .int .i64 97, .slice (some ⟨w.heap.size + 1, 0, none⟩) 1 1, .slice none 0 0, .slice none 0 0, .slice none 0 0, .slice (some ⟨w.heap.size + 1 + 1, 0, none⟩) 2 2]) (by simp [results, Try.results51, go_sem, x0, x1, x2, x3, x4, x5, x6, x7]) rfl
    ⟨⟨some ⟨w.heap.size + 1, 0, none⟩, 1, none, 0, none, 0, none, 0, some ⟨w.heap.size + 1 + 1, 0, none⟩, 2⟩, rfl, ⟨mets1 m1 (by omega), fun h => by simp [smallF] at h, fun h => by simp [smallF] at h, fun h => by simp [smallF] at h, nums2 m2 (by omega), by simp [smallF]⟩, kZ⟩
set_option maxRecDepth 100000 in
set_option maxHeartbeats 2000000 in
theorem know3_any (w : World) :
    Calls Try.prog 17 #[] w fun e w' => e = .returned (.bool true) ∧ Kept w w' := by
  have hs := fun w => Lib.hid (small_any w)
  have hw := fun a w (hF : FontAt w smallF a w.heap.size) => Lib.hid ((write_any smallF a w hF small_wf : Calls Try.prog 13 #[smallV a] w _))
  rw [small_write] at hw
  have hb := read_back_any small_wf small_write
  have hr := fun v w0 w B (h : BRow w B v (writeB smallF)) (hk : Kept w w0) => Lib.hid ((read_brow h (bytes_writeB small_wf) hk).mono fun (e : Ending) (w' : World) ⟨a, e1, hF, k⟩ => (⟨a, by rw [e1, hb.1, hb.2]; rfl, by rw [hb.2] at hF; exact hF, k⟩ : ∃ a, e = Ending.returned (.tuple #[smallV a, .int .i64 0]) ∧ FontAt w' smallF a w'.heap.size ∧ Kept w0 w'))
  have ha := fun a w (hF : FontAt w smallF a w.heap.size) => Lib.hid ((cat_any smallF a 97 655360 w hF small_wf (by omega) : Calls Try.prog 22 #[smallV a, .int .u8 97, .int .i64 655360] w _))
  rw [small_at] at ha
  have hl := Lib.hid small_len
  clear hb
  go_enter Try.func17, Try.ntmps17
  go_wp2_with (fail)
  refine (hs _).out.mono ?_
  rintro e w1 ⟨⟨a0, a1, a2, a3, a4, a5, a6, a7, a8, a9⟩, rfl, hF1, k1⟩
  have Hw := hw _ _ hF1
  clear hF1
  go_wp2_with (fail)
  refine Hw.out.mono ?_
  rintro e w2 ⟨v, rfl, hrow, k2⟩
  obtain ⟨A, n, c, rfl⟩ := own_slice hrow
  obtain rfl : n = 68 := by
    obtain ⟨A', c', e, _⟩ := brow_read hrow
    cases e
    exact hl.out
  have Hr := hr _ _ _ _ hrow (Kept.refl _)
  clear hrow
  go_wp2_with (fail)
  refine Hr.out.mono ?_
  rintro e w3 ⟨⟨b0, b1, b2, b3, b4, b5, b6, b7, b8, b9⟩, rfl, hF3, k3⟩
  have Ha := ha _ _ ((hF3.kept (walloc w3 (.cells #[.int .u32 7, .int .i64 10485760, .int .i64 97, .slice b0 1 b1, .slice b2 0 b3, .slice b4 0 b5, .slice b6 0 b7, .slice b8 2 b9] 28))).more (by simp))
  clear hF3
  go_wp2_with (fail)
  refine Ha.out.mono ?_
  rintro e w4 ⟨rfl, k4⟩
  have hc : w4.cell? ⟨w3.heap.size, 0, none⟩ = some (.int .u32 7) := (k4.cell (p := ⟨w3.heap.size, 0, none⟩) (by simp)).trans (by have q := mkobj w3 (.cells #[.int .u32 7, .int .i64 10485760, .int .i64 97, .slice b0 1 b1, .slice b2 0 b3, .slice b4 0 b5, .slice b6 0 b7, .slice b8 2 b9] 28); simp only [World.cell?, q]; rfl)
  go_wp2_with (first | (go_at_call 14; refine (num3_any _ _).mono ?_; rintro e w' ⟨rfl, rfl⟩))
  go_ret
  exact ⟨ret_bool (by first | rfl | decide), ((k1.trans k2).trans k3).trans ((walloc _ _).trans k4)⟩
end Go.Proofs.Ytnipndfnfpofgaa
