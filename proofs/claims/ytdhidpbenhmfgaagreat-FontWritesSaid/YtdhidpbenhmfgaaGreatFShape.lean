/- galleyref03.shape. -/
import Derived.Test.YtdhidpbenhmfgaaGreatM44
namespace Go.Proofs.YtdhidpbenhmfgaaGreat
open Go.RowKit

set_option maxHeartbeats 1000000 in
theorem shape_d0 (F : Fnt) (a : FAddr) (w : World) (_hF : FontAt w F a w.heap.size) (h0 : F.design < 1048576) :
    Calls Tryz.prog 41 #[fontV F a] w fun e w' => e = .returned (.bool false) ∧ Kept w w' := by
  have f0 : decide (F.design < 1048576) = true := decide_eq_true (by omega)
  obtain ⟨A0, n0, A1, n1, A2, n2, A3, n3, A4, n4⟩ := a
  clear h0
  go_enter Tryz.func41, Tryz.ntmps41
  go_wp2
  go_ret
  exact ⟨rfl, walloc _ _⟩


set_option maxHeartbeats 1000000 in
theorem shape_d1 (F : Fnt) (a : FAddr) (w : World) (_hF : FontAt w F a w.heap.size) (h0 : ¬ F.design < 1048576) (h1 : 2147483647 < F.design) :
    Calls Tryz.prog 41 #[fontV F a] w fun e w' => e = .returned (.bool false) ∧ Kept w w' := by
  have f0 : decide (F.design < 1048576) = false := decide_eq_false (by omega)
  have f1 : decide (2147483647 < F.design) = true := decide_eq_true (by omega)
  obtain ⟨A0, n0, A1, n1, A2, n2, A3, n3, A4, n4⟩ := a
  clear h0 h1
  go_enter Tryz.func41, Tryz.ntmps41
  go_wp2
  go_ret
  exact ⟨rfl, walloc _ _⟩


set_option maxHeartbeats 1000000 in
theorem shape_d2 (F : Fnt) (a : FAddr) (w : World) (_hF : FontAt w F a w.heap.size) (h0 : ¬ F.design < 1048576) (h1 : ¬ 2147483647 < F.design) (h2 : F.first < 0) :
    Calls Tryz.prog 41 #[fontV F a] w fun e w' => e = .returned (.bool false) ∧ Kept w w' := by
  have f0 : decide (F.design < 1048576) = false := decide_eq_false (by omega)
  have f1 : decide (2147483647 < F.design) = false := decide_eq_false (by omega)
  have f2 : decide (F.first < 0) = true := decide_eq_true (by omega)
  obtain ⟨A0, n0, A1, n1, A2, n2, A3, n3, A4, n4⟩ := a
  clear h0 h1 h2
  go_enter Tryz.func41, Tryz.ntmps41
  go_wp2
  go_ret
  exact ⟨rfl, walloc _ _⟩


set_option maxHeartbeats 1000000 in
theorem shape_d3 (F : Fnt) (a : FAddr) (w : World) (_hF : FontAt w F a w.heap.size) (h0 : ¬ F.design < 1048576) (h1 : ¬ 2147483647 < F.design) (h2 : ¬ F.first < 0) (h3 : 255 < F.first) :
    Calls Tryz.prog 41 #[fontV F a] w fun e w' => e = .returned (.bool false) ∧ Kept w w' := by
  have f0 : decide (F.design < 1048576) = false := decide_eq_false (by omega)
  have f1 : decide (2147483647 < F.design) = false := decide_eq_false (by omega)
  have f2 : decide (F.first < 0) = false := decide_eq_false (by omega)
  have f3 : decide (255 < F.first) = true := decide_eq_true (by omega)
  obtain ⟨A0, n0, A1, n1, A2, n2, A3, n3, A4, n4⟩ := a
  clear h0 h1 h2 h3
  go_enter Tryz.func41, Tryz.ntmps41
  go_wp2
  go_ret
  exact ⟨rfl, walloc _ _⟩


set_option maxHeartbeats 1000000 in
theorem shape_d4 (F : Fnt) (a : FAddr) (w : World) (_hF : FontAt w F a w.heap.size) (h0 : ¬ F.design < 1048576) (h1 : ¬ 2147483647 < F.design) (h2 : ¬ F.first < 0) (h3 : ¬ 255 < F.first) (h4 : 256 - F.first < (F.chars.length : Int)) :
    Calls Tryz.prog 41 #[fontV F a] w fun e w' => e = .returned (.bool false) ∧ Kept w w' := by
  have f0 : decide (F.design < 1048576) = false := decide_eq_false (by omega)
  have f1 : decide (2147483647 < F.design) = false := decide_eq_false (by omega)
  have f2 : decide (F.first < 0) = false := decide_eq_false (by omega)
  have f3 : decide (255 < F.first) = false := decide_eq_false (by omega)
  have f4 : decide (256 - F.first < (F.chars.length : Int)) = true := decide_eq_true (by omega)
  have q0 : 0 ≤ F.first := by omega
  have q1 : F.first ≤ 255 := by omega
  obtain ⟨A0, n0, A1, n1, A2, n2, A3, n3, A4, n4⟩ := a
  clear h0 h1 h2 h3 h4
  go_enter Tryz.func41, Tryz.ntmps41
  go_wp2
  go_ret
  exact ⟨rfl, walloc _ _⟩


set_option maxHeartbeats 1000000 in
theorem shape_e0 (F : Fnt) (a : FAddr) (w : World) (_hF : FontAt w F a w.heap.size) (h0 : ¬ F.design < 1048576) (h1 : ¬ 2147483647 < F.design) (h2 : ¬ F.first < 0) (h3 : ¬ 255 < F.first) (h4 : ¬ 256 - F.first < (F.chars.length : Int)) (h5 : F.chars.length = 0) (h6 : ¬ F.first = 0) :
    Calls Tryz.prog 41 #[fontV F a] w fun e w' => e = .returned (.bool false) ∧ Kept w w' := by
  have f0 : decide (F.design < 1048576) = false := decide_eq_false (by omega)
  have f1 : decide (2147483647 < F.design) = false := decide_eq_false (by omega)
  have f2 : decide (F.first < 0) = false := decide_eq_false (by omega)
  have f3 : decide (255 < F.first) = false := decide_eq_false (by omega)
  have f4 : decide (256 - F.first < (F.chars.length : Int)) = false := decide_eq_false (by omega)
  have f5 : (F.first != 0) = true := by simp [*]
  have f6 : ((F.chars.length : Int) == 0) = true := by rw [beq_iff_eq]; omega
  have q0 : 0 ≤ F.first := by omega
  have q1 : F.first ≤ 255 := by omega
  obtain ⟨A0, n0, A1, n1, A2, n2, A3, n3, A4, n4⟩ := a
  clear h0 h1 h2 h3 h4 h5 h6
  go_enter Tryz.func41, Tryz.ntmps41
  go_wp2
  go_ret
  exact ⟨rfl, walloc _ _⟩


set_option maxHeartbeats 1000000 in
theorem shape_e1 (F : Fnt) (a : FAddr) (w : World) (_hF : FontAt w F a w.heap.size) (h0 : ¬ F.design < 1048576) (h1 : ¬ 2147483647 < F.design) (h2 : ¬ F.first < 0) (h3 : ¬ 255 < F.first) (h4 : ¬ 256 - F.first < (F.chars.length : Int)) (h5 : 0 < F.chars.length) (h6 : F.chars[0].tag < 0) :
    Calls Tryz.prog 41 #[fontV F a] w fun e w' => e = .returned (.bool false) ∧ Kept w w' := by
  have f0 : decide (F.design < 1048576) = false := decide_eq_false (by omega)
  have f1 : decide (2147483647 < F.design) = false := decide_eq_false (by omega)
  have f2 : decide (F.first < 0) = false := decide_eq_false (by omega)
  have f3 : decide (255 < F.first) = false := decide_eq_false (by omega)
  have f4 : decide (256 - F.first < (F.chars.length : Int)) = false := decide_eq_false (by omega)
  have f5 : ((F.chars.length : Int) == 0) = false := by rw [beq_eq_false_iff_ne]; omega
  have f6 : decide (0 < F.chars.length) = true := decide_eq_true (by omega)
  have f7 : decide (0 < (F.chars.length : Int)) = true := decide_eq_true (by omega)
  have f8 : decide (F.chars[0].tag < 0) = true := decide_eq_true (by omega)
  have q0 : 0 ≤ F.first := by omega
  have q1 : F.first ≤ 255 := by omega
  obtain ⟨A0, n0, A1, n1, A2, n2, A3, n3, A4, n4⟩ := a
  obtain ⟨b, o, hA, hb, hc⟩ := _hF.m h5
  obtain rfl : A0 = some ⟨b, o, none⟩ := hA
  obtain ⟨_, _, _, _, c4, _⟩ := hc 0 h5
  rw [Nat.zero_mul, Nat.add_zero] at c4
  generalize F.chars[0].tag = t0 at *
  have p5 := h5
  clear hc
  clear h0 h1 h2 h3 h4 h6
  go_enter Tryz.func41, Tryz.ntmps41
  go_wp2
  go_ret
  exact ⟨rfl, walloc _ _⟩


set_option maxHeartbeats 1000000 in
theorem shape_e2 (F : Fnt) (a : FAddr) (w : World) (_hF : FontAt w F a w.heap.size) (h0 : ¬ F.design < 1048576) (h1 : ¬ 2147483647 < F.design) (h2 : ¬ F.first < 0) (h3 : ¬ 255 < F.first) (h4 : ¬ 256 - F.first < (F.chars.length : Int)) (h5 : 0 < F.chars.length) (h6 : 0 ≤ F.chars[0].tag) (h7 : (F.chars[F.chars.length - 1]'(by omega)).tag < 0) :
    Calls Tryz.prog 41 #[fontV F a] w fun e w' => e = .returned (.bool false) ∧ Kept w w' := by
  have f0 : decide (F.design < 1048576) = false := decide_eq_false (by omega)
  have f1 : decide (2147483647 < F.design) = false := decide_eq_false (by omega)
  have f2 : decide (F.first < 0) = false := decide_eq_false (by omega)
  have f3 : decide (255 < F.first) = false := decide_eq_false (by omega)
  have f4 : decide (256 - F.first < (F.chars.length : Int)) = false := decide_eq_false (by omega)
  have f5 : ((F.chars.length : Int) == 0) = false := by rw [beq_eq_false_iff_ne]; omega
  have f6 : decide (0 < F.chars.length) = true := decide_eq_true (by omega)
  have f7 : decide (0 < (F.chars.length : Int)) = true := decide_eq_true (by omega)
  have f8 : decide (F.chars[0].tag < 0) = false := decide_eq_false (by omega)
  have f9 : decide ((F.chars[F.chars.length - 1]'(by omega)).tag < 0) = true := decide_eq_true (by omega)
  have q0 : 0 ≤ F.first := by omega
  have q1 : F.first ≤ 255 := by omega
  obtain ⟨A0, n0, A1, n1, A2, n2, A3, n3, A4, n4⟩ := a
  obtain ⟨b, o, hA, hb, hc⟩ := _hF.m h5
  obtain rfl : A0 = some ⟨b, o, none⟩ := hA
  obtain ⟨_, _, _, _, c4, _⟩ := hc 0 h5
  rw [Nat.zero_mul, Nat.add_zero] at c4
  obtain ⟨_, _, _, _, z4, _⟩ := hc (F.chars.length - 1) (by omega)
  generalize F.chars[0].tag = t0 at *
  generalize (F.chars[F.chars.length - 1]'(by omega)).tag = t1 at *
  obtain ⟨l, hl⟩ : ∃ l, F.chars.length - 1 = l := ⟨_, rfl⟩
  rw [hl] at z4
  have hix : ((F.chars.length : Int) - 1) = (l : Int) := by omega
  have hl2 : l < F.chars.length := by omega
  have hl3 : l ≤ 255 := by omega
  clear hl hc
  have p5 := h5
  clear h0 h1 h2 h3 h4 h6 h7
  go_enter Tryz.func41, Tryz.ntmps41
  go_wp2
  go_ret
  exact ⟨rfl, walloc _ _⟩


set_option maxHeartbeats 1000000 in
theorem shape_l00 (F : Fnt) (a : FAddr) (w : World) (_hF : FontAt w F a w.heap.size) (h0 : ¬ F.design < 1048576) (h1 : ¬ 2147483647 < F.design) (h2 : ¬ F.first < 0) (h3 : ¬ 255 < F.first) (h4 : ¬ 256 - F.first < (F.chars.length : Int)) (h5 : F.chars.length = 0) (h6 : F.first = 0) (h7 : 32510 < F.steps.length) :
    Calls Tryz.prog 41 #[fontV F a] w fun e w' => e = .returned (.bool false) ∧ Kept w w' := by
  have f0 : decide (F.design < 1048576) = false := decide_eq_false (by omega)
  have f1 : decide (2147483647 < F.design) = false := decide_eq_false (by omega)
  have f2 : decide (F.first < 0) = false := decide_eq_false (by omega)
  have f3 : decide (255 < F.first) = false := decide_eq_false (by omega)
  have f4 : decide (256 - F.first < (F.chars.length : Int)) = false := decide_eq_false (by omega)
  have f5 : (F.first != 0) = false := by simp [*]
  have f6 : ((F.chars.length : Int) == 0) = true := by rw [beq_iff_eq]; omega
  have f7 : decide (0 < F.chars.length) = false := decide_eq_false (by omega)
  have f8 : decide (32510 < F.steps.length) = true := decide_eq_true (by omega)
  have f9 : decide ((32510 : Int) < (F.steps.length : Int)) = true := decide_eq_true (by omega)
  have q0 : 0 ≤ F.first := by omega
  have q1 : F.first ≤ 255 := by omega
  obtain ⟨A0, n0, A1, n1, A2, n2, A3, n3, A4, n4⟩ := a
  clear h0 h1 h2 h3 h4 h5 h6 h7
  go_enter Tryz.func41, Tryz.ntmps41
  go_wp2
  go_ret
  exact ⟨rfl, walloc _ _⟩


set_option maxHeartbeats 1000000 in
theorem shape_l01 (F : Fnt) (a : FAddr) (w : World) (_hF : FontAt w F a w.heap.size) (h0 : ¬ F.design < 1048576) (h1 : ¬ 2147483647 < F.design) (h2 : ¬ F.first < 0) (h3 : ¬ 255 < F.first) (h4 : ¬ 256 - F.first < (F.chars.length : Int)) (h5 : F.chars.length = 0) (h6 : F.first = 0) (h7 : ¬ 32510 < F.steps.length) (h8 : 32768 < F.kerns.length) :
    Calls Tryz.prog 41 #[fontV F a] w fun e w' => e = .returned (.bool false) ∧ Kept w w' := by
  have f0 : decide (F.design < 1048576) = false := decide_eq_false (by omega)
  have f1 : decide (2147483647 < F.design) = false := decide_eq_false (by omega)
  have f2 : decide (F.first < 0) = false := decide_eq_false (by omega)
  have f3 : decide (255 < F.first) = false := decide_eq_false (by omega)
  have f4 : decide (256 - F.first < (F.chars.length : Int)) = false := decide_eq_false (by omega)
  have f5 : (F.first != 0) = false := by simp [*]
  have f6 : ((F.chars.length : Int) == 0) = true := by rw [beq_iff_eq]; omega
  have f7 : decide (0 < F.chars.length) = false := decide_eq_false (by omega)
  have f8 : decide (32510 < F.steps.length) = false := decide_eq_false (by omega)
  have f9 : decide ((32510 : Int) < (F.steps.length : Int)) = false := decide_eq_false (by omega)
  have f10 : decide (32768 < F.kerns.length) = true := decide_eq_true (by omega)
  have f11 : decide ((32768 : Int) < (F.kerns.length : Int)) = true := decide_eq_true (by omega)
  have q0 : 0 ≤ F.first := by omega
  have q1 : F.first ≤ 255 := by omega
  obtain ⟨A0, n0, A1, n1, A2, n2, A3, n3, A4, n4⟩ := a
  clear h0 h1 h2 h3 h4 h5 h6 h7 h8
  go_enter Tryz.func41, Tryz.ntmps41
  go_wp2
  go_ret
  exact ⟨rfl, walloc _ _⟩


set_option maxHeartbeats 1000000 in
theorem shape_l02 (F : Fnt) (a : FAddr) (w : World) (_hF : FontAt w F a w.heap.size) (h0 : ¬ F.design < 1048576) (h1 : ¬ 2147483647 < F.design) (h2 : ¬ F.first < 0) (h3 : ¬ 255 < F.first) (h4 : ¬ 256 - F.first < (F.chars.length : Int)) (h5 : F.chars.length = 0) (h6 : F.first = 0) (h7 : ¬ 32510 < F.steps.length) (h8 : ¬ 32768 < F.kerns.length) (h9 : 256 < F.pieces.length) :
    Calls Tryz.prog 41 #[fontV F a] w fun e w' => e = .returned (.bool false) ∧ Kept w w' := by
  have f0 : decide (F.design < 1048576) = false := decide_eq_false (by omega)
  have f1 : decide (2147483647 < F.design) = false := decide_eq_false (by omega)
  have f2 : decide (F.first < 0) = false := decide_eq_false (by omega)
  have f3 : decide (255 < F.first) = false := decide_eq_false (by omega)
  have f4 : decide (256 - F.first < (F.chars.length : Int)) = false := decide_eq_false (by omega)
  have f5 : (F.first != 0) = false := by simp [*]
  have f6 : ((F.chars.length : Int) == 0) = true := by rw [beq_iff_eq]; omega
  have f7 : decide (0 < F.chars.length) = false := decide_eq_false (by omega)
  have f8 : decide (32510 < F.steps.length) = false := decide_eq_false (by omega)
  have f9 : decide ((32510 : Int) < (F.steps.length : Int)) = false := decide_eq_false (by omega)
  have f10 : decide (32768 < F.kerns.length) = false := decide_eq_false (by omega)
  have f11 : decide ((32768 : Int) < (F.kerns.length : Int)) = false := decide_eq_false (by omega)
  have f12 : decide (256 < F.pieces.length) = true := decide_eq_true (by omega)
  have f13 : decide ((256 : Int) < (F.pieces.length : Int)) = true := decide_eq_true (by omega)
  have q0 : 0 ≤ F.first := by omega
  have q1 : F.first ≤ 255 := by omega
  obtain ⟨A0, n0, A1, n1, A2, n2, A3, n3, A4, n4⟩ := a
  clear h0 h1 h2 h3 h4 h5 h6 h7 h8 h9
  go_enter Tryz.func41, Tryz.ntmps41
  go_wp2
  go_ret
  exact ⟨rfl, walloc _ _⟩


set_option maxHeartbeats 1000000 in
theorem shape_l03 (F : Fnt) (a : FAddr) (w : World) (_hF : FontAt w F a w.heap.size) (h0 : ¬ F.design < 1048576) (h1 : ¬ 2147483647 < F.design) (h2 : ¬ F.first < 0) (h3 : ¬ 255 < F.first) (h4 : ¬ 256 - F.first < (F.chars.length : Int)) (h5 : F.chars.length = 0) (h6 : F.first = 0) (h7 : ¬ 32510 < F.steps.length) (h8 : ¬ 32768 < F.kerns.length) (h9 : ¬ 256 < F.pieces.length) (h10 : 255 < F.params.length) :
    Calls Tryz.prog 41 #[fontV F a] w fun e w' => e = .returned (.bool false) ∧ Kept w w' := by
  have f0 : decide (F.design < 1048576) = false := decide_eq_false (by omega)
  have f1 : decide (2147483647 < F.design) = false := decide_eq_false (by omega)
  have f2 : decide (F.first < 0) = false := decide_eq_false (by omega)
  have f3 : decide (255 < F.first) = false := decide_eq_false (by omega)
  have f4 : decide (256 - F.first < (F.chars.length : Int)) = false := decide_eq_false (by omega)
  have f5 : (F.first != 0) = false := by simp [*]
  have f6 : ((F.chars.length : Int) == 0) = true := by rw [beq_iff_eq]; omega
  have f7 : decide (0 < F.chars.length) = false := decide_eq_false (by omega)
  have f8 : decide (32510 < F.steps.length) = false := decide_eq_false (by omega)
  have f9 : decide ((32510 : Int) < (F.steps.length : Int)) = false := decide_eq_false (by omega)
  have f10 : decide (32768 < F.kerns.length) = false := decide_eq_false (by omega)
  have f11 : decide ((32768 : Int) < (F.kerns.length : Int)) = false := decide_eq_false (by omega)
  have f12 : decide (256 < F.pieces.length) = false := decide_eq_false (by omega)
  have f13 : decide ((256 : Int) < (F.pieces.length : Int)) = false := decide_eq_false (by omega)
  have f14 : decide (255 < F.params.length) = true := decide_eq_true (by omega)
  have f15 : decide ((255 : Int) < (F.params.length : Int)) = true := decide_eq_true (by omega)
  have q0 : 0 ≤ F.first := by omega
  have q1 : F.first ≤ 255 := by omega
  obtain ⟨A0, n0, A1, n1, A2, n2, A3, n3, A4, n4⟩ := a
  clear h0 h1 h2 h3 h4 h5 h6 h7 h8 h9 h10
  go_enter Tryz.func41, Tryz.ntmps41
  go_wp2
  go_ret
  exact ⟨rfl, walloc _ _⟩


set_option maxRecDepth 100000 in
set_option maxHeartbeats 4000000 in
theorem shape_g0 (F : Fnt) (a : FAddr) (w : World) (_hF : FontAt w F a w.heap.size) (h0 : ¬ F.design < 1048576) (h1 : ¬ 2147483647 < F.design) (h2 : ¬ F.first < 0) (h3 : ¬ 255 < F.first) (h4 : ¬ 256 - F.first < (F.chars.length : Int)) (h5 : F.chars.length = 0) (h6 : F.first = 0) (h7 : ¬ 32510 < F.steps.length) (h8 : ¬ 32768 < F.kerns.length) (h9 : ¬ 256 < F.pieces.length) (h10 : ¬ 255 < F.params.length) :
    Calls Tryz.prog 41 #[fontV F a] w fun e w' => e = .returned (.bool (kernsB F && parsB F)) ∧ Kept w w' := by
  have HK := Lib.hid _hF.k
  have HP := Lib.hid _hF.q
  have hlk : F.kerns.length ≤ 32768 := by omega
  have hlp : F.params.length ≤ 255 := by omega
  have f0 : decide (F.design < 1048576) = false := decide_eq_false (by omega)
  have f1 : decide (2147483647 < F.design) = false := decide_eq_false (by omega)
  have f2 : decide (F.first < 0) = false := decide_eq_false (by omega)
  have f3 : decide (255 < F.first) = false := decide_eq_false (by omega)
  have f4 : decide (256 - F.first < (F.chars.length : Int)) = false := decide_eq_false (by omega)
  have f5 : (F.first != 0) = false := by simp [*]
  have f6 : ((F.chars.length : Int) == 0) = true := by rw [beq_iff_eq]; omega
  have f7 : decide (0 < F.chars.length) = false := decide_eq_false (by omega)
  have f8 : decide (32510 < F.steps.length) = false := decide_eq_false (by omega)
  have f9 : decide ((32510 : Int) < (F.steps.length : Int)) = false := decide_eq_false (by omega)
  have f10 : decide (32768 < F.kerns.length) = false := decide_eq_false (by omega)
  have f11 : decide ((32768 : Int) < (F.kerns.length : Int)) = false := decide_eq_false (by omega)
  have f12 : decide (256 < F.pieces.length) = false := decide_eq_false (by omega)
  have f13 : decide ((256 : Int) < (F.pieces.length : Int)) = false := decide_eq_false (by omega)
  have f14 : decide (255 < F.params.length) = false := decide_eq_false (by omega)
  have f15 : decide ((255 : Int) < (F.params.length : Int)) = false := decide_eq_false (by omega)
  have q0 : 0 ≤ F.first := by omega
  have q1 : F.first ≤ 255 := by omega
  obtain ⟨A0, n0, A1, n1, A2, n2, A3, n3, A4, n4⟩ := a
  clear h0 h1 h2 h3 h4 h5 h6 h7 h8 h9 h10 _hF
  go_enter Tryz.func41, Tryz.ntmps41
  go_wp2_with (fail)
  go_loop [4] (fun s4 => ∃ k : Nat, k ≤ F.kerns.length ∧ s4 = .int .i64 k ∧ Hid (∀ j, ∀ h : j < F.kerns.length, j < k → fixB F.kerns[j] = true)) (fun s4 => F.kerns.length - (intOf s4).toNat)
  case atStart => exact ⟨0, by omega, rfl, Lib.hid (fun j _ h => by omega)⟩
  case round =>
    obtain ⟨k, hk, rfl, hall⟩ := hrel
    by_cases hlt : k < F.kerns.length
    · obtain ⟨bk, ok, hA, hbk, hck⟩ := HK.out (by omega)
      obtain rfl : A2 = some ⟨bk, ok, none⟩ := hA
      have ck := hck k hlt
      clear hck
      cases hfx : fixB F.kerns[k]
      · have HE : Hid ((kernsB F && parsB F) = false) := Lib.hid (by rw [kerns_no hlt hfx]; rfl)
        have hf := fun w => Lib.hid (rfix_no _ hfx w)
        clear hfx
        generalize F.kerns[k] = z at *
        go_wp2_with (fail)
        refine (hf _).out.mono ?_
        rintro e w' ⟨rfl, rfl⟩
        go_wp2_with (fail)
        go_ret
        exact ⟨ret_bool HE.out.symm, walloc _ _⟩
      · have HN : Hid (∀ j, ∀ h : j < F.kerns.length, j < k + 1 → fixB F.kerns[j] = true) := Lib.hid (fun j h hj => by
          rcases Nat.lt_or_ge j k with h' | h'
          · exact hall.out j h h'
          · obtain rfl : j = k := by omega
            exact hfx)
        have hf := fun w => Lib.hid (rfix_yes _ hfx w)
        clear hfx
        generalize F.kerns[k] = z at *
        go_wp2_with (fail)
        refine (hf _).out.mono ?_
        rintro e w' ⟨rfl, rfl⟩
        go_wp2_with (fail)
        go_round
        case rel => exact ⟨k + 1, by omega, by go_num, HN⟩
        case measure => simp [intOf]; omega
    · have HKB : Hid (kernsB F = true) := Lib.hid (kerns_yes (fun j h => hall.out j h (by omega)))
      clear hall HK
      go_wp2_with (fail)
      go_loop [5] (fun s5 => ∃ k : Nat, k ≤ F.params.length ∧ s5 = .int .i64 k ∧ Hid (∀ j, ∀ h : j < F.params.length, j < k → parB j F.params[j] = true)) (fun s5 => F.params.length - (intOf s5).toNat)
      case atStart => exact ⟨0, by omega, rfl, Lib.hid (fun j _ h => by omega)⟩
      case round =>
        obtain ⟨m, hm, rfl, hall⟩ := hrel
        by_cases hlt2 : m < F.params.length
        · obtain ⟨bp, op, hA, hbp, hcp⟩ := HP.out (by omega)
          obtain rfl : A4 = some ⟨bp, op, none⟩ := hA
          have cp := hcp m hlt2
          clear hcp
          have HN : parB m F.params[m] = true → Hid (∀ j, ∀ h : j < F.params.length, j < m + 1 → parB j F.params[j] = true) := fun hp => Lib.hid (fun j h hj => by
            rcases Nat.lt_or_ge j m with h' | h'
            · exact hall.out j h h'
            · obtain rfl : j = m := by omega
              exact hp)
          have HX : parB m F.params[m] = false → Hid ((kernsB F && parsB F) = false) := fun hp => Lib.hid (by rw [pars_no hlt2 hp, Bool.and_false])
          have hlo := Lib.hid hlt2
          generalize F.params[m] = z at *
          by_cases hm0 : m = 0
          · have hmd : decide (0 < m) = false := decide_eq_false (by omega)
            by_cases z0 : z < -2147483648
            · have HE := HX (by simp [parB, hm0]; omega)
              have g0 : decide (z < -2147483648) = true := decide_eq_true z0
              clear HX HN hm0
              go_wp2_with (fail)
              go_ret
              exact ⟨ret_bool HE.out.symm, walloc _ _⟩
            · have g0 : decide (z < -2147483648) = false := decide_eq_false z0
              by_cases z1 : 2147483648 ≤ z
              · have HE := HX (by simp [parB, hm0]; omega)
                have g1 : decide (2147483648 ≤ z) = true := decide_eq_true z1
                clear HX HN hm0
                go_wp2_with (fail)
                go_ret
                exact ⟨ret_bool HE.out.symm, walloc _ _⟩
              · have HE := HN (by simp [parB, hm0]; omega)
                have g1 : decide (2147483648 ≤ z) = false := decide_eq_false z1
                clear HX HN hm0
                go_wp2_with (fail)
                go_round
                case rel => exact ⟨m + 1, by omega, by go_num, HE⟩
                case measure => simp [intOf]; omega
          · have hmp : 0 < m := by omega
            have hmd : decide (0 < m) = true := decide_eq_true hmp
            cases hfx : fixB z
            · have HE := HX (by simp [parB, hfx, hm0])
              have hf := fun w => Lib.hid (rfix_no z hfx w)
              clear HX HN hfx
              go_wp2_with (fail)
              refine (hf _).out.mono ?_
              rintro e w' ⟨rfl, rfl⟩
              go_wp2_with (fail)
              go_ret
              exact ⟨ret_bool HE.out.symm, walloc _ _⟩
            · obtain ⟨x0, x1⟩ := fix_yes' hfx
              have HE := HN (by simp [parB, hfx]; omega)
              have hf := fun w => Lib.hid (rfix_yes z hfx w)
              have g0 : decide (z < -2147483648) = false := decide_eq_false (by omega)
              have g1 : decide (2147483648 ≤ z) = false := decide_eq_false (by omega)
              clear HX HN hfx
              go_wp2_with (fail)
              refine (hf _).out.mono ?_
              rintro e w' ⟨rfl, rfl⟩
              go_wp2_with (fail)
              go_round
              case rel => exact ⟨m + 1, by omega, by go_num, HE⟩
              case measure => simp [intOf]; omega
        · have HE : Hid ((kernsB F && parsB F) = true) := Lib.hid (by rw [HKB.out, pars_yes (fun j h => hall.out j h (by omega))]; rfl)
          go_wp2_with (fail)
          go_ret
          exact ⟨ret_bool HE.out.symm, walloc _ _⟩


set_option maxHeartbeats 1000000 in
theorem shape_l10 (F : Fnt) (a : FAddr) (w : World) (_hF : FontAt w F a w.heap.size) (h0 : ¬ F.design < 1048576) (h1 : ¬ 2147483647 < F.design) (h2 : ¬ F.first < 0) (h3 : ¬ 255 < F.first) (h4 : ¬ 256 - F.first < (F.chars.length : Int)) (h5 : 0 < F.chars.length) (h6 : 0 ≤ F.chars[0].tag) (h7 : 0 ≤ (F.chars[F.chars.length - 1]'(by omega)).tag) (h8 : 32510 < F.steps.length) :
    Calls Tryz.prog 41 #[fontV F a] w fun e w' => e = .returned (.bool false) ∧ Kept w w' := by
  have f0 : decide (F.design < 1048576) = false := decide_eq_false (by omega)
  have f1 : decide (2147483647 < F.design) = false := decide_eq_false (by omega)
  have f2 : decide (F.first < 0) = false := decide_eq_false (by omega)
  have f3 : decide (255 < F.first) = false := decide_eq_false (by omega)
  have f4 : decide (256 - F.first < (F.chars.length : Int)) = false := decide_eq_false (by omega)
  have f5 : ((F.chars.length : Int) == 0) = false := by rw [beq_eq_false_iff_ne]; omega
  have f6 : decide (0 < F.chars.length) = true := decide_eq_true (by omega)
  have f7 : decide (0 < (F.chars.length : Int)) = true := decide_eq_true (by omega)
  have f8 : decide (F.chars[0].tag < 0) = false := decide_eq_false (by omega)
  have f9 : decide ((F.chars[F.chars.length - 1]'(by omega)).tag < 0) = false := decide_eq_false (by omega)
  have f10 : decide (32510 < F.steps.length) = true := decide_eq_true (by omega)
  have f11 : decide ((32510 : Int) < (F.steps.length : Int)) = true := decide_eq_true (by omega)
  have q0 : 0 ≤ F.first := by omega
  have q1 : F.first ≤ 255 := by omega
  obtain ⟨A0, n0, A1, n1, A2, n2, A3, n3, A4, n4⟩ := a
  obtain ⟨b, o, hA, hb, hc⟩ := _hF.m h5
  obtain rfl : A0 = some ⟨b, o, none⟩ := hA
  obtain ⟨_, _, _, _, c4, _⟩ := hc 0 h5
  rw [Nat.zero_mul, Nat.add_zero] at c4
  obtain ⟨_, _, _, _, z4, _⟩ := hc (F.chars.length - 1) (by omega)
  generalize F.chars[0].tag = t0 at *
  generalize (F.chars[F.chars.length - 1]'(by omega)).tag = t1 at *
  obtain ⟨l, hl⟩ : ∃ l, F.chars.length - 1 = l := ⟨_, rfl⟩
  rw [hl] at z4
  have hix : ((F.chars.length : Int) - 1) = (l : Int) := by omega
  have hl2 : l < F.chars.length := by omega
  have hl3 : l ≤ 255 := by omega
  clear hl hc
  have p5 := h5
  clear h0 h1 h2 h3 h4 h6 h7 h8
  go_enter Tryz.func41, Tryz.ntmps41
  go_wp2
  go_ret
  exact ⟨rfl, walloc _ _⟩


set_option maxHeartbeats 1000000 in
theorem shape_l11 (F : Fnt) (a : FAddr) (w : World) (_hF : FontAt w F a w.heap.size) (h0 : ¬ F.design < 1048576) (h1 : ¬ 2147483647 < F.design) (h2 : ¬ F.first < 0) (h3 : ¬ 255 < F.first) (h4 : ¬ 256 - F.first < (F.chars.length : Int)) (h5 : 0 < F.chars.length) (h6 : 0 ≤ F.chars[0].tag) (h7 : 0 ≤ (F.chars[F.chars.length - 1]'(by omega)).tag) (h8 : ¬ 32510 < F.steps.length) (h9 : 32768 < F.kerns.length) :
    Calls Tryz.prog 41 #[fontV F a] w fun e w' => e = .returned (.bool false) ∧ Kept w w' := by
  have f0 : decide (F.design < 1048576) = false := decide_eq_false (by omega)
  have f1 : decide (2147483647 < F.design) = false := decide_eq_false (by omega)
  have f2 : decide (F.first < 0) = false := decide_eq_false (by omega)
  have f3 : decide (255 < F.first) = false := decide_eq_false (by omega)
  have f4 : decide (256 - F.first < (F.chars.length : Int)) = false := decide_eq_false (by omega)
  have f5 : ((F.chars.length : Int) == 0) = false := by rw [beq_eq_false_iff_ne]; omega
  have f6 : decide (0 < F.chars.length) = true := decide_eq_true (by omega)
  have f7 : decide (0 < (F.chars.length : Int)) = true := decide_eq_true (by omega)
  have f8 : decide (F.chars[0].tag < 0) = false := decide_eq_false (by omega)
  have f9 : decide ((F.chars[F.chars.length - 1]'(by omega)).tag < 0) = false := decide_eq_false (by omega)
  have f10 : decide (32510 < F.steps.length) = false := decide_eq_false (by omega)
  have f11 : decide ((32510 : Int) < (F.steps.length : Int)) = false := decide_eq_false (by omega)
  have f12 : decide (32768 < F.kerns.length) = true := decide_eq_true (by omega)
  have f13 : decide ((32768 : Int) < (F.kerns.length : Int)) = true := decide_eq_true (by omega)
  have q0 : 0 ≤ F.first := by omega
  have q1 : F.first ≤ 255 := by omega
  obtain ⟨A0, n0, A1, n1, A2, n2, A3, n3, A4, n4⟩ := a
  obtain ⟨b, o, hA, hb, hc⟩ := _hF.m h5
  obtain rfl : A0 = some ⟨b, o, none⟩ := hA
  obtain ⟨_, _, _, _, c4, _⟩ := hc 0 h5
  rw [Nat.zero_mul, Nat.add_zero] at c4
  obtain ⟨_, _, _, _, z4, _⟩ := hc (F.chars.length - 1) (by omega)
  generalize F.chars[0].tag = t0 at *
  generalize (F.chars[F.chars.length - 1]'(by omega)).tag = t1 at *
  obtain ⟨l, hl⟩ : ∃ l, F.chars.length - 1 = l := ⟨_, rfl⟩
  rw [hl] at z4
  have hix : ((F.chars.length : Int) - 1) = (l : Int) := by omega
  have hl2 : l < F.chars.length := by omega
  have hl3 : l ≤ 255 := by omega
  clear hl hc
  have p5 := h5
  clear h0 h1 h2 h3 h4 h6 h7 h8 h9
  go_enter Tryz.func41, Tryz.ntmps41
  go_wp2
  go_ret
  exact ⟨rfl, walloc _ _⟩


set_option maxHeartbeats 1000000 in
theorem shape_l12 (F : Fnt) (a : FAddr) (w : World) (_hF : FontAt w F a w.heap.size) (h0 : ¬ F.design < 1048576) (h1 : ¬ 2147483647 < F.design) (h2 : ¬ F.first < 0) (h3 : ¬ 255 < F.first) (h4 : ¬ 256 - F.first < (F.chars.length : Int)) (h5 : 0 < F.chars.length) (h6 : 0 ≤ F.chars[0].tag) (h7 : 0 ≤ (F.chars[F.chars.length - 1]'(by omega)).tag) (h8 : ¬ 32510 < F.steps.length) (h9 : ¬ 32768 < F.kerns.length) (h10 : 256 < F.pieces.length) :
    Calls Tryz.prog 41 #[fontV F a] w fun e w' => e = .returned (.bool false) ∧ Kept w w' := by
  have f0 : decide (F.design < 1048576) = false := decide_eq_false (by omega)
  have f1 : decide (2147483647 < F.design) = false := decide_eq_false (by omega)
  have f2 : decide (F.first < 0) = false := decide_eq_false (by omega)
  have f3 : decide (255 < F.first) = false := decide_eq_false (by omega)
  have f4 : decide (256 - F.first < (F.chars.length : Int)) = false := decide_eq_false (by omega)
  have f5 : ((F.chars.length : Int) == 0) = false := by rw [beq_eq_false_iff_ne]; omega
  have f6 : decide (0 < F.chars.length) = true := decide_eq_true (by omega)
  have f7 : decide (0 < (F.chars.length : Int)) = true := decide_eq_true (by omega)
  have f8 : decide (F.chars[0].tag < 0) = false := decide_eq_false (by omega)
  have f9 : decide ((F.chars[F.chars.length - 1]'(by omega)).tag < 0) = false := decide_eq_false (by omega)
  have f10 : decide (32510 < F.steps.length) = false := decide_eq_false (by omega)
  have f11 : decide ((32510 : Int) < (F.steps.length : Int)) = false := decide_eq_false (by omega)
  have f12 : decide (32768 < F.kerns.length) = false := decide_eq_false (by omega)
  have f13 : decide ((32768 : Int) < (F.kerns.length : Int)) = false := decide_eq_false (by omega)
  have f14 : decide (256 < F.pieces.length) = true := decide_eq_true (by omega)
  have f15 : decide ((256 : Int) < (F.pieces.length : Int)) = true := decide_eq_true (by omega)
  have q0 : 0 ≤ F.first := by omega
  have q1 : F.first ≤ 255 := by omega
  obtain ⟨A0, n0, A1, n1, A2, n2, A3, n3, A4, n4⟩ := a
  obtain ⟨b, o, hA, hb, hc⟩ := _hF.m h5
  obtain rfl : A0 = some ⟨b, o, none⟩ := hA
  obtain ⟨_, _, _, _, c4, _⟩ := hc 0 h5
  rw [Nat.zero_mul, Nat.add_zero] at c4
  obtain ⟨_, _, _, _, z4, _⟩ := hc (F.chars.length - 1) (by omega)
  generalize F.chars[0].tag = t0 at *
  generalize (F.chars[F.chars.length - 1]'(by omega)).tag = t1 at *
  obtain ⟨l, hl⟩ : ∃ l, F.chars.length - 1 = l := ⟨_, rfl⟩
  rw [hl] at z4
  have hix : ((F.chars.length : Int) - 1) = (l : Int) := by omega
  have hl2 : l < F.chars.length := by omega
  have hl3 : l ≤ 255 := by omega
  clear hl hc
  have p5 := h5
  clear h0 h1 h2 h3 h4 h6 h7 h8 h9 h10
  go_enter Tryz.func41, Tryz.ntmps41
  go_wp2
  go_ret
  exact ⟨rfl, walloc _ _⟩


set_option maxHeartbeats 1000000 in
theorem shape_l13 (F : Fnt) (a : FAddr) (w : World) (_hF : FontAt w F a w.heap.size) (h0 : ¬ F.design < 1048576) (h1 : ¬ 2147483647 < F.design) (h2 : ¬ F.first < 0) (h3 : ¬ 255 < F.first) (h4 : ¬ 256 - F.first < (F.chars.length : Int)) (h5 : 0 < F.chars.length) (h6 : 0 ≤ F.chars[0].tag) (h7 : 0 ≤ (F.chars[F.chars.length - 1]'(by omega)).tag) (h8 : ¬ 32510 < F.steps.length) (h9 : ¬ 32768 < F.kerns.length) (h10 : ¬ 256 < F.pieces.length) (h11 : 255 < F.params.length) :
    Calls Tryz.prog 41 #[fontV F a] w fun e w' => e = .returned (.bool false) ∧ Kept w w' := by
  have f0 : decide (F.design < 1048576) = false := decide_eq_false (by omega)
  have f1 : decide (2147483647 < F.design) = false := decide_eq_false (by omega)
  have f2 : decide (F.first < 0) = false := decide_eq_false (by omega)
  have f3 : decide (255 < F.first) = false := decide_eq_false (by omega)
  have f4 : decide (256 - F.first < (F.chars.length : Int)) = false := decide_eq_false (by omega)
  have f5 : ((F.chars.length : Int) == 0) = false := by rw [beq_eq_false_iff_ne]; omega
  have f6 : decide (0 < F.chars.length) = true := decide_eq_true (by omega)
  have f7 : decide (0 < (F.chars.length : Int)) = true := decide_eq_true (by omega)
  have f8 : decide (F.chars[0].tag < 0) = false := decide_eq_false (by omega)
  have f9 : decide ((F.chars[F.chars.length - 1]'(by omega)).tag < 0) = false := decide_eq_false (by omega)
  have f10 : decide (32510 < F.steps.length) = false := decide_eq_false (by omega)
  have f11 : decide ((32510 : Int) < (F.steps.length : Int)) = false := decide_eq_false (by omega)
  have f12 : decide (32768 < F.kerns.length) = false := decide_eq_false (by omega)
  have f13 : decide ((32768 : Int) < (F.kerns.length : Int)) = false := decide_eq_false (by omega)
  have f14 : decide (256 < F.pieces.length) = false := decide_eq_false (by omega)
  have f15 : decide ((256 : Int) < (F.pieces.length : Int)) = false := decide_eq_false (by omega)
  have f16 : decide (255 < F.params.length) = true := decide_eq_true (by omega)
  have f17 : decide ((255 : Int) < (F.params.length : Int)) = true := decide_eq_true (by omega)
  have q0 : 0 ≤ F.first := by omega
  have q1 : F.first ≤ 255 := by omega
  obtain ⟨A0, n0, A1, n1, A2, n2, A3, n3, A4, n4⟩ := a
  obtain ⟨b, o, hA, hb, hc⟩ := _hF.m h5
  obtain rfl : A0 = some ⟨b, o, none⟩ := hA
  obtain ⟨_, _, _, _, c4, _⟩ := hc 0 h5
  rw [Nat.zero_mul, Nat.add_zero] at c4
  obtain ⟨_, _, _, _, z4, _⟩ := hc (F.chars.length - 1) (by omega)
  generalize F.chars[0].tag = t0 at *
  generalize (F.chars[F.chars.length - 1]'(by omega)).tag = t1 at *
  obtain ⟨l, hl⟩ : ∃ l, F.chars.length - 1 = l := ⟨_, rfl⟩
  rw [hl] at z4
  have hix : ((F.chars.length : Int) - 1) = (l : Int) := by omega
  have hl2 : l < F.chars.length := by omega
  have hl3 : l ≤ 255 := by omega
  clear hl hc
  have p5 := h5
  clear h0 h1 h2 h3 h4 h6 h7 h8 h9 h10 h11
  go_enter Tryz.func41, Tryz.ntmps41
  go_wp2
  go_ret
  exact ⟨rfl, walloc _ _⟩


set_option maxRecDepth 100000 in
set_option maxHeartbeats 4000000 in
theorem shape_g1 (F : Fnt) (a : FAddr) (w : World) (_hF : FontAt w F a w.heap.size) (h0 : ¬ F.design < 1048576) (h1 : ¬ 2147483647 < F.design) (h2 : ¬ F.first < 0) (h3 : ¬ 255 < F.first) (h4 : ¬ 256 - F.first < (F.chars.length : Int)) (h5 : 0 < F.chars.length) (h6 : 0 ≤ F.chars[0].tag) (h7 : 0 ≤ (F.chars[F.chars.length - 1]'(by omega)).tag) (h8 : ¬ 32510 < F.steps.length) (h9 : ¬ 32768 < F.kerns.length) (h10 : ¬ 256 < F.pieces.length) (h11 : ¬ 255 < F.params.length) :
    Calls Tryz.prog 41 #[fontV F a] w fun e w' => e = .returned (.bool (kernsB F && parsB F)) ∧ Kept w w' := by
  have HK := Lib.hid _hF.k
  have HP := Lib.hid _hF.q
  have hlk : F.kerns.length ≤ 32768 := by omega
  have hlp : F.params.length ≤ 255 := by omega
  have f0 : decide (F.design < 1048576) = false := decide_eq_false (by omega)
  have f1 : decide (2147483647 < F.design) = false := decide_eq_false (by omega)
  have f2 : decide (F.first < 0) = false := decide_eq_false (by omega)
  have f3 : decide (255 < F.first) = false := decide_eq_false (by omega)
  have f4 : decide (256 - F.first < (F.chars.length : Int)) = false := decide_eq_false (by omega)
  have f5 : ((F.chars.length : Int) == 0) = false := by rw [beq_eq_false_iff_ne]; omega
  have f6 : decide (0 < F.chars.length) = true := decide_eq_true (by omega)
  have f7 : decide (0 < (F.chars.length : Int)) = true := decide_eq_true (by omega)
  have f8 : decide (F.chars[0].tag < 0) = false := decide_eq_false (by omega)
  have f9 : decide ((F.chars[F.chars.length - 1]'(by omega)).tag < 0) = false := decide_eq_false (by omega)
  have f10 : decide (32510 < F.steps.length) = false := decide_eq_false (by omega)
  have f11 : decide ((32510 : Int) < (F.steps.length : Int)) = false := decide_eq_false (by omega)
  have f12 : decide (32768 < F.kerns.length) = false := decide_eq_false (by omega)
  have f13 : decide ((32768 : Int) < (F.kerns.length : Int)) = false := decide_eq_false (by omega)
  have f14 : decide (256 < F.pieces.length) = false := decide_eq_false (by omega)
  have f15 : decide ((256 : Int) < (F.pieces.length : Int)) = false := decide_eq_false (by omega)
  have f16 : decide (255 < F.params.length) = false := decide_eq_false (by omega)
  have f17 : decide ((255 : Int) < (F.params.length : Int)) = false := decide_eq_false (by omega)
  have q0 : 0 ≤ F.first := by omega
  have q1 : F.first ≤ 255 := by omega
  obtain ⟨A0, n0, A1, n1, A2, n2, A3, n3, A4, n4⟩ := a
  obtain ⟨b, o, hA, hb, hc⟩ := _hF.m h5
  obtain rfl : A0 = some ⟨b, o, none⟩ := hA
  obtain ⟨_, _, _, _, c4, _⟩ := hc 0 h5
  rw [Nat.zero_mul, Nat.add_zero] at c4
  obtain ⟨_, _, _, _, z4, _⟩ := hc (F.chars.length - 1) (by omega)
  generalize F.chars[0].tag = t0 at *
  generalize (F.chars[F.chars.length - 1]'(by omega)).tag = t1 at *
  obtain ⟨l, hl⟩ : ∃ l, F.chars.length - 1 = l := ⟨_, rfl⟩
  rw [hl] at z4
  have hix : ((F.chars.length : Int) - 1) = (l : Int) := by omega
  have hl2 : l < F.chars.length := by omega
  have hl3 : l ≤ 255 := by omega
  clear hl hc
  have p5 := h5
  clear h0 h1 h2 h3 h4 h6 h7 h8 h9 h10 h11 _hF
  go_enter Tryz.func41, Tryz.ntmps41
  go_wp2_with (fail)
  go_loop [4] (fun s4 => ∃ k : Nat, k ≤ F.kerns.length ∧ s4 = .int .i64 k ∧ Hid (∀ j, ∀ h : j < F.kerns.length, j < k → fixB F.kerns[j] = true)) (fun s4 => F.kerns.length - (intOf s4).toNat)
  case atStart => exact ⟨0, by omega, rfl, Lib.hid (fun j _ h => by omega)⟩
  case round =>
    obtain ⟨k, hk, rfl, hall⟩ := hrel
    by_cases hlt : k < F.kerns.length
    · obtain ⟨bk, ok, hA, hbk, hck⟩ := HK.out (by omega)
      obtain rfl : A2 = some ⟨bk, ok, none⟩ := hA
      have ck := hck k hlt
      clear hck
      cases hfx : fixB F.kerns[k]
      · have HE : Hid ((kernsB F && parsB F) = false) := Lib.hid (by rw [kerns_no hlt hfx]; rfl)
        have hf := fun w => Lib.hid (rfix_no _ hfx w)
        clear hfx
        generalize F.kerns[k] = z at *
        go_wp2_with (fail)
        refine (hf _).out.mono ?_
        rintro e w' ⟨rfl, rfl⟩
        go_wp2_with (fail)
        go_ret
        exact ⟨ret_bool HE.out.symm, walloc _ _⟩
      · have HN : Hid (∀ j, ∀ h : j < F.kerns.length, j < k + 1 → fixB F.kerns[j] = true) := Lib.hid (fun j h hj => by
          rcases Nat.lt_or_ge j k with h' | h'
          · exact hall.out j h h'
          · obtain rfl : j = k := by omega
            exact hfx)
        have hf := fun w => Lib.hid (rfix_yes _ hfx w)
        clear hfx
        generalize F.kerns[k] = z at *
        go_wp2_with (fail)
        refine (hf _).out.mono ?_
        rintro e w' ⟨rfl, rfl⟩
        go_wp2_with (fail)
        go_round
        case rel => exact ⟨k + 1, by omega, by go_num, HN⟩
        case measure => simp [intOf]; omega
    · have HKB : Hid (kernsB F = true) := Lib.hid (kerns_yes (fun j h => hall.out j h (by omega)))
      clear hall HK
      go_wp2_with (fail)
      go_loop [5] (fun s5 => ∃ k : Nat, k ≤ F.params.length ∧ s5 = .int .i64 k ∧ Hid (∀ j, ∀ h : j < F.params.length, j < k → parB j F.params[j] = true)) (fun s5 => F.params.length - (intOf s5).toNat)
      case atStart => exact ⟨0, by omega, rfl, Lib.hid (fun j _ h => by omega)⟩
      case round =>
        obtain ⟨m, hm, rfl, hall⟩ := hrel
        by_cases hlt2 : m < F.params.length
        · obtain ⟨bp, op, hA, hbp, hcp⟩ := HP.out (by omega)
          obtain rfl : A4 = some ⟨bp, op, none⟩ := hA
          have cp := hcp m hlt2
          clear hcp
          have HN : parB m F.params[m] = true → Hid (∀ j, ∀ h : j < F.params.length, j < m + 1 → parB j F.params[j] = true) := fun hp => Lib.hid (fun j h hj => by
            rcases Nat.lt_or_ge j m with h' | h'
            · exact hall.out j h h'
            · obtain rfl : j = m := by omega
              exact hp)
          have HX : parB m F.params[m] = false → Hid ((kernsB F && parsB F) = false) := fun hp => Lib.hid (by rw [pars_no hlt2 hp, Bool.and_false])
          have hlo := Lib.hid hlt2
          generalize F.params[m] = z at *
          by_cases hm0 : m = 0
          · have hmd : decide (0 < m) = false := decide_eq_false (by omega)
            by_cases z0 : z < -2147483648
            · have HE := HX (by simp [parB, hm0]; omega)
              have g0 : decide (z < -2147483648) = true := decide_eq_true z0
              clear HX HN hm0
              go_wp2_with (fail)
              go_ret
              exact ⟨ret_bool HE.out.symm, walloc _ _⟩
            · have g0 : decide (z < -2147483648) = false := decide_eq_false z0
              by_cases z1 : 2147483648 ≤ z
              · have HE := HX (by simp [parB, hm0]; omega)
                have g1 : decide (2147483648 ≤ z) = true := decide_eq_true z1
                clear HX HN hm0
                go_wp2_with (fail)
                go_ret
                exact ⟨ret_bool HE.out.symm, walloc _ _⟩
              · have HE := HN (by simp [parB, hm0]; omega)
                have g1 : decide (2147483648 ≤ z) = false := decide_eq_false z1
                clear HX HN hm0
                go_wp2_with (fail)
                go_round
                case rel => exact ⟨m + 1, by omega, by go_num, HE⟩
                case measure => simp [intOf]; omega
          · have hmp : 0 < m := by omega
            have hmd : decide (0 < m) = true := decide_eq_true hmp
            cases hfx : fixB z
            · have HE := HX (by simp [parB, hfx, hm0])
              have hf := fun w => Lib.hid (rfix_no z hfx w)
              clear HX HN hfx
              go_wp2_with (fail)
              refine (hf _).out.mono ?_
              rintro e w' ⟨rfl, rfl⟩
              go_wp2_with (fail)
              go_ret
              exact ⟨ret_bool HE.out.symm, walloc _ _⟩
            · obtain ⟨x0, x1⟩ := fix_yes' hfx
              have HE := HN (by simp [parB, hfx]; omega)
              have hf := fun w => Lib.hid (rfix_yes z hfx w)
              have g0 : decide (z < -2147483648) = false := decide_eq_false (by omega)
              have g1 : decide (2147483648 ≤ z) = false := decide_eq_false (by omega)
              clear HX HN hfx
              go_wp2_with (fail)
              refine (hf _).out.mono ?_
              rintro e w' ⟨rfl, rfl⟩
              go_wp2_with (fail)
              go_round
              case rel => exact ⟨m + 1, by omega, by go_num, HE⟩
              case measure => simp [intOf]; omega
        · have HE : Hid ((kernsB F && parsB F) = true) := Lib.hid (by rw [HKB.out, pars_yes (fun j h => hall.out j h (by omega))]; rfl)
          go_wp2_with (fail)
          go_ret
          exact ⟨ret_bool HE.out.symm, walloc _ _⟩

end Go.Proofs.YtdhidpbenhmfgaaGreat
