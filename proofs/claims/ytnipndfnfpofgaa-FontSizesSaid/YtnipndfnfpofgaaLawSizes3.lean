/- FontSizes' walk. -/
import Derived.Test.YtnipndfnfpofgaaKnow3
import Derived.Test.YtnipndfnfpofgaaCSize
namespace Go.Proofs.Ytnipndfnfpofgaa
open Go.RowKit

set_option maxRecDepth 100000 in
set_option maxHeartbeats 4000000 in
theorem fontSizes_walk (n : Int) (_w0 : (Lit.int .i64 n).wf = true) (x : Int) (_w1 : (Lit.int .i64 x).wf = true) (m : Int) (_w2 : (Lit.int .i64 m).wf = true) (w : World) :
    Calls Try.prog 4 #[.int .i64 n, .int .i64 x, .int .i64 m] w fun e w' => e = .returned (.bool true) ∧ Kept w w' := by
  clear _w0 _w1 _w2
  have t0 := Int.natAbs_tmod n 134217727
  have t1 : n.natAbs % (134217727 : Int).natAbs < 134217727 := Nat.mod_lt _ (by decide)
  have u0 := Int.natAbs_tmod x 16777216
  have u1 : x.natAbs % (16777216 : Int).natAbs < 16777216 := Nat.mod_lt _ (by decide)
  have v0 := Int.natAbs_tmod m 16777216
  have v1 : m.natAbs % (16777216 : Int).natAbs < 16777216 := Nat.mod_lt _ (by decide)
  have n1 : -134217727 < n.tmod 134217727 ∧ n.tmod 134217727 < 134217727 := by omega
  have x1 : -16777216 < x.tmod 16777216 ∧ x.tmod 16777216 < 16777216 := by omega
  have m1 : -16777216 < m.tmod 16777216 ∧ m.tmod 16777216 < 16777216 := by omega
  clear t0 t1 u0 u1 v0 v1
  have hk := fun w => Lib.hid (know3_any w)
  go_enter Try.func4, Try.ntmps4
  go_wp2_with (fail)
  obtain ⟨D, hD, D0, D1⟩ : ∃ D : Int, 1 + n.tmod 134217727 % 134217727 = D ∧ 1 ≤ D ∧ D < 134217728 := ⟨_, rfl, by omega, by omega⟩
  obtain ⟨X, hX, X0, X1⟩ : ∃ X : Int, (x.tmod 16777216 + 16777216) % 16777216 = X ∧ 0 ≤ X ∧ X < 16777216 := ⟨_, rfl, by omega, by omega⟩
  obtain ⟨Y, hY, Y0, Y1⟩ : ∃ Y : Int, min (x.tmod 16777216 % 16777216 + m.tmod 16777216 % 16777216) 16777215 = Y ∧ X ≤ Y ∧ Y < 16777216 := ⟨_, rfl, by omega, by omega⟩
  rw [hD, hX, hY]
  clear hD hX hY n1 x1 m1
  have size := fun (y : Int) w (h : -16777216 ≤ y) (h' : y < 16777216) => Lib.hid (cSize_yes D y w (decide_eq_true ⟨D0, D1⟩) (by unfold fixB; exact decide_eq_true ⟨h, h'⟩))
  have s0 := fun w => size 0 w (by omega) (by omega)
  have s1 := fun w => size X w (by omega) (by omega)
  have s2 := fun w => size Y w (by omega) (by omega)
  have s3 := fun w => size 1048576 w (by omega) (by omega)
  have s4 := fun w => size (X - 16777216) w (by omega) (by omega)
  have s5 := fun w => size (Y - 16777216) w (by omega) (by omega)
  rw [sizeV_zero] at s0
  have f0 := sizeV_pos D0 D1 X0
  have f1 := sizeV_mono D0 D1 Y0
  have f2 := sizeV_mono (x := X - 16777216) (y := Y - 16777216) D0 D1 (by omega)
  have f3 := sizeV_neg (x := Y - 16777216) D0 D1 (by omega)
  have f4 := sizeV_exact D0 D1 X0
  have f5 : D < 8388608 → sizeV D 1048576 = D := fun h => sizeV_one h
  have f6 := sizeV_bd (x := X) D0 D1 (by omega) (by omega)
  have f7 := sizeV_bd (x := Y) D0 D1 (by omega) (by omega)
  have f8 := sizeV_bd (x := X - 16777216) D0 D1 (by omega) (by omega)
  have f9 := sizeV_bd (x := Y - 16777216) D0 D1 (by omega) (by omega)
  have fA := sizeV_bd (x := 1048576) D0 D1 (by omega) (by omega)
  generalize sizeV D X = B at *
  generalize sizeV D Y = C at *
  generalize sizeV D (X - 16777216) = M at *
  generalize sizeV D (Y - 16777216) = N at *
  generalize sizeV D 1048576 = E at *
  have p0 : 0 ≤ X * D := Int.mul_nonneg X0 (by omega)
  have p1 : X * D ≤ 16777216 * 134217728 := Int.mul_le_mul (by omega) (by omega) (by omega) (by omega)
  have b0 : decide (B < 0) = false := decide_eq_false (by omega)
  have b1 : decide (C < B) = false := decide_eq_false (by omega)
  have b2 : decide (N < M) = false := decide_eq_false (by omega)
  have b3 : decide (0 < N) = false := decide_eq_false (by omega)
  have b4 : decide (X * D < B * 1048576) = false := decide_eq_false (by omega)
  clear f0 f1 f2 f3 f4 f8 f9 size
  refine (s0 _).out.mono ?_
  rintro e w1 ⟨rfl, k1⟩
  go_wp2_with (fail)
  refine (s1 _).out.mono ?_
  rintro e w2 ⟨rfl, k2⟩
  go_wp2_with (fail)
  refine (s2 _).out.mono ?_
  rintro e w3 ⟨rfl, k3⟩
  go_wp2_with (fail)
  refine (s3 _).out.mono ?_
  rintro e w4 ⟨rfl, k4⟩
  go_wp2_with (fail)
  refine (s4 _).out.mono ?_
  rintro e w5 ⟨rfl, k5⟩
  go_wp2_with (fail)
  refine (s5 _).out.mono ?_
  rintro e w6 ⟨rfl, k6⟩
  have KK := Lib.hid (((((k1.trans k2).trans k3).trans k4).trans k5).trans k6)
  clear s0 s1 s2 s3 s4 s5 k1 k2 k3 k4 k5 k6
  by_cases hs : D < 8388608
  · have d0 : decide (8388608 ≤ D) = false := decide_eq_false (by omega)
    have d1 : (E == D) = true := by simpa using f5 hs
    clear f5
    go_wp2_with (first | (go_at_call 14; refine (num3_any _ _).mono ?_; rintro e w' ⟨rfl, rfl⟩) | (go_at_call 17; refine (hk _).out.mono ?_; rintro e w7 ⟨rfl, k7⟩))
    go_ret
    exact ⟨ret_bool (by first | rfl | decide), KK.out.trans k7⟩
  · have d0 : decide (8388608 ≤ D) = true := decide_eq_true (by omega)
    clear f5
    go_wp2_with (first | (go_at_call 14; refine (num3_any _ _).mono ?_; rintro e w' ⟨rfl, rfl⟩) | (go_at_call 17; refine (hk _).out.mono ?_; rintro e w7 ⟨rfl, k7⟩))
    go_ret
    exact ⟨ret_bool (by first | rfl | decide), KK.out.trans k7⟩
end Go.Proofs.Ytnipndfnfpofgaa
