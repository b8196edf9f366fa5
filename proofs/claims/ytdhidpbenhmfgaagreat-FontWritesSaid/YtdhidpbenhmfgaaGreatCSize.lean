/- font.size, Size. -/
import Derived.Test.YtdhidpbenhmfgaaGreatM4
import Derived.LoopN
import Derived.Laws.BitsAllLaws
import Derived.Laws.Bits128
namespace Go.Proofs.YtdhidpbenhmfgaaGreat
open Go.RowKit

theorem and_i64_255 (n : Int) : bits .and .i64 n 255 = n % 256 := by
  have h8 : (BitVec.ofInt 64 255).toNat = 2 ^ 8 - 1 := by decide
  have key : (BitVec.ofInt 64 n &&& BitVec.ofInt 64 255).toNat = (n % ((2 ^ 64 : Nat) : Int)).toNat % 2 ^ 8 := by
    rw [BitVec.toNat_and, BitVec.toNat_ofInt, h8, Nat.and_two_pow_sub_one_eq_mod]
  show IntKind.i64.wrap ((BitVec.ofInt 64 n &&& BitVec.ofInt 64 255).toNat : Nat) = n % 256
  rw [key, IntKind.wrap_i64]
  omega

set_option maxRecDepth 100000 in
set_option maxHeartbeats 4000000 in
theorem csize_0p (n x : Int) (w : World) (h0 : 1 ≤ n) (h1 : n < 8388608) (x0 : -16777216 ≤ x) (x1 : x < 16777216) (hneg : 0 ≤ x) :
    Calls Tryz.prog 51 #[.int .i64 n, .int .i64 x] w fun e w' => e = .returned (.int .i64 (sizeV n x)) ∧ w = w' := by
  have r0 : decide (8388608 ≤ n) = false := decide_eq_false (by omega)
  have k4 : decide (x < 0) = false := decide_eq_false (by omega)
  have hs := size_of_bytes (n := n) (z := n) (beta := 16) (y := x) (by omega) (by omega)
  have Hs := Lib.hid hs
  clear hs
  have z0 : 0 ≤ n := by omega
  have z1 : n < 8388608 := by omega
  obtain ⟨d, hd⟩ : ∃ d, x % 256 = d := ⟨_, rfl⟩
  obtain ⟨c, hc⟩ : ∃ c, x / 256 % 256 = c := ⟨_, rfl⟩
  obtain ⟨b, hb⟩ : ∃ b, x / 65536 % 256 = b := ⟨_, rfl⟩
  have e0 : bits BinOp.and IntKind.i64 x 255 = d := by rw [and_i64_255]; exact hd
  have e1 : bits BinOp.and IntKind.i64 (x / 256) 255 = c := by rw [and_i64_255]; exact hc
  have e2 : bits BinOp.and IntKind.i64 (x / 65536) 255 = b := by rw [and_i64_255]; exact hb
  have d0 : 0 ≤ d ∧ d ≤ 255 := by omega
  have c0 : 0 ≤ c ∧ c ≤ 255 := by omega
  have b0 : 0 ≤ b ∧ b ≤ 255 := by omega
  have hy : 65536 * b + 256 * c + d = x := by omega
  have Hy := Lib.hid hy
  clear hd hc hb hy
  obtain ⟨d0, d1⟩ := d0
  obtain ⟨c0, c1⟩ := c0
  obtain ⟨b0, b1⟩ := b0
  obtain ⟨z, hz⟩ : ∃ z, n = z := ⟨_, rfl⟩
  have q0 : 0 ≤ d * z ∧ d * z ≤ 2139095040 := by rw [← hz]; exact ⟨Int.mul_nonneg d0 z0, by have := Int.mul_le_mul d1 (Int.le_of_lt_add_one (show n < 8388607 + 1 by omega)) z0 (by omega); omega⟩
  have q1 : 0 ≤ c * z ∧ c * z ≤ 2139095040 := by rw [← hz]; exact ⟨Int.mul_nonneg c0 z0, by have := Int.mul_le_mul c1 (Int.le_of_lt_add_one (show n < 8388607 + 1 by omega)) z0 (by omega); omega⟩
  have q2 : 0 ≤ b * z ∧ b * z ≤ 2139095040 := by rw [← hz]; exact ⟨Int.mul_nonneg b0 z0, by have := Int.mul_le_mul b1 (Int.le_of_lt_add_one (show n < 8388607 + 1 by omega)) z0 (by omega); omega⟩
  rw [hz] at z0 z1
  obtain ⟨q00, q01⟩ := q0
  obtain ⟨q10, q11⟩ := q1
  obtain ⟨q20, q21⟩ := q2
  go_enter Tryz.func51, Tryz.ntmps51
  go_wp2_with (fail)
  refine wp_loop_rounds 1 ?_
  rw [rounds_succ]
  go_wp2_with (fail)
  go_ret
  refine ⟨congrArg (fun z => Ending.returned (.int .i64 z)) ?_, rfl⟩
  rw [bytes_quot, Hy.out, ← hz]
  exact Hs.out.1

set_option maxRecDepth 100000 in
set_option maxHeartbeats 4000000 in
theorem csize_0n (n x : Int) (w : World) (h0 : 1 ≤ n) (h1 : n < 8388608) (x0 : -16777216 ≤ x) (x1 : x < 16777216) (hneg : x < 0) :
    Calls Tryz.prog 51 #[.int .i64 n, .int .i64 x] w fun e w' => e = .returned (.int .i64 (sizeV n x)) ∧ w = w' := by
  have r0 : decide (8388608 ≤ n) = false := decide_eq_false (by omega)
  have k4 : decide (x < 0) = true := decide_eq_true (by omega)
  have hs := size_of_bytes (n := n) (z := n) (beta := 16) (y := (x + 16777216)) (by omega) (by omega)
  have Hs := Lib.hid hs
  clear hs
  have z0 : 0 ≤ n := by omega
  have z1 : n < 8388608 := by omega
  obtain ⟨d, hd⟩ : ∃ d, x % 256 = d := ⟨_, rfl⟩
  obtain ⟨c, hc⟩ : ∃ c, x / 256 % 256 = c := ⟨_, rfl⟩
  obtain ⟨b, hb⟩ : ∃ b, x / 65536 % 256 = b := ⟨_, rfl⟩
  have e0 : bits BinOp.and IntKind.i64 x 255 = d := by rw [and_i64_255]; exact hd
  have e1 : bits BinOp.and IntKind.i64 (x / 256) 255 = c := by rw [and_i64_255]; exact hc
  have e2 : bits BinOp.and IntKind.i64 (x / 65536) 255 = b := by rw [and_i64_255]; exact hb
  have d0 : 0 ≤ d ∧ d ≤ 255 := by omega
  have c0 : 0 ≤ c ∧ c ≤ 255 := by omega
  have b0 : 0 ≤ b ∧ b ≤ 255 := by omega
  have hy : 65536 * b + 256 * c + d = (x + 16777216) := by omega
  have Hy := Lib.hid hy
  clear hd hc hb hy
  obtain ⟨d0, d1⟩ := d0
  obtain ⟨c0, c1⟩ := c0
  obtain ⟨b0, b1⟩ := b0
  obtain ⟨z, hz⟩ : ∃ z, n = z := ⟨_, rfl⟩
  have q0 : 0 ≤ d * z ∧ d * z ≤ 2139095040 := by rw [← hz]; exact ⟨Int.mul_nonneg d0 z0, by have := Int.mul_le_mul d1 (Int.le_of_lt_add_one (show n < 8388607 + 1 by omega)) z0 (by omega); omega⟩
  have q1 : 0 ≤ c * z ∧ c * z ≤ 2139095040 := by rw [← hz]; exact ⟨Int.mul_nonneg c0 z0, by have := Int.mul_le_mul c1 (Int.le_of_lt_add_one (show n < 8388607 + 1 by omega)) z0 (by omega); omega⟩
  have q2 : 0 ≤ b * z ∧ b * z ≤ 2139095040 := by rw [← hz]; exact ⟨Int.mul_nonneg b0 z0, by have := Int.mul_le_mul b1 (Int.le_of_lt_add_one (show n < 8388607 + 1 by omega)) z0 (by omega); omega⟩
  rw [hz] at z0 z1
  obtain ⟨q00, q01⟩ := q0
  obtain ⟨q10, q11⟩ := q1
  obtain ⟨q20, q21⟩ := q2
  go_enter Tryz.func51, Tryz.ntmps51
  go_wp2_with (fail)
  refine wp_loop_rounds 1 ?_
  rw [rounds_succ]
  go_wp2_with (fail)
  go_ret
  refine ⟨congrArg (fun z => Ending.returned (.int .i64 z)) ?_, rfl⟩
  subst hz
  have hA : 16 * n = sizeA n := by have := Hs.out.2; omega
  rw [bytes_quot, Hy.out, Hs.out.1, hA, sizeV_less]
  congr 1
  omega

set_option maxRecDepth 100000 in
set_option maxHeartbeats 4000000 in
theorem csize_1p (n x : Int) (w : World) (h0 : 8388608 ≤ n) (h1 : n < 16777216) (x0 : -16777216 ≤ x) (x1 : x < 16777216) (hneg : 0 ≤ x) :
    Calls Tryz.prog 51 #[.int .i64 n, .int .i64 x] w fun e w' => e = .returned (.int .i64 (sizeV n x)) ∧ w = w' := by
  have r0 : decide (8388608 ≤ n) = true := decide_eq_true (by omega)
  have r1 : decide (8388608 ≤ n / 2) = false := decide_eq_false (by omega)
  have k4 : decide (x < 0) = false := decide_eq_false (by omega)
  have hs := size_of_bytes (n := n) (z := n / 2) (beta := 8) (y := x) (by omega) (by omega)
  have Hs := Lib.hid hs
  clear hs
  have z0 : 0 ≤ n / 2 := by omega
  have z1 : n / 2 < 8388608 := by omega
  obtain ⟨d, hd⟩ : ∃ d, x % 256 = d := ⟨_, rfl⟩
  obtain ⟨c, hc⟩ : ∃ c, x / 256 % 256 = c := ⟨_, rfl⟩
  obtain ⟨b, hb⟩ : ∃ b, x / 65536 % 256 = b := ⟨_, rfl⟩
  have e0 : bits BinOp.and IntKind.i64 x 255 = d := by rw [and_i64_255]; exact hd
  have e1 : bits BinOp.and IntKind.i64 (x / 256) 255 = c := by rw [and_i64_255]; exact hc
  have e2 : bits BinOp.and IntKind.i64 (x / 65536) 255 = b := by rw [and_i64_255]; exact hb
  have d0 : 0 ≤ d ∧ d ≤ 255 := by omega
  have c0 : 0 ≤ c ∧ c ≤ 255 := by omega
  have b0 : 0 ≤ b ∧ b ≤ 255 := by omega
  have hy : 65536 * b + 256 * c + d = x := by omega
  have Hy := Lib.hid hy
  clear hd hc hb hy
  obtain ⟨d0, d1⟩ := d0
  obtain ⟨c0, c1⟩ := c0
  obtain ⟨b0, b1⟩ := b0
  obtain ⟨z, hz⟩ : ∃ z, n / 2 = z := ⟨_, rfl⟩
  have q0 : 0 ≤ d * z ∧ d * z ≤ 2139095040 := by rw [← hz]; exact ⟨Int.mul_nonneg d0 z0, by have := Int.mul_le_mul d1 (Int.le_of_lt_add_one (show n / 2 < 8388607 + 1 by omega)) z0 (by omega); omega⟩
  have q1 : 0 ≤ c * z ∧ c * z ≤ 2139095040 := by rw [← hz]; exact ⟨Int.mul_nonneg c0 z0, by have := Int.mul_le_mul c1 (Int.le_of_lt_add_one (show n / 2 < 8388607 + 1 by omega)) z0 (by omega); omega⟩
  have q2 : 0 ≤ b * z ∧ b * z ≤ 2139095040 := by rw [← hz]; exact ⟨Int.mul_nonneg b0 z0, by have := Int.mul_le_mul b1 (Int.le_of_lt_add_one (show n / 2 < 8388607 + 1 by omega)) z0 (by omega); omega⟩
  rw [hz] at z0 z1
  obtain ⟨q00, q01⟩ := q0
  obtain ⟨q10, q11⟩ := q1
  obtain ⟨q20, q21⟩ := q2
  go_enter Tryz.func51, Tryz.ntmps51
  go_wp2_with (fail)
  refine wp_loop_rounds 2 ?_
  rw [rounds_succ]
  go_wp2_with (fail)
  rw [rounds_succ]
  go_wp2_with (fail)
  go_ret
  refine ⟨congrArg (fun z => Ending.returned (.int .i64 z)) ?_, rfl⟩
  rw [bytes_quot, Hy.out, ← hz]
  exact Hs.out.1

set_option maxRecDepth 100000 in
set_option maxHeartbeats 4000000 in
theorem csize_1n (n x : Int) (w : World) (h0 : 8388608 ≤ n) (h1 : n < 16777216) (x0 : -16777216 ≤ x) (x1 : x < 16777216) (hneg : x < 0) :
    Calls Tryz.prog 51 #[.int .i64 n, .int .i64 x] w fun e w' => e = .returned (.int .i64 (sizeV n x)) ∧ w = w' := by
  have r0 : decide (8388608 ≤ n) = true := decide_eq_true (by omega)
  have r1 : decide (8388608 ≤ n / 2) = false := decide_eq_false (by omega)
  have k4 : decide (x < 0) = true := decide_eq_true (by omega)
  have hs := size_of_bytes (n := n) (z := n / 2) (beta := 8) (y := (x + 16777216)) (by omega) (by omega)
  have Hs := Lib.hid hs
  clear hs
  have z0 : 0 ≤ n / 2 := by omega
  have z1 : n / 2 < 8388608 := by omega
  obtain ⟨d, hd⟩ : ∃ d, x % 256 = d := ⟨_, rfl⟩
  obtain ⟨c, hc⟩ : ∃ c, x / 256 % 256 = c := ⟨_, rfl⟩
  obtain ⟨b, hb⟩ : ∃ b, x / 65536 % 256 = b := ⟨_, rfl⟩
  have e0 : bits BinOp.and IntKind.i64 x 255 = d := by rw [and_i64_255]; exact hd
  have e1 : bits BinOp.and IntKind.i64 (x / 256) 255 = c := by rw [and_i64_255]; exact hc
  have e2 : bits BinOp.and IntKind.i64 (x / 65536) 255 = b := by rw [and_i64_255]; exact hb
  have d0 : 0 ≤ d ∧ d ≤ 255 := by omega
  have c0 : 0 ≤ c ∧ c ≤ 255 := by omega
  have b0 : 0 ≤ b ∧ b ≤ 255 := by omega
  have hy : 65536 * b + 256 * c + d = (x + 16777216) := by omega
  have Hy := Lib.hid hy
  clear hd hc hb hy
  obtain ⟨d0, d1⟩ := d0
  obtain ⟨c0, c1⟩ := c0
  obtain ⟨b0, b1⟩ := b0
  obtain ⟨z, hz⟩ : ∃ z, n / 2 = z := ⟨_, rfl⟩
  have q0 : 0 ≤ d * z ∧ d * z ≤ 2139095040 := by rw [← hz]; exact ⟨Int.mul_nonneg d0 z0, by have := Int.mul_le_mul d1 (Int.le_of_lt_add_one (show n / 2 < 8388607 + 1 by omega)) z0 (by omega); omega⟩
  have q1 : 0 ≤ c * z ∧ c * z ≤ 2139095040 := by rw [← hz]; exact ⟨Int.mul_nonneg c0 z0, by have := Int.mul_le_mul c1 (Int.le_of_lt_add_one (show n / 2 < 8388607 + 1 by omega)) z0 (by omega); omega⟩
  have q2 : 0 ≤ b * z ∧ b * z ≤ 2139095040 := by rw [← hz]; exact ⟨Int.mul_nonneg b0 z0, by have := Int.mul_le_mul b1 (Int.le_of_lt_add_one (show n / 2 < 8388607 + 1 by omega)) z0 (by omega); omega⟩
  rw [hz] at z0 z1
  obtain ⟨q00, q01⟩ := q0
  obtain ⟨q10, q11⟩ := q1
  obtain ⟨q20, q21⟩ := q2
  go_enter Tryz.func51, Tryz.ntmps51
  go_wp2_with (fail)
  refine wp_loop_rounds 2 ?_
  rw [rounds_succ]
  go_wp2_with (fail)
  rw [rounds_succ]
  go_wp2_with (fail)
  go_ret
  refine ⟨congrArg (fun z => Ending.returned (.int .i64 z)) ?_, rfl⟩
  have hA : 32 * z = sizeA n := by rw [← hz]; have := Hs.out.2; omega
  rw [bytes_quot, Hy.out, ← hz, Hs.out.1, hz, hA, sizeV_less]
  congr 1
  omega

set_option maxRecDepth 100000 in
set_option maxHeartbeats 4000000 in
theorem csize_2p (n x : Int) (w : World) (h0 : 16777216 ≤ n) (h1 : n < 33554432) (x0 : -16777216 ≤ x) (x1 : x < 16777216) (hneg : 0 ≤ x) :
    Calls Tryz.prog 51 #[.int .i64 n, .int .i64 x] w fun e w' => e = .returned (.int .i64 (sizeV n x)) ∧ w = w' := by
  have r0 : decide (8388608 ≤ n) = true := decide_eq_true (by omega)
  have r1 : decide (8388608 ≤ n / 2) = true := decide_eq_true (by omega)
  have r2 : decide (8388608 ≤ n / 2 / 2) = false := decide_eq_false (by omega)
  have k4 : decide (x < 0) = false := decide_eq_false (by omega)
  have hs := size_of_bytes (n := n) (z := n / 2 / 2) (beta := 4) (y := x) (by omega) (by omega)
  have Hs := Lib.hid hs
  clear hs
  have z0 : 0 ≤ n / 2 / 2 := by omega
  have z1 : n / 2 / 2 < 8388608 := by omega
  obtain ⟨d, hd⟩ : ∃ d, x % 256 = d := ⟨_, rfl⟩
  obtain ⟨c, hc⟩ : ∃ c, x / 256 % 256 = c := ⟨_, rfl⟩
  obtain ⟨b, hb⟩ : ∃ b, x / 65536 % 256 = b := ⟨_, rfl⟩
  have e0 : bits BinOp.and IntKind.i64 x 255 = d := by rw [and_i64_255]; exact hd
  have e1 : bits BinOp.and IntKind.i64 (x / 256) 255 = c := by rw [and_i64_255]; exact hc
  have e2 : bits BinOp.and IntKind.i64 (x / 65536) 255 = b := by rw [and_i64_255]; exact hb
  have d0 : 0 ≤ d ∧ d ≤ 255 := by omega
  have c0 : 0 ≤ c ∧ c ≤ 255 := by omega
  have b0 : 0 ≤ b ∧ b ≤ 255 := by omega
  have hy : 65536 * b + 256 * c + d = x := by omega
  have Hy := Lib.hid hy
  clear hd hc hb hy
  obtain ⟨d0, d1⟩ := d0
  obtain ⟨c0, c1⟩ := c0
  obtain ⟨b0, b1⟩ := b0
  obtain ⟨z, hz⟩ : ∃ z, n / 2 / 2 = z := ⟨_, rfl⟩
  have q0 : 0 ≤ d * z ∧ d * z ≤ 2139095040 := by rw [← hz]; exact ⟨Int.mul_nonneg d0 z0, by have := Int.mul_le_mul d1 (Int.le_of_lt_add_one (show n / 2 / 2 < 8388607 + 1 by omega)) z0 (by omega); omega⟩
  have q1 : 0 ≤ c * z ∧ c * z ≤ 2139095040 := by rw [← hz]; exact ⟨Int.mul_nonneg c0 z0, by have := Int.mul_le_mul c1 (Int.le_of_lt_add_one (show n / 2 / 2 < 8388607 + 1 by omega)) z0 (by omega); omega⟩
  have q2 : 0 ≤ b * z ∧ b * z ≤ 2139095040 := by rw [← hz]; exact ⟨Int.mul_nonneg b0 z0, by have := Int.mul_le_mul b1 (Int.le_of_lt_add_one (show n / 2 / 2 < 8388607 + 1 by omega)) z0 (by omega); omega⟩
  rw [hz] at z0 z1
  obtain ⟨q00, q01⟩ := q0
  obtain ⟨q10, q11⟩ := q1
  obtain ⟨q20, q21⟩ := q2
  go_enter Tryz.func51, Tryz.ntmps51
  go_wp2_with (fail)
  refine wp_loop_rounds 3 ?_
  rw [rounds_succ]
  go_wp2_with (fail)
  rw [rounds_succ]
  go_wp2_with (fail)
  rw [rounds_succ]
  go_wp2_with (fail)
  go_ret
  refine ⟨congrArg (fun z => Ending.returned (.int .i64 z)) ?_, rfl⟩
  rw [bytes_quot, Hy.out, ← hz]
  exact Hs.out.1

set_option maxRecDepth 100000 in
set_option maxHeartbeats 4000000 in
theorem csize_2n (n x : Int) (w : World) (h0 : 16777216 ≤ n) (h1 : n < 33554432) (x0 : -16777216 ≤ x) (x1 : x < 16777216) (hneg : x < 0) :
    Calls Tryz.prog 51 #[.int .i64 n, .int .i64 x] w fun e w' => e = .returned (.int .i64 (sizeV n x)) ∧ w = w' := by
  have r0 : decide (8388608 ≤ n) = true := decide_eq_true (by omega)
  have r1 : decide (8388608 ≤ n / 2) = true := decide_eq_true (by omega)
  have r2 : decide (8388608 ≤ n / 2 / 2) = false := decide_eq_false (by omega)
  have k4 : decide (x < 0) = true := decide_eq_true (by omega)
  have hs := size_of_bytes (n := n) (z := n / 2 / 2) (beta := 4) (y := (x + 16777216)) (by omega) (by omega)
  have Hs := Lib.hid hs
  clear hs
  have z0 : 0 ≤ n / 2 / 2 := by omega
  have z1 : n / 2 / 2 < 8388608 := by omega
  obtain ⟨d, hd⟩ : ∃ d, x % 256 = d := ⟨_, rfl⟩
  obtain ⟨c, hc⟩ : ∃ c, x / 256 % 256 = c := ⟨_, rfl⟩
  obtain ⟨b, hb⟩ : ∃ b, x / 65536 % 256 = b := ⟨_, rfl⟩
  have e0 : bits BinOp.and IntKind.i64 x 255 = d := by rw [and_i64_255]; exact hd
  have e1 : bits BinOp.and IntKind.i64 (x / 256) 255 = c := by rw [and_i64_255]; exact hc
  have e2 : bits BinOp.and IntKind.i64 (x / 65536) 255 = b := by rw [and_i64_255]; exact hb
  have d0 : 0 ≤ d ∧ d ≤ 255 := by omega
  have c0 : 0 ≤ c ∧ c ≤ 255 := by omega
  have b0 : 0 ≤ b ∧ b ≤ 255 := by omega
  have hy : 65536 * b + 256 * c + d = (x + 16777216) := by omega
  have Hy := Lib.hid hy
  clear hd hc hb hy
  obtain ⟨d0, d1⟩ := d0
  obtain ⟨c0, c1⟩ := c0
  obtain ⟨b0, b1⟩ := b0
  obtain ⟨z, hz⟩ : ∃ z, n / 2 / 2 = z := ⟨_, rfl⟩
  have q0 : 0 ≤ d * z ∧ d * z ≤ 2139095040 := by rw [← hz]; exact ⟨Int.mul_nonneg d0 z0, by have := Int.mul_le_mul d1 (Int.le_of_lt_add_one (show n / 2 / 2 < 8388607 + 1 by omega)) z0 (by omega); omega⟩
  have q1 : 0 ≤ c * z ∧ c * z ≤ 2139095040 := by rw [← hz]; exact ⟨Int.mul_nonneg c0 z0, by have := Int.mul_le_mul c1 (Int.le_of_lt_add_one (show n / 2 / 2 < 8388607 + 1 by omega)) z0 (by omega); omega⟩
  have q2 : 0 ≤ b * z ∧ b * z ≤ 2139095040 := by rw [← hz]; exact ⟨Int.mul_nonneg b0 z0, by have := Int.mul_le_mul b1 (Int.le_of_lt_add_one (show n / 2 / 2 < 8388607 + 1 by omega)) z0 (by omega); omega⟩
  rw [hz] at z0 z1
  obtain ⟨q00, q01⟩ := q0
  obtain ⟨q10, q11⟩ := q1
  obtain ⟨q20, q21⟩ := q2
  go_enter Tryz.func51, Tryz.ntmps51
  go_wp2_with (fail)
  refine wp_loop_rounds 3 ?_
  rw [rounds_succ]
  go_wp2_with (fail)
  rw [rounds_succ]
  go_wp2_with (fail)
  rw [rounds_succ]
  go_wp2_with (fail)
  go_ret
  refine ⟨congrArg (fun z => Ending.returned (.int .i64 z)) ?_, rfl⟩
  have hA : 64 * z = sizeA n := by rw [← hz]; have := Hs.out.2; omega
  rw [bytes_quot, Hy.out, ← hz, Hs.out.1, hz, hA, sizeV_less]
  congr 1
  omega

set_option maxRecDepth 100000 in
set_option maxHeartbeats 4000000 in
theorem csize_3p (n x : Int) (w : World) (h0 : 33554432 ≤ n) (h1 : n < 67108864) (x0 : -16777216 ≤ x) (x1 : x < 16777216) (hneg : 0 ≤ x) :
    Calls Tryz.prog 51 #[.int .i64 n, .int .i64 x] w fun e w' => e = .returned (.int .i64 (sizeV n x)) ∧ w = w' := by
  have r0 : decide (8388608 ≤ n) = true := decide_eq_true (by omega)
  have r1 : decide (8388608 ≤ n / 2) = true := decide_eq_true (by omega)
  have r2 : decide (8388608 ≤ n / 2 / 2) = true := decide_eq_true (by omega)
  have r3 : decide (8388608 ≤ n / 2 / 2 / 2) = false := decide_eq_false (by omega)
  have k4 : decide (x < 0) = false := decide_eq_false (by omega)
  have hs := size_of_bytes (n := n) (z := n / 2 / 2 / 2) (beta := 2) (y := x) (by omega) (by omega)
  have Hs := Lib.hid hs
  clear hs
  have z0 : 0 ≤ n / 2 / 2 / 2 := by omega
  have z1 : n / 2 / 2 / 2 < 8388608 := by omega
  obtain ⟨d, hd⟩ : ∃ d, x % 256 = d := ⟨_, rfl⟩
  obtain ⟨c, hc⟩ : ∃ c, x / 256 % 256 = c := ⟨_, rfl⟩
  obtain ⟨b, hb⟩ : ∃ b, x / 65536 % 256 = b := ⟨_, rfl⟩
  have e0 : bits BinOp.and IntKind.i64 x 255 = d := by rw [and_i64_255]; exact hd
  have e1 : bits BinOp.and IntKind.i64 (x / 256) 255 = c := by rw [and_i64_255]; exact hc
  have e2 : bits BinOp.and IntKind.i64 (x / 65536) 255 = b := by rw [and_i64_255]; exact hb
  have d0 : 0 ≤ d ∧ d ≤ 255 := by omega
  have c0 : 0 ≤ c ∧ c ≤ 255 := by omega
  have b0 : 0 ≤ b ∧ b ≤ 255 := by omega
  have hy : 65536 * b + 256 * c + d = x := by omega
  have Hy := Lib.hid hy
  clear hd hc hb hy
  obtain ⟨d0, d1⟩ := d0
  obtain ⟨c0, c1⟩ := c0
  obtain ⟨b0, b1⟩ := b0
  obtain ⟨z, hz⟩ : ∃ z, n / 2 / 2 / 2 = z := ⟨_, rfl⟩
  have q0 : 0 ≤ d * z ∧ d * z ≤ 2139095040 := by rw [← hz]; exact ⟨Int.mul_nonneg d0 z0, by have := Int.mul_le_mul d1 (Int.le_of_lt_add_one (show n / 2 / 2 / 2 < 8388607 + 1 by omega)) z0 (by omega); omega⟩
  have q1 : 0 ≤ c * z ∧ c * z ≤ 2139095040 := by rw [← hz]; exact ⟨Int.mul_nonneg c0 z0, by have := Int.mul_le_mul c1 (Int.le_of_lt_add_one (show n / 2 / 2 / 2 < 8388607 + 1 by omega)) z0 (by omega); omega⟩
  have q2 : 0 ≤ b * z ∧ b * z ≤ 2139095040 := by rw [← hz]; exact ⟨Int.mul_nonneg b0 z0, by have := Int.mul_le_mul b1 (Int.le_of_lt_add_one (show n / 2 / 2 / 2 < 8388607 + 1 by omega)) z0 (by omega); omega⟩
  rw [hz] at z0 z1
  obtain ⟨q00, q01⟩ := q0
  obtain ⟨q10, q11⟩ := q1
  obtain ⟨q20, q21⟩ := q2
  go_enter Tryz.func51, Tryz.ntmps51
  go_wp2_with (fail)
  refine wp_loop_rounds 4 ?_
  rw [rounds_succ]
  go_wp2_with (fail)
  rw [rounds_succ]
  go_wp2_with (fail)
  rw [rounds_succ]
  go_wp2_with (fail)
  rw [rounds_succ]
  go_wp2_with (fail)
  go_ret
  refine ⟨congrArg (fun z => Ending.returned (.int .i64 z)) ?_, rfl⟩
  rw [bytes_quot, Hy.out, ← hz]
  exact Hs.out.1

set_option maxRecDepth 100000 in
set_option maxHeartbeats 4000000 in
theorem csize_3n (n x : Int) (w : World) (h0 : 33554432 ≤ n) (h1 : n < 67108864) (x0 : -16777216 ≤ x) (x1 : x < 16777216) (hneg : x < 0) :
    Calls Tryz.prog 51 #[.int .i64 n, .int .i64 x] w fun e w' => e = .returned (.int .i64 (sizeV n x)) ∧ w = w' := by
  have r0 : decide (8388608 ≤ n) = true := decide_eq_true (by omega)
  have r1 : decide (8388608 ≤ n / 2) = true := decide_eq_true (by omega)
  have r2 : decide (8388608 ≤ n / 2 / 2) = true := decide_eq_true (by omega)
  have r3 : decide (8388608 ≤ n / 2 / 2 / 2) = false := decide_eq_false (by omega)
  have k4 : decide (x < 0) = true := decide_eq_true (by omega)
  have hs := size_of_bytes (n := n) (z := n / 2 / 2 / 2) (beta := 2) (y := (x + 16777216)) (by omega) (by omega)
  have Hs := Lib.hid hs
  clear hs
  have z0 : 0 ≤ n / 2 / 2 / 2 := by omega
  have z1 : n / 2 / 2 / 2 < 8388608 := by omega
  obtain ⟨d, hd⟩ : ∃ d, x % 256 = d := ⟨_, rfl⟩
  obtain ⟨c, hc⟩ : ∃ c, x / 256 % 256 = c := ⟨_, rfl⟩
  obtain ⟨b, hb⟩ : ∃ b, x / 65536 % 256 = b := ⟨_, rfl⟩
  have e0 : bits BinOp.and IntKind.i64 x 255 = d := by rw [and_i64_255]; exact hd
  have e1 : bits BinOp.and IntKind.i64 (x / 256) 255 = c := by rw [and_i64_255]; exact hc
  have e2 : bits BinOp.and IntKind.i64 (x / 65536) 255 = b := by rw [and_i64_255]; exact hb
  have d0 : 0 ≤ d ∧ d ≤ 255 := by omega
  have c0 : 0 ≤ c ∧ c ≤ 255 := by omega
  have b0 : 0 ≤ b ∧ b ≤ 255 := by omega
  have hy : 65536 * b + 256 * c + d = (x + 16777216) := by omega
  have Hy := Lib.hid hy
  clear hd hc hb hy
  obtain ⟨d0, d1⟩ := d0
  obtain ⟨c0, c1⟩ := c0
  obtain ⟨b0, b1⟩ := b0
  obtain ⟨z, hz⟩ : ∃ z, n / 2 / 2 / 2 = z := ⟨_, rfl⟩
  have q0 : 0 ≤ d * z ∧ d * z ≤ 2139095040 := by rw [← hz]; exact ⟨Int.mul_nonneg d0 z0, by have := Int.mul_le_mul d1 (Int.le_of_lt_add_one (show n / 2 / 2 / 2 < 8388607 + 1 by omega)) z0 (by omega); omega⟩
  have q1 : 0 ≤ c * z ∧ c * z ≤ 2139095040 := by rw [← hz]; exact ⟨Int.mul_nonneg c0 z0, by have := Int.mul_le_mul c1 (Int.le_of_lt_add_one (show n / 2 / 2 / 2 < 8388607 + 1 by omega)) z0 (by omega); omega⟩
  have q2 : 0 ≤ b * z ∧ b * z ≤ 2139095040 := by rw [← hz]; exact ⟨Int.mul_nonneg b0 z0, by have := Int.mul_le_mul b1 (Int.le_of_lt_add_one (show n / 2 / 2 / 2 < 8388607 + 1 by omega)) z0 (by omega); omega⟩
  rw [hz] at z0 z1
  obtain ⟨q00, q01⟩ := q0
  obtain ⟨q10, q11⟩ := q1
  obtain ⟨q20, q21⟩ := q2
  go_enter Tryz.func51, Tryz.ntmps51
  go_wp2_with (fail)
  refine wp_loop_rounds 4 ?_
  rw [rounds_succ]
  go_wp2_with (fail)
  rw [rounds_succ]
  go_wp2_with (fail)
  rw [rounds_succ]
  go_wp2_with (fail)
  rw [rounds_succ]
  go_wp2_with (fail)
  go_ret
  refine ⟨congrArg (fun z => Ending.returned (.int .i64 z)) ?_, rfl⟩
  have hA : 128 * z = sizeA n := by rw [← hz]; have := Hs.out.2; omega
  rw [bytes_quot, Hy.out, ← hz, Hs.out.1, hz, hA, sizeV_less]
  congr 1
  omega

set_option maxRecDepth 100000 in
set_option maxHeartbeats 4000000 in
theorem csize_4p (n x : Int) (w : World) (h0 : 67108864 ≤ n) (h1 : n < 134217728) (x0 : -16777216 ≤ x) (x1 : x < 16777216) (hneg : 0 ≤ x) :
    Calls Tryz.prog 51 #[.int .i64 n, .int .i64 x] w fun e w' => e = .returned (.int .i64 (sizeV n x)) ∧ w = w' := by
  have r0 : decide (8388608 ≤ n) = true := decide_eq_true (by omega)
  have r1 : decide (8388608 ≤ n / 2) = true := decide_eq_true (by omega)
  have r2 : decide (8388608 ≤ n / 2 / 2) = true := decide_eq_true (by omega)
  have r3 : decide (8388608 ≤ n / 2 / 2 / 2) = true := decide_eq_true (by omega)
  have r4 : decide (8388608 ≤ n / 2 / 2 / 2 / 2) = false := decide_eq_false (by omega)
  have k4 : decide (x < 0) = false := decide_eq_false (by omega)
  have hs := size_of_bytes (n := n) (z := n / 2 / 2 / 2 / 2) (beta := 1) (y := x) (by omega) (by omega)
  rw [Int.ediv_one] at hs
  have Hs := Lib.hid hs
  clear hs
  have z0 : 0 ≤ n / 2 / 2 / 2 / 2 := by omega
  have z1 : n / 2 / 2 / 2 / 2 < 8388608 := by omega
  obtain ⟨d, hd⟩ : ∃ d, x % 256 = d := ⟨_, rfl⟩
  obtain ⟨c, hc⟩ : ∃ c, x / 256 % 256 = c := ⟨_, rfl⟩
  obtain ⟨b, hb⟩ : ∃ b, x / 65536 % 256 = b := ⟨_, rfl⟩
  have e0 : bits BinOp.and IntKind.i64 x 255 = d := by rw [and_i64_255]; exact hd
  have e1 : bits BinOp.and IntKind.i64 (x / 256) 255 = c := by rw [and_i64_255]; exact hc
  have e2 : bits BinOp.and IntKind.i64 (x / 65536) 255 = b := by rw [and_i64_255]; exact hb
  have d0 : 0 ≤ d ∧ d ≤ 255 := by omega
  have c0 : 0 ≤ c ∧ c ≤ 255 := by omega
  have b0 : 0 ≤ b ∧ b ≤ 255 := by omega
  have hy : 65536 * b + 256 * c + d = x := by omega
  have Hy := Lib.hid hy
  clear hd hc hb hy
  obtain ⟨d0, d1⟩ := d0
  obtain ⟨c0, c1⟩ := c0
  obtain ⟨b0, b1⟩ := b0
  obtain ⟨z, hz⟩ : ∃ z, n / 2 / 2 / 2 / 2 = z := ⟨_, rfl⟩
  have q0 : 0 ≤ d * z ∧ d * z ≤ 2139095040 := by rw [← hz]; exact ⟨Int.mul_nonneg d0 z0, by have := Int.mul_le_mul d1 (Int.le_of_lt_add_one (show n / 2 / 2 / 2 / 2 < 8388607 + 1 by omega)) z0 (by omega); omega⟩
  have q1 : 0 ≤ c * z ∧ c * z ≤ 2139095040 := by rw [← hz]; exact ⟨Int.mul_nonneg c0 z0, by have := Int.mul_le_mul c1 (Int.le_of_lt_add_one (show n / 2 / 2 / 2 / 2 < 8388607 + 1 by omega)) z0 (by omega); omega⟩
  have q2 : 0 ≤ b * z ∧ b * z ≤ 2139095040 := by rw [← hz]; exact ⟨Int.mul_nonneg b0 z0, by have := Int.mul_le_mul b1 (Int.le_of_lt_add_one (show n / 2 / 2 / 2 / 2 < 8388607 + 1 by omega)) z0 (by omega); omega⟩
  rw [hz] at z0 z1
  obtain ⟨q00, q01⟩ := q0
  obtain ⟨q10, q11⟩ := q1
  obtain ⟨q20, q21⟩ := q2
  go_enter Tryz.func51, Tryz.ntmps51
  go_wp2_with (fail)
  refine wp_loop_rounds 5 ?_
  rw [rounds_succ]
  go_wp2_with (fail)
  rw [rounds_succ]
  go_wp2_with (fail)
  rw [rounds_succ]
  go_wp2_with (fail)
  rw [rounds_succ]
  go_wp2_with (fail)
  rw [rounds_succ]
  go_wp2_with (fail)
  go_ret
  refine ⟨congrArg (fun z => Ending.returned (.int .i64 z)) ?_, rfl⟩
  rw [bytes_quot, Hy.out, ← hz]
  exact Hs.out.1

set_option maxRecDepth 100000 in
set_option maxHeartbeats 4000000 in
theorem csize_4n (n x : Int) (w : World) (h0 : 67108864 ≤ n) (h1 : n < 134217728) (x0 : -16777216 ≤ x) (x1 : x < 16777216) (hneg : x < 0) :
    Calls Tryz.prog 51 #[.int .i64 n, .int .i64 x] w fun e w' => e = .returned (.int .i64 (sizeV n x)) ∧ w = w' := by
  have r0 : decide (8388608 ≤ n) = true := decide_eq_true (by omega)
  have r1 : decide (8388608 ≤ n / 2) = true := decide_eq_true (by omega)
  have r2 : decide (8388608 ≤ n / 2 / 2) = true := decide_eq_true (by omega)
  have r3 : decide (8388608 ≤ n / 2 / 2 / 2) = true := decide_eq_true (by omega)
  have r4 : decide (8388608 ≤ n / 2 / 2 / 2 / 2) = false := decide_eq_false (by omega)
  have k4 : decide (x < 0) = true := decide_eq_true (by omega)
  have hs := size_of_bytes (n := n) (z := n / 2 / 2 / 2 / 2) (beta := 1) (y := (x + 16777216)) (by omega) (by omega)
  rw [Int.ediv_one] at hs
  have Hs := Lib.hid hs
  clear hs
  have z0 : 0 ≤ n / 2 / 2 / 2 / 2 := by omega
  have z1 : n / 2 / 2 / 2 / 2 < 8388608 := by omega
  obtain ⟨d, hd⟩ : ∃ d, x % 256 = d := ⟨_, rfl⟩
  obtain ⟨c, hc⟩ : ∃ c, x / 256 % 256 = c := ⟨_, rfl⟩
  obtain ⟨b, hb⟩ : ∃ b, x / 65536 % 256 = b := ⟨_, rfl⟩
  have e0 : bits BinOp.and IntKind.i64 x 255 = d := by rw [and_i64_255]; exact hd
  have e1 : bits BinOp.and IntKind.i64 (x / 256) 255 = c := by rw [and_i64_255]; exact hc
  have e2 : bits BinOp.and IntKind.i64 (x / 65536) 255 = b := by rw [and_i64_255]; exact hb
  have d0 : 0 ≤ d ∧ d ≤ 255 := by omega
  have c0 : 0 ≤ c ∧ c ≤ 255 := by omega
  have b0 : 0 ≤ b ∧ b ≤ 255 := by omega
  have hy : 65536 * b + 256 * c + d = (x + 16777216) := by omega
  have Hy := Lib.hid hy
  clear hd hc hb hy
  obtain ⟨d0, d1⟩ := d0
  obtain ⟨c0, c1⟩ := c0
  obtain ⟨b0, b1⟩ := b0
  obtain ⟨z, hz⟩ : ∃ z, n / 2 / 2 / 2 / 2 = z := ⟨_, rfl⟩
  have q0 : 0 ≤ d * z ∧ d * z ≤ 2139095040 := by rw [← hz]; exact ⟨Int.mul_nonneg d0 z0, by have := Int.mul_le_mul d1 (Int.le_of_lt_add_one (show n / 2 / 2 / 2 / 2 < 8388607 + 1 by omega)) z0 (by omega); omega⟩
  have q1 : 0 ≤ c * z ∧ c * z ≤ 2139095040 := by rw [← hz]; exact ⟨Int.mul_nonneg c0 z0, by have := Int.mul_le_mul c1 (Int.le_of_lt_add_one (show n / 2 / 2 / 2 / 2 < 8388607 + 1 by omega)) z0 (by omega); omega⟩
  have q2 : 0 ≤ b * z ∧ b * z ≤ 2139095040 := by rw [← hz]; exact ⟨Int.mul_nonneg b0 z0, by have := Int.mul_le_mul b1 (Int.le_of_lt_add_one (show n / 2 / 2 / 2 / 2 < 8388607 + 1 by omega)) z0 (by omega); omega⟩
  rw [hz] at z0 z1
  obtain ⟨q00, q01⟩ := q0
  obtain ⟨q10, q11⟩ := q1
  obtain ⟨q20, q21⟩ := q2
  go_enter Tryz.func51, Tryz.ntmps51
  go_wp2_with (fail)
  refine wp_loop_rounds 5 ?_
  rw [rounds_succ]
  go_wp2_with (fail)
  rw [rounds_succ]
  go_wp2_with (fail)
  rw [rounds_succ]
  go_wp2_with (fail)
  rw [rounds_succ]
  go_wp2_with (fail)
  rw [rounds_succ]
  go_wp2_with (fail)
  go_ret
  refine ⟨congrArg (fun z => Ending.returned (.int .i64 z)) ?_, rfl⟩
  have hA : 256 * z = sizeA n := by rw [← hz]; have := Hs.out.2; omega
  rw [bytes_quot, Hy.out, ← hz, Hs.out.1, hz, hA, sizeV_less]
  congr 1
  omega

theorem csize_any (n x : Int) (w : World) (h0 : 1 ≤ n) (h1 : n < 134217728) (hx : fixB x = true) :
    Calls Tryz.prog 51 #[.int .i64 n, .int .i64 x] w fun e w' => e = .returned (.int .i64 (sizeV n x)) ∧ w = w' := by
  have x0 : -16777216 ≤ x ∧ x < 16777216 := of_decide_eq_true hx
  obtain ⟨x0, x1⟩ := x0
  by_cases hn : x < 0
  · by_cases n0 : n < 8388608
    · exact csize_0n n x w (by omega) n0 x0 x1 (by omega)
    · by_cases n1 : n < 16777216
      · exact csize_1n n x w (by omega) n1 x0 x1 (by omega)
      · by_cases n2 : n < 33554432
        · exact csize_2n n x w (by omega) n2 x0 x1 (by omega)
        · by_cases n3 : n < 67108864
          · exact csize_3n n x w (by omega) n3 x0 x1 (by omega)
          · exact csize_4n n x w (by omega) (by omega) x0 x1 (by omega)
  · by_cases n0 : n < 8388608
    · exact csize_0p n x w (by omega) n0 x0 x1 (by omega)
    · by_cases n1 : n < 16777216
      · exact csize_1p n x w (by omega) n1 x0 x1 (by omega)
      · by_cases n2 : n < 33554432
        · exact csize_2p n x w (by omega) n2 x0 x1 (by omega)
        · by_cases n3 : n < 67108864
          · exact csize_3p n x w (by omega) n3 x0 x1 (by omega)
          · exact csize_4p n x w (by omega) (by omega) x0 x1 (by omega)

theorem nums1 {w : World} {B C : Nat} {x : Int} {T : TypeId} (h : w.heap[B]? = some (.cells #[.int .i64 x] T (0, 0))) (hC : B < C) : NumsAt w (some ⟨B, 0, none⟩) [x] C := fun _ =>
  ⟨B, 0, rfl, hC, fun k hk => by
    match k, hk with
    | 0, _ => simp [World.cell?, h]⟩
set_option maxHeartbeats 2000000 in
theorem cSize_lo (n x : Int) (w : World) (h : decide (1 ≤ n ∧ n < 134217728) = false) :
    Calls Tryz.prog 15 #[.int .i64 n, .int .i64 x] w fun e w' => e = .returned (.tuple #[.int .i64 0, .int .i64 11]) ∧ Kept w w' := by
  have hs := Lib.hid (sized_any n w)
  rw [h] at hs
  clear h
  go_enter Tryz.func15, Tryz.ntmps15
  go_wp2_with (fail)
  refine hs.out.mono ?_
  rintro e w' ⟨rfl, rfl⟩
  go_wp2_with (fail)
  go_ret2
  exact ⟨rfl, Kept.refl _⟩
set_option maxHeartbeats 2000000 in
theorem cSize_no (n x : Int) (w : World) (h : decide (1 ≤ n ∧ n < 134217728) = true) (hx : fixB x = false) :
    Calls Tryz.prog 15 #[.int .i64 n, .int .i64 x] w fun e w' => e = .returned (.tuple #[.int .i64 0, .int .i64 11]) ∧ Kept w w' := by
  have hs := Lib.hid (sized_any n w)
  rw [h] at hs
  have hf := fun B w' (q : NumsAt w' (some ⟨B, 0, none⟩) [x] w'.heap.size) => Lib.hid (cfix_any (some ⟨B, 0, none⟩) [x] 1 w' (by simp) q)
  rw [show [x].all fixB = false from by simp [hx]] at hf
  clear h hx
  go_enter Tryz.func15, Tryz.ntmps15
  go_wp2_with (fail)
  refine hs.out.mono ?_
  rintro e w' ⟨rfl, rfl⟩
  go_wp2_with (fail)
  refine (hf _ _ (nums1 (mkobj _ _) (by simp))).out.mono ?_
  rintro e w1 ⟨rfl, k1⟩
  go_wp2_with (fail)
  go_ret2
  exact ⟨rfl, Kept.trans (walloc _ _) k1⟩
set_option maxHeartbeats 2000000 in
theorem cSize_yes (n x : Int) (w : World) (h : decide (1 ≤ n ∧ n < 134217728) = true) (hx : fixB x = true) :
    Calls Tryz.prog 15 #[.int .i64 n, .int .i64 x] w fun e w' => e = .returned (.tuple #[.int .i64 (sizeV n x), .int .i64 0]) ∧ Kept w w' := by
  have hs := Lib.hid (sized_any n w)
  rw [h] at hs
  have hf := fun B w' (q : NumsAt w' (some ⟨B, 0, none⟩) [x] w'.heap.size) => Lib.hid (cfix_any (some ⟨B, 0, none⟩) [x] 1 w' (by simp) q)
  rw [show [x].all fixB = true from by simp [hx]] at hf
  have hz := fun w => Lib.hid (csize_any n x w (of_decide_eq_true h).1 (of_decide_eq_true h).2 hx)
  clear h hx
  generalize sizeV n x = v at *
  go_enter Tryz.func15, Tryz.ntmps15
  go_wp2_with (fail)
  refine hs.out.mono ?_
  rintro e w' ⟨rfl, rfl⟩
  go_wp2_with (fail)
  refine (hf _ _ (nums1 (mkobj _ _) (by simp))).out.mono ?_
  rintro e w1 ⟨rfl, k1⟩
  go_wp2_with (fail)
  refine (hz _).out.mono ?_
  rintro e w2 ⟨rfl, rfl⟩
  go_wp2_with (fail)
  go_ret2
  exact ⟨rfl, Kept.trans (walloc _ _) k1⟩
theorem cSize_any (n x : Int) (w : World) :
    Calls Tryz.prog 15 #[.int .i64 n, .int .i64 x] w fun e w' => e = .returned (.tuple #[.int .i64 (sizeR n x), .int .i64 (sizeE n x)]) ∧ Kept w w' := by
  unfold sizeR sizeE sizeOk
  cases h : decide (1 ≤ n ∧ n < 134217728) with
  | false => simp only [Bool.false_and]; exact cSize_lo n x w h
  | true =>
    cases hx : fixB x with
    | false => simp only [Bool.and_false]; exact cSize_no n x w h hx
    | true => simp only [Bool.and_self, if_true]; exact cSize_yes n x w h hx
end Go.Proofs.YtdhidpbenhmfgaaGreat
