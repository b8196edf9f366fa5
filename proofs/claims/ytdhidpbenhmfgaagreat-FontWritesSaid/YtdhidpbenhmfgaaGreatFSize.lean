/- galleyref03.fix, Size. -/
import Derived.Test.YtdhidpbenhmfgaaGreatSizeMath
import Derived.LoopN
import Derived.Laws.BitsAllLaws
namespace Go.Proofs.YtdhidpbenhmfgaaGreat
open Go.RowKit

theorem fix_yes' {x : Int} (h : fixB x = true) : -16777216 ≤ x ∧ x < 16777216 := of_decide_eq_true h
theorem fix_no' {x : Int} (h : fixB x = false) : x < -16777216 ∨ 16777216 ≤ x := by simp [fixB] at h; omega

set_option maxHeartbeats 400000 in
theorem rfix_yes (x : Int) (h : fixB x = true) (w : World) :
    Calls Tryz.prog 52 #[.int .i64 x] w fun e w' => e = .returned (.bool true) ∧ w = w' := by
  obtain ⟨h1, h2⟩ := fix_yes' h
  clear h
  go_enter Tryz.func52, Tryz.ntmps52
  go_wp2
  go_ret
  exact ⟨rfl, rfl⟩
set_option maxHeartbeats 400000 in
theorem rfix_no (x : Int) (h : fixB x = false) (w : World) :
    Calls Tryz.prog 52 #[.int .i64 x] w fun e w' => e = .returned (.bool false) ∧ w = w' := by
  rcases fix_no' h with h1 | h1
  · have h2 : decide (-16777216 ≤ x) = false := decide_eq_false (by omega)
    clear h
    go_enter Tryz.func52, Tryz.ntmps52
    go_wp2
    go_ret
    exact ⟨rfl, rfl⟩
  · have h2 : -16777216 ≤ x := by omega
    have h3 : decide (x < 16777216) = false := decide_eq_false (by omega)
    clear h
    go_enter Tryz.func52, Tryz.ntmps52
    go_wp2
    go_ret
    exact ⟨rfl, rfl⟩


theorem and255 (x : Int) (h0 : 0 ≤ x) (h1 : x < 4294967296) : bits BinOp.and IntKind.u32 x 255 = x % 256 := by
  rw [u32_and x 255 h0 h1 (by omega) (by omega)]
  have : x.toNat &&& (255 : Int).toNat = x.toNat % 256 := Nat.and_two_pow_sub_one_eq_mod x.toNat 8
  rw [this]
  omega


set_option maxRecDepth 100000 in
set_option maxHeartbeats 4000000 in
theorem rsize_0p (n x : Int) (w : World) (h0 : 1 ≤ n) (h1 : n < 8388608) (hx : fixB x = true) (hneg : 0 ≤ x) :
    Calls Tryz.prog 16 #[.int .i64 n, .int .i64 x] w fun e w' => e = .returned (.tuple #[.int .i64 (sizeV n x), .int .i64 0]) ∧ w = w' := by
  have hf := fun w => Lib.hid (rfix_yes x hx w)
  obtain ⟨x0, x1⟩ := fix_yes' hx
  clear hx
  have k1 : decide (n < 1) = false := decide_eq_false (by omega)
  have k2 : decide (134217728 ≤ n) = false := decide_eq_false (by omega)
  have r0 : decide (8388608 ≤ n) = false := decide_eq_false (by omega)
  have k4 : decide (x < 0) = false := decide_eq_false (by omega)
  have hs := size_of_bytes (n := n) (z := n) (beta := 16) (y := x) (by omega) (by omega)
  have Hs := Lib.hid hs
  clear hs
  have z0 : 0 ≤ n := by omega
  have z1 : n < 8388608 := by omega
  obtain ⟨d, hd⟩ : ∃ d, x % 256 = d := ⟨_, rfl⟩
  obtain ⟨c, hc⟩ : ∃ c, x / 256 % 256 = c := ⟨_, rfl⟩
  obtain ⟨b, hb⟩ : ∃ b, x / 65536 % 256 = b := ⟨_, rfl⟩
  have e0 : bits BinOp.and IntKind.u32 x 255 = d := by rw [and255 _ (by omega) (by omega)]; exact hd
  have e1 : bits BinOp.and IntKind.u32 (x / 256) 255 = c := by rw [and255 _ (by omega) (by omega)]; exact hc
  have e2 : bits BinOp.and IntKind.u32 (x / 65536) 255 = b := by rw [and255 _ (by omega) (by omega)]; exact hb
  have d0 : 0 ≤ d ∧ d ≤ 255 := by omega
  have c0 : 0 ≤ c ∧ c ≤ 255 := by omega
  have b0 : 0 ≤ b ∧ b ≤ 255 := by omega
  have hy : 65536 * b + 256 * c + d = x := by omega
  have Hy := Lib.hid hy
  clear hd hc hb hy
  obtain ⟨d0, d1⟩ := d0
  obtain ⟨c0, c1⟩ := c0
  obtain ⟨b0, b1⟩ := b0
  obtain ⟨z, hz⟩ : ∃ z, n = z := ⟨_, rfl⟩
  have q0 : 0 ≤ d * z ∧ d * z ≤ 2139095040 := by rw [← hz]; exact ⟨Int.mul_nonneg d0 z0, by have := Int.mul_le_mul d1 (Int.le_of_lt_add_one (show n < 8388607 + 1 by omega)) z0 (by omega); omega⟩
  have q1 : 0 ≤ c * z ∧ c * z ≤ 2139095040 := by rw [← hz]; exact ⟨Int.mul_nonneg c0 z0, by have := Int.mul_le_mul c1 (Int.le_of_lt_add_one (show n < 8388607 + 1 by omega)) z0 (by omega); omega⟩
  have q2 : 0 ≤ b * z ∧ b * z ≤ 2139095040 := by rw [← hz]; exact ⟨Int.mul_nonneg b0 z0, by have := Int.mul_le_mul b1 (Int.le_of_lt_add_one (show n < 8388607 + 1 by omega)) z0 (by omega); omega⟩
  rw [hz] at z0 z1
  obtain ⟨q00, q01⟩ := q0
  obtain ⟨q10, q11⟩ := q1
  obtain ⟨q20, q21⟩ := q2
  skip
  go_enter Tryz.func16, Tryz.ntmps16
  go_wp2_with (fail)
  refine (hf _).out.mono ?_
  rintro e w' ⟨rfl, rfl⟩
  go_wp2_with (fail)
  refine wp_loop_rounds 1 ?_
  rw [rounds_succ]
  go_wp2_with (fail)
  go_ret2
  refine ⟨ret_ii ?_ rfl, rfl⟩
  rw [bytes_quot, Hy.out, ← hz]
  exact Hs.out.1


set_option maxRecDepth 100000 in
set_option maxHeartbeats 4000000 in
theorem rsize_0n (n x : Int) (w : World) (h0 : 1 ≤ n) (h1 : n < 8388608) (hx : fixB x = true) (hneg : x < 0) :
    Calls Tryz.prog 16 #[.int .i64 n, .int .i64 x] w fun e w' => e = .returned (.tuple #[.int .i64 (sizeV n x), .int .i64 0]) ∧ w = w' := by
  have hf := fun w => Lib.hid (rfix_yes x hx w)
  obtain ⟨x0, x1⟩ := fix_yes' hx
  clear hx
  have k1 : decide (n < 1) = false := decide_eq_false (by omega)
  have k2 : decide (134217728 ≤ n) = false := decide_eq_false (by omega)
  have r0 : decide (8388608 ≤ n) = false := decide_eq_false (by omega)
  have k4 : decide (x < 0) = true := decide_eq_true (by omega)
  have hs := size_of_bytes (n := n) (z := n) (beta := 16) (y := (x + 16777216)) (by omega) (by omega)
  have Hs := Lib.hid hs
  clear hs
  have z0 : 0 ≤ n := by omega
  have z1 : n < 8388608 := by omega
  obtain ⟨d, hd⟩ : ∃ d, (x % 4294967296) % 256 = d := ⟨_, rfl⟩
  obtain ⟨c, hc⟩ : ∃ c, (x % 4294967296) / 256 % 256 = c := ⟨_, rfl⟩
  obtain ⟨b, hb⟩ : ∃ b, (x % 4294967296) / 65536 % 256 = b := ⟨_, rfl⟩
  have e0 : bits BinOp.and IntKind.u32 (x % 4294967296) 255 = d := by rw [and255 _ (by omega) (by omega)]; exact hd
  have e1 : bits BinOp.and IntKind.u32 ((x % 4294967296) / 256) 255 = c := by rw [and255 _ (by omega) (by omega)]; exact hc
  have e2 : bits BinOp.and IntKind.u32 ((x % 4294967296) / 65536) 255 = b := by rw [and255 _ (by omega) (by omega)]; exact hb
  have d0 : 0 ≤ d ∧ d ≤ 255 := by omega
  have c0 : 0 ≤ c ∧ c ≤ 255 := by omega
  have b0 : 0 ≤ b ∧ b ≤ 255 := by omega
  have hy : 65536 * b + 256 * c + d = (x + 16777216) := by omega
  have Hy := Lib.hid hy
  clear hd hc hb hy
  obtain ⟨d0, d1⟩ := d0
  obtain ⟨c0, c1⟩ := c0
  obtain ⟨b0, b1⟩ := b0
  obtain ⟨z, hz⟩ : ∃ z, n = z := ⟨_, rfl⟩
  have q0 : 0 ≤ d * z ∧ d * z ≤ 2139095040 := by rw [← hz]; exact ⟨Int.mul_nonneg d0 z0, by have := Int.mul_le_mul d1 (Int.le_of_lt_add_one (show n < 8388607 + 1 by omega)) z0 (by omega); omega⟩
  have q1 : 0 ≤ c * z ∧ c * z ≤ 2139095040 := by rw [← hz]; exact ⟨Int.mul_nonneg c0 z0, by have := Int.mul_le_mul c1 (Int.le_of_lt_add_one (show n < 8388607 + 1 by omega)) z0 (by omega); omega⟩
  have q2 : 0 ≤ b * z ∧ b * z ≤ 2139095040 := by rw [← hz]; exact ⟨Int.mul_nonneg b0 z0, by have := Int.mul_le_mul b1 (Int.le_of_lt_add_one (show n < 8388607 + 1 by omega)) z0 (by omega); omega⟩
  rw [hz] at z0 z1
  obtain ⟨q00, q01⟩ := q0
  obtain ⟨q10, q11⟩ := q1
  obtain ⟨q20, q21⟩ := q2
  skip
  go_enter Tryz.func16, Tryz.ntmps16
  go_wp2_with (fail)
  refine (hf _).out.mono ?_
  rintro e w' ⟨rfl, rfl⟩
  go_wp2_with (fail)
  refine wp_loop_rounds 1 ?_
  rw [rounds_succ]
  go_wp2_with (fail)
  go_ret2
  refine ⟨ret_ii ?_ rfl, rfl⟩
  subst hz
  have hA : 16 * n = sizeA n := by have := Hs.out.2; omega
  rw [bytes_quot, Hy.out, Hs.out.1, hA, sizeV_less]
  congr 1
  omega


set_option maxRecDepth 100000 in
set_option maxHeartbeats 4000000 in
theorem rsize_1p (n x : Int) (w : World) (h0 : 8388608 ≤ n) (h1 : n < 16777216) (hx : fixB x = true) (hneg : 0 ≤ x) :
    Calls Tryz.prog 16 #[.int .i64 n, .int .i64 x] w fun e w' => e = .returned (.tuple #[.int .i64 (sizeV n x), .int .i64 0]) ∧ w = w' := by
  have hf := fun w => Lib.hid (rfix_yes x hx w)
  obtain ⟨x0, x1⟩ := fix_yes' hx
  clear hx
  have k1 : decide (n < 1) = false := decide_eq_false (by omega)
  have k2 : decide (134217728 ≤ n) = false := decide_eq_false (by omega)
  have r0 : decide (8388608 ≤ n) = true := decide_eq_true (by omega)
  have r1 : decide (8388608 ≤ n / 2) = false := decide_eq_false (by omega)
  have k4 : decide (x < 0) = false := decide_eq_false (by omega)
  have hs := size_of_bytes (n := n) (z := n / 2) (beta := 8) (y := x) (by omega) (by omega)
  have Hs := Lib.hid hs
  clear hs
  have z0 : 0 ≤ n / 2 := by omega
  have z1 : n / 2 < 8388608 := by omega
  obtain ⟨d, hd⟩ : ∃ d, x % 256 = d := ⟨_, rfl⟩
  obtain ⟨c, hc⟩ : ∃ c, x / 256 % 256 = c := ⟨_, rfl⟩
  obtain ⟨b, hb⟩ : ∃ b, x / 65536 % 256 = b := ⟨_, rfl⟩
  have e0 : bits BinOp.and IntKind.u32 x 255 = d := by rw [and255 _ (by omega) (by omega)]; exact hd
  have e1 : bits BinOp.and IntKind.u32 (x / 256) 255 = c := by rw [and255 _ (by omega) (by omega)]; exact hc
  have e2 : bits BinOp.and IntKind.u32 (x / 65536) 255 = b := by rw [and255 _ (by omega) (by omega)]; exact hb
  have d0 : 0 ≤ d ∧ d ≤ 255 := by omega
  have c0 : 0 ≤ c ∧ c ≤ 255 := by omega
  have b0 : 0 ≤ b ∧ b ≤ 255 := by omega
  have hy : 65536 * b + 256 * c + d = x := by omega
  have Hy := Lib.hid hy
  clear hd hc hb hy
  obtain ⟨d0, d1⟩ := d0
  obtain ⟨c0, c1⟩ := c0
  obtain ⟨b0, b1⟩ := b0
  obtain ⟨z, hz⟩ : ∃ z, n / 2 = z := ⟨_, rfl⟩
  have q0 : 0 ≤ d * z ∧ d * z ≤ 2139095040 := by rw [← hz]; exact ⟨Int.mul_nonneg d0 z0, by have := Int.mul_le_mul d1 (Int.le_of_lt_add_one (show n / 2 < 8388607 + 1 by omega)) z0 (by omega); omega⟩
  have q1 : 0 ≤ c * z ∧ c * z ≤ 2139095040 := by rw [← hz]; exact ⟨Int.mul_nonneg c0 z0, by have := Int.mul_le_mul c1 (Int.le_of_lt_add_one (show n / 2 < 8388607 + 1 by omega)) z0 (by omega); omega⟩
  have q2 : 0 ≤ b * z ∧ b * z ≤ 2139095040 := by rw [← hz]; exact ⟨Int.mul_nonneg b0 z0, by have := Int.mul_le_mul b1 (Int.le_of_lt_add_one (show n / 2 < 8388607 + 1 by omega)) z0 (by omega); omega⟩
  rw [hz] at z0 z1
  obtain ⟨q00, q01⟩ := q0
  obtain ⟨q10, q11⟩ := q1
  obtain ⟨q20, q21⟩ := q2
  skip
  go_enter Tryz.func16, Tryz.ntmps16
  go_wp2_with (fail)
  refine (hf _).out.mono ?_
  rintro e w' ⟨rfl, rfl⟩
  go_wp2_with (fail)
  refine wp_loop_rounds 2 ?_
  rw [rounds_succ]
  go_wp2_with (fail)
  rw [rounds_succ]
  go_wp2_with (fail)
  go_ret2
  refine ⟨ret_ii ?_ rfl, rfl⟩
  rw [bytes_quot, Hy.out, ← hz]
  exact Hs.out.1


set_option maxRecDepth 100000 in
set_option maxHeartbeats 4000000 in
theorem rsize_1n (n x : Int) (w : World) (h0 : 8388608 ≤ n) (h1 : n < 16777216) (hx : fixB x = true) (hneg : x < 0) :
    Calls Tryz.prog 16 #[.int .i64 n, .int .i64 x] w fun e w' => e = .returned (.tuple #[.int .i64 (sizeV n x), .int .i64 0]) ∧ w = w' := by
  have hf := fun w => Lib.hid (rfix_yes x hx w)
  obtain ⟨x0, x1⟩ := fix_yes' hx
  clear hx
  have k1 : decide (n < 1) = false := decide_eq_false (by omega)
  have k2 : decide (134217728 ≤ n) = false := decide_eq_false (by omega)
  have r0 : decide (8388608 ≤ n) = true := decide_eq_true (by omega)
  have r1 : decide (8388608 ≤ n / 2) = false := decide_eq_false (by omega)
  have k4 : decide (x < 0) = true := decide_eq_true (by omega)
  have hs := size_of_bytes (n := n) (z := n / 2) (beta := 8) (y := (x + 16777216)) (by omega) (by omega)
  have Hs := Lib.hid hs
  clear hs
  have z0 : 0 ≤ n / 2 := by omega
  have z1 : n / 2 < 8388608 := by omega
  obtain ⟨d, hd⟩ : ∃ d, (x % 4294967296) % 256 = d := ⟨_, rfl⟩
  obtain ⟨c, hc⟩ : ∃ c, (x % 4294967296) / 256 % 256 = c := ⟨_, rfl⟩
  obtain ⟨b, hb⟩ : ∃ b, (x % 4294967296) / 65536 % 256 = b := ⟨_, rfl⟩
  have e0 : bits BinOp.and IntKind.u32 (x % 4294967296) 255 = d := by rw [and255 _ (by omega) (by omega)]; exact hd
  have e1 : bits BinOp.and IntKind.u32 ((x % 4294967296) / 256) 255 = c := by rw [and255 _ (by omega) (by omega)]; exact hc
  have e2 : bits BinOp.and IntKind.u32 ((x % 4294967296) / 65536) 255 = b := by rw [and255 _ (by omega) (by omega)]; exact hb
  have d0 : 0 ≤ d ∧ d ≤ 255 := by omega
  have c0 : 0 ≤ c ∧ c ≤ 255 := by omega
  have b0 : 0 ≤ b ∧ b ≤ 255 := by omega
  have hy : 65536 * b + 256 * c + d = (x + 16777216) := by omega
  have Hy := Lib.hid hy
  clear hd hc hb hy
  obtain ⟨d0, d1⟩ := d0
  obtain ⟨c0, c1⟩ := c0
  obtain ⟨b0, b1⟩ := b0
  obtain ⟨z, hz⟩ : ∃ z, n / 2 = z := ⟨_, rfl⟩
  have q0 : 0 ≤ d * z ∧ d * z ≤ 2139095040 := by rw [← hz]; exact ⟨Int.mul_nonneg d0 z0, by have := Int.mul_le_mul d1 (Int.le_of_lt_add_one (show n / 2 < 8388607 + 1 by omega)) z0 (by omega); omega⟩
  have q1 : 0 ≤ c * z ∧ c * z ≤ 2139095040 := by rw [← hz]; exact ⟨Int.mul_nonneg c0 z0, by have := Int.mul_le_mul c1 (Int.le_of_lt_add_one (show n / 2 < 8388607 + 1 by omega)) z0 (by omega); omega⟩
  have q2 : 0 ≤ b * z ∧ b * z ≤ 2139095040 := by rw [← hz]; exact ⟨Int.mul_nonneg b0 z0, by have := Int.mul_le_mul b1 (Int.le_of_lt_add_one (show n / 2 < 8388607 + 1 by omega)) z0 (by omega); omega⟩
  rw [hz] at z0 z1
  obtain ⟨q00, q01⟩ := q0
  obtain ⟨q10, q11⟩ := q1
  obtain ⟨q20, q21⟩ := q2
  skip
  go_enter Tryz.func16, Tryz.ntmps16
  go_wp2_with (fail)
  refine (hf _).out.mono ?_
  rintro e w' ⟨rfl, rfl⟩
  go_wp2_with (fail)
  refine wp_loop_rounds 2 ?_
  rw [rounds_succ]
  go_wp2_with (fail)
  rw [rounds_succ]
  go_wp2_with (fail)
  go_ret2
  refine ⟨ret_ii ?_ rfl, rfl⟩
  have hA : 32 * z = sizeA n := by rw [← hz]; have := Hs.out.2; omega
  rw [bytes_quot, Hy.out, ← hz, Hs.out.1, hz, hA, sizeV_less]
  congr 1
  omega


set_option maxRecDepth 100000 in
set_option maxHeartbeats 4000000 in
theorem rsize_2p (n x : Int) (w : World) (h0 : 16777216 ≤ n) (h1 : n < 33554432) (hx : fixB x = true) (hneg : 0 ≤ x) :
    Calls Tryz.prog 16 #[.int .i64 n, .int .i64 x] w fun e w' => e = .returned (.tuple #[.int .i64 (sizeV n x), .int .i64 0]) ∧ w = w' := by
  have hf := fun w => Lib.hid (rfix_yes x hx w)
  obtain ⟨x0, x1⟩ := fix_yes' hx
  clear hx
  have k1 : decide (n < 1) = false := decide_eq_false (by omega)
  have k2 : decide (134217728 ≤ n) = false := decide_eq_false (by omega)
  have r0 : decide (8388608 ≤ n) = true := decide_eq_true (by omega)
  have r1 : decide (8388608 ≤ n / 2) = true := decide_eq_true (by omega)
  have r2 : decide (8388608 ≤ n / 2 / 2) = false := decide_eq_false (by omega)
  have k4 : decide (x < 0) = false := decide_eq_false (by omega)
  have hs := size_of_bytes (n := n) (z := n / 2 / 2) (beta := 4) (y := x) (by omega) (by omega)
  have Hs := Lib.hid hs
  clear hs
  have z0 : 0 ≤ n / 2 / 2 := by omega
  have z1 : n / 2 / 2 < 8388608 := by omega
  obtain ⟨d, hd⟩ : ∃ d, x % 256 = d := ⟨_, rfl⟩
  obtain ⟨c, hc⟩ : ∃ c, x / 256 % 256 = c := ⟨_, rfl⟩
  obtain ⟨b, hb⟩ : ∃ b, x / 65536 % 256 = b := ⟨_, rfl⟩
  have e0 : bits BinOp.and IntKind.u32 x 255 = d := by rw [and255 _ (by omega) (by omega)]; exact hd
  have e1 : bits BinOp.and IntKind.u32 (x / 256) 255 = c := by rw [and255 _ (by omega) (by omega)]; exact hc
  have e2 : bits BinOp.and IntKind.u32 (x / 65536) 255 = b := by rw [and255 _ (by omega) (by omega)]; exact hb
  have d0 : 0 ≤ d ∧ d ≤ 255 := by omega
  have c0 : 0 ≤ c ∧ c ≤ 255 := by omega
  have b0 : 0 ≤ b ∧ b ≤ 255 := by omega
  have hy : 65536 * b + 256 * c + d = x := by omega
  have Hy := Lib.hid hy
  clear hd hc hb hy
  obtain ⟨d0, d1⟩ := d0
  obtain ⟨c0, c1⟩ := c0
  obtain ⟨b0, b1⟩ := b0
  obtain ⟨z, hz⟩ : ∃ z, n / 2 / 2 = z := ⟨_, rfl⟩
  have q0 : 0 ≤ d * z ∧ d * z ≤ 2139095040 := by rw [← hz]; exact ⟨Int.mul_nonneg d0 z0, by have := Int.mul_le_mul d1 (Int.le_of_lt_add_one (show n / 2 / 2 < 8388607 + 1 by omega)) z0 (by omega); omega⟩
  have q1 : 0 ≤ c * z ∧ c * z ≤ 2139095040 := by rw [← hz]; exact ⟨Int.mul_nonneg c0 z0, by have := Int.mul_le_mul c1 (Int.le_of_lt_add_one (show n / 2 / 2 < 8388607 + 1 by omega)) z0 (by omega); omega⟩
  have q2 : 0 ≤ b * z ∧ b * z ≤ 2139095040 := by rw [← hz]; exact ⟨Int.mul_nonneg b0 z0, by have := Int.mul_le_mul b1 (Int.le_of_lt_add_one (show n / 2 / 2 < 8388607 + 1 by omega)) z0 (by omega); omega⟩
  rw [hz] at z0 z1
  obtain ⟨q00, q01⟩ := q0
  obtain ⟨q10, q11⟩ := q1
  obtain ⟨q20, q21⟩ := q2
  skip
  go_enter Tryz.func16, Tryz.ntmps16
  go_wp2_with (fail)
  refine (hf _).out.mono ?_
  rintro e w' ⟨rfl, rfl⟩
  go_wp2_with (fail)
  refine wp_loop_rounds 3 ?_
  rw [rounds_succ]
  go_wp2_with (fail)
  rw [rounds_succ]
  go_wp2_with (fail)
  rw [rounds_succ]
  go_wp2_with (fail)
  go_ret2
  refine ⟨ret_ii ?_ rfl, rfl⟩
  rw [bytes_quot, Hy.out, ← hz]
  exact Hs.out.1


set_option maxRecDepth 100000 in
set_option maxHeartbeats 4000000 in
theorem rsize_2n (n x : Int) (w : World) (h0 : 16777216 ≤ n) (h1 : n < 33554432) (hx : fixB x = true) (hneg : x < 0) :
    Calls Tryz.prog 16 #[.int .i64 n, .int .i64 x] w fun e w' => e = .returned (.tuple #[.int .i64 (sizeV n x), .int .i64 0]) ∧ w = w' := by
  have hf := fun w => Lib.hid (rfix_yes x hx w)
  obtain ⟨x0, x1⟩ := fix_yes' hx
  clear hx
  have k1 : decide (n < 1) = false := decide_eq_false (by omega)
  have k2 : decide (134217728 ≤ n) = false := decide_eq_false (by omega)
  have r0 : decide (8388608 ≤ n) = true := decide_eq_true (by omega)
  have r1 : decide (8388608 ≤ n / 2) = true := decide_eq_true (by omega)
  have r2 : decide (8388608 ≤ n / 2 / 2) = false := decide_eq_false (by omega)
  have k4 : decide (x < 0) = true := decide_eq_true (by omega)
  have hs := size_of_bytes (n := n) (z := n / 2 / 2) (beta := 4) (y := (x + 16777216)) (by omega) (by omega)
  have Hs := Lib.hid hs
  clear hs
  have z0 : 0 ≤ n / 2 / 2 := by omega
  have z1 : n / 2 / 2 < 8388608 := by omega
  obtain ⟨d, hd⟩ : ∃ d, (x % 4294967296) % 256 = d := ⟨_, rfl⟩
  obtain ⟨c, hc⟩ : ∃ c, (x % 4294967296) / 256 % 256 = c := ⟨_, rfl⟩
  obtain ⟨b, hb⟩ : ∃ b, (x % 4294967296) / 65536 % 256 = b := ⟨_, rfl⟩
  have e0 : bits BinOp.and IntKind.u32 (x % 4294967296) 255 = d := by rw [and255 _ (by omega) (by omega)]; exact hd
  have e1 : bits BinOp.and IntKind.u32 ((x % 4294967296) / 256) 255 = c := by rw [and255 _ (by omega) (by omega)]; exact hc
  have e2 : bits BinOp.and IntKind.u32 ((x % 4294967296) / 65536) 255 = b := by rw [and255 _ (by omega) (by omega)]; exact hb
  have d0 : 0 ≤ d ∧ d ≤ 255 := by omega
  have c0 : 0 ≤ c ∧ c ≤ 255 := by omega
  have b0 : 0 ≤ b ∧ b ≤ 255 := by omega
  have hy : 65536 * b + 256 * c + d = (x + 16777216) := by omega
  have Hy := Lib.hid hy
  clear hd hc hb hy
  obtain ⟨d0, d1⟩ := d0
  obtain ⟨c0, c1⟩ := c0
  obtain ⟨b0, b1⟩ := b0
  obtain ⟨z, hz⟩ : ∃ z, n / 2 / 2 = z := ⟨_, rfl⟩
  have q0 : 0 ≤ d * z ∧ d * z ≤ 2139095040 := by rw [← hz]; exact ⟨Int.mul_nonneg d0 z0, by have := Int.mul_le_mul d1 (Int.le_of_lt_add_one (show n / 2 / 2 < 8388607 + 1 by omega)) z0 (by omega); omega⟩
  have q1 : 0 ≤ c * z ∧ c * z ≤ 2139095040 := by rw [← hz]; exact ⟨Int.mul_nonneg c0 z0, by have := Int.mul_le_mul c1 (Int.le_of_lt_add_one (show n / 2 / 2 < 8388607 + 1 by omega)) z0 (by omega); omega⟩
  have q2 : 0 ≤ b * z ∧ b * z ≤ 2139095040 := by rw [← hz]; exact ⟨Int.mul_nonneg b0 z0, by have := Int.mul_le_mul b1 (Int.le_of_lt_add_one (show n / 2 / 2 < 8388607 + 1 by omega)) z0 (by omega); omega⟩
  rw [hz] at z0 z1
  obtain ⟨q00, q01⟩ := q0
  obtain ⟨q10, q11⟩ := q1
  obtain ⟨q20, q21⟩ := q2
  skip
  go_enter Tryz.func16, Tryz.ntmps16
  go_wp2_with (fail)
  refine (hf _).out.mono ?_
  rintro e w' ⟨rfl, rfl⟩
  go_wp2_with (fail)
  refine wp_loop_rounds 3 ?_
  rw [rounds_succ]
  go_wp2_with (fail)
  rw [rounds_succ]
  go_wp2_with (fail)
  rw [rounds_succ]
  go_wp2_with (fail)
  go_ret2
  refine ⟨ret_ii ?_ rfl, rfl⟩
  have hA : 64 * z = sizeA n := by rw [← hz]; have := Hs.out.2; omega
  rw [bytes_quot, Hy.out, ← hz, Hs.out.1, hz, hA, sizeV_less]
  congr 1
  omega


set_option maxRecDepth 100000 in
set_option maxHeartbeats 4000000 in
theorem rsize_3p (n x : Int) (w : World) (h0 : 33554432 ≤ n) (h1 : n < 67108864) (hx : fixB x = true) (hneg : 0 ≤ x) :
    Calls Tryz.prog 16 #[.int .i64 n, .int .i64 x] w fun e w' => e = .returned (.tuple #[.int .i64 (sizeV n x), .int .i64 0]) ∧ w = w' := by
  have hf := fun w => Lib.hid (rfix_yes x hx w)
  obtain ⟨x0, x1⟩ := fix_yes' hx
  clear hx
  have k1 : decide (n < 1) = false := decide_eq_false (by omega)
  have k2 : decide (134217728 ≤ n) = false := decide_eq_false (by omega)
  have r0 : decide (8388608 ≤ n) = true := decide_eq_true (by omega)
  have r1 : decide (8388608 ≤ n / 2) = true := decide_eq_true (by omega)
  have r2 : decide (8388608 ≤ n / 2 / 2) = true := decide_eq_true (by omega)
  have r3 : decide (8388608 ≤ n / 2 / 2 / 2) = false := decide_eq_false (by omega)
  have k4 : decide (x < 0) = false := decide_eq_false (by omega)
  have hs := size_of_bytes (n := n) (z := n / 2 / 2 / 2) (beta := 2) (y := x) (by omega) (by omega)
  have Hs := Lib.hid hs
  clear hs
  have z0 : 0 ≤ n / 2 / 2 / 2 := by omega
  have z1 : n / 2 / 2 / 2 < 8388608 := by omega
  obtain ⟨d, hd⟩ : ∃ d, x % 256 = d := ⟨_, rfl⟩
  obtain ⟨c, hc⟩ : ∃ c, x / 256 % 256 = c := ⟨_, rfl⟩
  obtain ⟨b, hb⟩ : ∃ b, x / 65536 % 256 = b := ⟨_, rfl⟩
  have e0 : bits BinOp.and IntKind.u32 x 255 = d := by rw [and255 _ (by omega) (by omega)]; exact hd
  have e1 : bits BinOp.and IntKind.u32 (x / 256) 255 = c := by rw [and255 _ (by omega) (by omega)]; exact hc
  have e2 : bits BinOp.and IntKind.u32 (x / 65536) 255 = b := by rw [and255 _ (by omega) (by omega)]; exact hb
  have d0 : 0 ≤ d ∧ d ≤ 255 := by omega
  have c0 : 0 ≤ c ∧ c ≤ 255 := by omega
  have b0 : 0 ≤ b ∧ b ≤ 255 := by omega
  have hy : 65536 * b + 256 * c + d = x := by omega
  have Hy := Lib.hid hy
  clear hd hc hb hy
  obtain ⟨d0, d1⟩ := d0
  obtain ⟨c0, c1⟩ := c0
  obtain ⟨b0, b1⟩ := b0
  obtain ⟨z, hz⟩ : ∃ z, n / 2 / 2 / 2 = z := ⟨_, rfl⟩
  have q0 : 0 ≤ d * z ∧ d * z ≤ 2139095040 := by rw [← hz]; exact ⟨Int.mul_nonneg d0 z0, by have := Int.mul_le_mul d1 (Int.le_of_lt_add_one (show n / 2 / 2 / 2 < 8388607 + 1 by omega)) z0 (by omega); omega⟩
  have q1 : 0 ≤ c * z ∧ c * z ≤ 2139095040 := by rw [← hz]; exact ⟨Int.mul_nonneg c0 z0, by have := Int.mul_le_mul c1 (Int.le_of_lt_add_one (show n / 2 / 2 / 2 < 8388607 + 1 by omega)) z0 (by omega); omega⟩
  have q2 : 0 ≤ b * z ∧ b * z ≤ 2139095040 := by rw [← hz]; exact ⟨Int.mul_nonneg b0 z0, by have := Int.mul_le_mul b1 (Int.le_of_lt_add_one (show n / 2 / 2 / 2 < 8388607 + 1 by omega)) z0 (by omega); omega⟩
  rw [hz] at z0 z1
  obtain ⟨q00, q01⟩ := q0
  obtain ⟨q10, q11⟩ := q1
  obtain ⟨q20, q21⟩ := q2
  skip
  go_enter Tryz.func16, Tryz.ntmps16
  go_wp2_with (fail)
  refine (hf _).out.mono ?_
  rintro e w' ⟨rfl, rfl⟩
  go_wp2_with (fail)
  refine wp_loop_rounds 4 ?_
  rw [rounds_succ]
  go_wp2_with (fail)
  rw [rounds_succ]
  go_wp2_with (fail)
  rw [rounds_succ]
  go_wp2_with (fail)
  rw [rounds_succ]
  go_wp2_with (fail)
  go_ret2
  refine ⟨ret_ii ?_ rfl, rfl⟩
  rw [bytes_quot, Hy.out, ← hz]
  exact Hs.out.1


set_option maxRecDepth 100000 in
set_option maxHeartbeats 4000000 in
theorem rsize_3n (n x : Int) (w : World) (h0 : 33554432 ≤ n) (h1 : n < 67108864) (hx : fixB x = true) (hneg : x < 0) :
    Calls Tryz.prog 16 #[.int .i64 n, .int .i64 x] w fun e w' => e = .returned (.tuple #[.int .i64 (sizeV n x), .int .i64 0]) ∧ w = w' := by
  have hf := fun w => Lib.hid (rfix_yes x hx w)
  obtain ⟨x0, x1⟩ := fix_yes' hx
  clear hx
  have k1 : decide (n < 1) = false := decide_eq_false (by omega)
  have k2 : decide (134217728 ≤ n) = false := decide_eq_false (by omega)
  have r0 : decide (8388608 ≤ n) = true := decide_eq_true (by omega)
  have r1 : decide (8388608 ≤ n / 2) = true := decide_eq_true (by omega)
  have r2 : decide (8388608 ≤ n / 2 / 2) = true := decide_eq_true (by omega)
  have r3 : decide (8388608 ≤ n / 2 / 2 / 2) = false := decide_eq_false (by omega)
  have k4 : decide (x < 0) = true := decide_eq_true (by omega)
  have hs := size_of_bytes (n := n) (z := n / 2 / 2 / 2) (beta := 2) (y := (x + 16777216)) (by omega) (by omega)
  have Hs := Lib.hid hs
  clear hs
  have z0 : 0 ≤ n / 2 / 2 / 2 := by omega
  have z1 : n / 2 / 2 / 2 < 8388608 := by omega
  obtain ⟨d, hd⟩ : ∃ d, (x % 4294967296) % 256 = d := ⟨_, rfl⟩
  obtain ⟨c, hc⟩ : ∃ c, (x % 4294967296) / 256 % 256 = c := ⟨_, rfl⟩
  obtain ⟨b, hb⟩ : ∃ b, (x % 4294967296) / 65536 % 256 = b := ⟨_, rfl⟩
  have e0 : bits BinOp.and IntKind.u32 (x % 4294967296) 255 = d := by rw [and255 _ (by omega) (by omega)]; exact hd
  have e1 : bits BinOp.and IntKind.u32 ((x % 4294967296) / 256) 255 = c := by rw [and255 _ (by omega) (by omega)]; exact hc
  have e2 : bits BinOp.and IntKind.u32 ((x % 4294967296) / 65536) 255 = b := by rw [and255 _ (by omega) (by omega)]; exact hb
  have d0 : 0 ≤ d ∧ d ≤ 255 := by omega
  have c0 : 0 ≤ c ∧ c ≤ 255 := by omega
  have b0 : 0 ≤ b ∧ b ≤ 255 := by omega
  have hy : 65536 * b + 256 * c + d = (x + 16777216) := by omega
  have Hy := Lib.hid hy
  clear hd hc hb hy
  obtain ⟨d0, d1⟩ := d0
  obtain ⟨c0, c1⟩ := c0
  obtain ⟨b0, b1⟩ := b0
  obtain ⟨z, hz⟩ : ∃ z, n / 2 / 2 / 2 = z := ⟨_, rfl⟩
  have q0 : 0 ≤ d * z ∧ d * z ≤ 2139095040 := by rw [← hz]; exact ⟨Int.mul_nonneg d0 z0, by have := Int.mul_le_mul d1 (Int.le_of_lt_add_one (show n / 2 / 2 / 2 < 8388607 + 1 by omega)) z0 (by omega); omega⟩
  have q1 : 0 ≤ c * z ∧ c * z ≤ 2139095040 := by rw [← hz]; exact ⟨Int.mul_nonneg c0 z0, by have := Int.mul_le_mul c1 (Int.le_of_lt_add_one (show n / 2 / 2 / 2 < 8388607 + 1 by omega)) z0 (by omega); omega⟩
  have q2 : 0 ≤ b * z ∧ b * z ≤ 2139095040 := by rw [← hz]; exact ⟨Int.mul_nonneg b0 z0, by have := Int.mul_le_mul b1 (Int.le_of_lt_add_one (show n / 2 / 2 / 2 < 8388607 + 1 by omega)) z0 (by omega); omega⟩
  rw [hz] at z0 z1
  obtain ⟨q00, q01⟩ := q0
  obtain ⟨q10, q11⟩ := q1
  obtain ⟨q20, q21⟩ := q2
  skip
  go_enter Tryz.func16, Tryz.ntmps16
  go_wp2_with (fail)
  refine (hf _).out.mono ?_
  rintro e w' ⟨rfl, rfl⟩
  go_wp2_with (fail)
  refine wp_loop_rounds 4 ?_
  rw [rounds_succ]
  go_wp2_with (fail)
  rw [rounds_succ]
  go_wp2_with (fail)
  rw [rounds_succ]
  go_wp2_with (fail)
  rw [rounds_succ]
  go_wp2_with (fail)
  go_ret2
  refine ⟨ret_ii ?_ rfl, rfl⟩
  have hA : 128 * z = sizeA n := by rw [← hz]; have := Hs.out.2; omega
  rw [bytes_quot, Hy.out, ← hz, Hs.out.1, hz, hA, sizeV_less]
  congr 1
  omega


set_option maxRecDepth 100000 in
set_option maxHeartbeats 4000000 in
theorem rsize_4p (n x : Int) (w : World) (h0 : 67108864 ≤ n) (h1 : n < 134217728) (hx : fixB x = true) (hneg : 0 ≤ x) :
    Calls Tryz.prog 16 #[.int .i64 n, .int .i64 x] w fun e w' => e = .returned (.tuple #[.int .i64 (sizeV n x), .int .i64 0]) ∧ w = w' := by
  have hf := fun w => Lib.hid (rfix_yes x hx w)
  obtain ⟨x0, x1⟩ := fix_yes' hx
  clear hx
  have k1 : decide (n < 1) = false := decide_eq_false (by omega)
  have k2 : decide (134217728 ≤ n) = false := decide_eq_false (by omega)
  have r0 : decide (8388608 ≤ n) = true := decide_eq_true (by omega)
  have r1 : decide (8388608 ≤ n / 2) = true := decide_eq_true (by omega)
  have r2 : decide (8388608 ≤ n / 2 / 2) = true := decide_eq_true (by omega)
  have r3 : decide (8388608 ≤ n / 2 / 2 / 2) = true := decide_eq_true (by omega)
  have r4 : decide (8388608 ≤ n / 2 / 2 / 2 / 2) = false := decide_eq_false (by omega)
  have k4 : decide (x < 0) = false := decide_eq_false (by omega)
  have hs := size_of_bytes (n := n) (z := n / 2 / 2 / 2 / 2) (beta := 1) (y := x) (by omega) (by omega)
  rw [Int.ediv_one] at hs
  have Hs := Lib.hid hs
  clear hs
  have z0 : 0 ≤ n / 2 / 2 / 2 / 2 := by omega
  have z1 : n / 2 / 2 / 2 / 2 < 8388608 := by omega
  obtain ⟨d, hd⟩ : ∃ d, x % 256 = d := ⟨_, rfl⟩
  obtain ⟨c, hc⟩ : ∃ c, x / 256 % 256 = c := ⟨_, rfl⟩
  obtain ⟨b, hb⟩ : ∃ b, x / 65536 % 256 = b := ⟨_, rfl⟩
  have e0 : bits BinOp.and IntKind.u32 x 255 = d := by rw [and255 _ (by omega) (by omega)]; exact hd
  have e1 : bits BinOp.and IntKind.u32 (x / 256) 255 = c := by rw [and255 _ (by omega) (by omega)]; exact hc
  have e2 : bits BinOp.and IntKind.u32 (x / 65536) 255 = b := by rw [and255 _ (by omega) (by omega)]; exact hb
  have d0 : 0 ≤ d ∧ d ≤ 255 := by omega
  have c0 : 0 ≤ c ∧ c ≤ 255 := by omega
  have b0 : 0 ≤ b ∧ b ≤ 255 := by omega
  have hy : 65536 * b + 256 * c + d = x := by omega
  have Hy := Lib.hid hy
  clear hd hc hb hy
  obtain ⟨d0, d1⟩ := d0
  obtain ⟨c0, c1⟩ := c0
  obtain ⟨b0, b1⟩ := b0
  obtain ⟨z, hz⟩ : ∃ z, n / 2 / 2 / 2 / 2 = z := ⟨_, rfl⟩
  have q0 : 0 ≤ d * z ∧ d * z ≤ 2139095040 := by rw [← hz]; exact ⟨Int.mul_nonneg d0 z0, by have := Int.mul_le_mul d1 (Int.le_of_lt_add_one (show n / 2 / 2 / 2 / 2 < 8388607 + 1 by omega)) z0 (by omega); omega⟩
  have q1 : 0 ≤ c * z ∧ c * z ≤ 2139095040 := by rw [← hz]; exact ⟨Int.mul_nonneg c0 z0, by have := Int.mul_le_mul c1 (Int.le_of_lt_add_one (show n / 2 / 2 / 2 / 2 < 8388607 + 1 by omega)) z0 (by omega); omega⟩
  have q2 : 0 ≤ b * z ∧ b * z ≤ 2139095040 := by rw [← hz]; exact ⟨Int.mul_nonneg b0 z0, by have := Int.mul_le_mul b1 (Int.le_of_lt_add_one (show n / 2 / 2 / 2 / 2 < 8388607 + 1 by omega)) z0 (by omega); omega⟩
  rw [hz] at z0 z1
  obtain ⟨q00, q01⟩ := q0
  obtain ⟨q10, q11⟩ := q1
  obtain ⟨q20, q21⟩ := q2
  skip
  go_enter Tryz.func16, Tryz.ntmps16
  go_wp2_with (fail)
  refine (hf _).out.mono ?_
  rintro e w' ⟨rfl, rfl⟩
  go_wp2_with (fail)
  refine wp_loop_rounds 5 ?_
  rw [rounds_succ]
  go_wp2_with (fail)
  rw [rounds_succ]
  go_wp2_with (fail)
  rw [rounds_succ]
  go_wp2_with (fail)
  rw [rounds_succ]
  go_wp2_with (fail)
  rw [rounds_succ]
  go_wp2_with (fail)
  go_ret2
  refine ⟨ret_ii ?_ rfl, rfl⟩
  rw [bytes_quot, Hy.out, ← hz]
  exact Hs.out.1


set_option maxRecDepth 100000 in
set_option maxHeartbeats 4000000 in
theorem rsize_4n (n x : Int) (w : World) (h0 : 67108864 ≤ n) (h1 : n < 134217728) (hx : fixB x = true) (hneg : x < 0) :
    Calls Tryz.prog 16 #[.int .i64 n, .int .i64 x] w fun e w' => e = .returned (.tuple #[.int .i64 (sizeV n x), .int .i64 0]) ∧ w = w' := by
  have hf := fun w => Lib.hid (rfix_yes x hx w)
  obtain ⟨x0, x1⟩ := fix_yes' hx
  clear hx
  have k1 : decide (n < 1) = false := decide_eq_false (by omega)
  have k2 : decide (134217728 ≤ n) = false := decide_eq_false (by omega)
  have r0 : decide (8388608 ≤ n) = true := decide_eq_true (by omega)
  have r1 : decide (8388608 ≤ n / 2) = true := decide_eq_true (by omega)
  have r2 : decide (8388608 ≤ n / 2 / 2) = true := decide_eq_true (by omega)
  have r3 : decide (8388608 ≤ n / 2 / 2 / 2) = true := decide_eq_true (by omega)
  have r4 : decide (8388608 ≤ n / 2 / 2 / 2 / 2) = false := decide_eq_false (by omega)
  have k4 : decide (x < 0) = true := decide_eq_true (by omega)
  have hs := size_of_bytes (n := n) (z := n / 2 / 2 / 2 / 2) (beta := 1) (y := (x + 16777216)) (by omega) (by omega)
  rw [Int.ediv_one] at hs
  have Hs := Lib.hid hs
  clear hs
  have z0 : 0 ≤ n / 2 / 2 / 2 / 2 := by omega
  have z1 : n / 2 / 2 / 2 / 2 < 8388608 := by omega
  obtain ⟨d, hd⟩ : ∃ d, (x % 4294967296) % 256 = d := ⟨_, rfl⟩
  obtain ⟨c, hc⟩ : ∃ c, (x % 4294967296) / 256 % 256 = c := ⟨_, rfl⟩
  obtain ⟨b, hb⟩ : ∃ b, (x % 4294967296) / 65536 % 256 = b := ⟨_, rfl⟩
  have e0 : bits BinOp.and IntKind.u32 (x % 4294967296) 255 = d := by rw [and255 _ (by omega) (by omega)]; exact hd
  have e1 : bits BinOp.and IntKind.u32 ((x % 4294967296) / 256) 255 = c := by rw [and255 _ (by omega) (by omega)]; exact hc
  have e2 : bits BinOp.and IntKind.u32 ((x % 4294967296) / 65536) 255 = b := by rw [and255 _ (by omega) (by omega)]; exact hb
  have d0 : 0 ≤ d ∧ d ≤ 255 := by omega
  have c0 : 0 ≤ c ∧ c ≤ 255 := by omega
  have b0 : 0 ≤ b ∧ b ≤ 255 := by omega
  have hy : 65536 * b + 256 * c + d = (x + 16777216) := by omega
  have Hy := Lib.hid hy
  clear hd hc hb hy
  obtain ⟨d0, d1⟩ := d0
  obtain ⟨c0, c1⟩ := c0
  obtain ⟨b0, b1⟩ := b0
  obtain ⟨z, hz⟩ : ∃ z, n / 2 / 2 / 2 / 2 = z := ⟨_, rfl⟩
  have q0 : 0 ≤ d * z ∧ d * z ≤ 2139095040 := by rw [← hz]; exact ⟨Int.mul_nonneg d0 z0, by have := Int.mul_le_mul d1 (Int.le_of_lt_add_one (show n / 2 / 2 / 2 / 2 < 8388607 + 1 by omega)) z0 (by omega); omega⟩
  have q1 : 0 ≤ c * z ∧ c * z ≤ 2139095040 := by rw [← hz]; exact ⟨Int.mul_nonneg c0 z0, by have := Int.mul_le_mul c1 (Int.le_of_lt_add_one (show n / 2 / 2 / 2 / 2 < 8388607 + 1 by omega)) z0 (by omega); omega⟩
  have q2 : 0 ≤ b * z ∧ b * z ≤ 2139095040 := by rw [← hz]; exact ⟨Int.mul_nonneg b0 z0, by have := Int.mul_le_mul b1 (Int.le_of_lt_add_one (show n / 2 / 2 / 2 / 2 < 8388607 + 1 by omega)) z0 (by omega); omega⟩
  rw [hz] at z0 z1
  obtain ⟨q00, q01⟩ := q0
  obtain ⟨q10, q11⟩ := q1
  obtain ⟨q20, q21⟩ := q2
  skip
  go_enter Tryz.func16, Tryz.ntmps16
  go_wp2_with (fail)
  refine (hf _).out.mono ?_
  rintro e w' ⟨rfl, rfl⟩
  go_wp2_with (fail)
  refine wp_loop_rounds 5 ?_
  rw [rounds_succ]
  go_wp2_with (fail)
  rw [rounds_succ]
  go_wp2_with (fail)
  rw [rounds_succ]
  go_wp2_with (fail)
  rw [rounds_succ]
  go_wp2_with (fail)
  rw [rounds_succ]
  go_wp2_with (fail)
  go_ret2
  refine ⟨ret_ii ?_ rfl, rfl⟩
  have hA : 256 * z = sizeA n := by rw [← hz]; have := Hs.out.2; omega
  rw [bytes_quot, Hy.out, ← hz, Hs.out.1, hz, hA, sizeV_less]
  congr 1
  omega


set_option maxHeartbeats 1000000 in
theorem rsize_lo (n x : Int) (w : World) (h0 : n < 1) :
    Calls Tryz.prog 16 #[.int .i64 n, .int .i64 x] w fun e w' => e = .returned (.tuple #[.int .i64 0, .int .i64 11]) ∧ w = w' := by
  have k1 : decide (n < 1) = true := decide_eq_true h0
  go_enter Tryz.func16, Tryz.ntmps16
  go_wp2
  go_ret2
  exact ⟨rfl, rfl⟩
set_option maxHeartbeats 1000000 in
theorem rsize_hi (n x : Int) (w : World) (_h0 : 1 ≤ n) (h1 : 134217728 ≤ n) :
    Calls Tryz.prog 16 #[.int .i64 n, .int .i64 x] w fun e w' => e = .returned (.tuple #[.int .i64 0, .int .i64 11]) ∧ w = w' := by
  have k1 : decide (n < 1) = false := decide_eq_false (by omega)
  have k2 : decide (134217728 ≤ n) = true := decide_eq_true h1
  go_enter Tryz.func16, Tryz.ntmps16
  go_wp2
  go_ret2
  exact ⟨rfl, rfl⟩
set_option maxHeartbeats 1000000 in
theorem rsize_no (n x : Int) (w : World) (h0 : 1 ≤ n) (h1 : n < 134217728) (hx : fixB x = false) :
    Calls Tryz.prog 16 #[.int .i64 n, .int .i64 x] w fun e w' => e = .returned (.tuple #[.int .i64 0, .int .i64 11]) ∧ w = w' := by
  have k1 : decide (n < 1) = false := decide_eq_false (by omega)
  have k2 : decide (134217728 ≤ n) = false := decide_eq_false (by omega)
  have hf := fun w => Lib.hid (rfix_no x hx w)
  clear hx
  go_enter Tryz.func16, Tryz.ntmps16
  go_wp2_with (fail)
  refine (hf _).out.mono ?_
  rintro e w' ⟨rfl, rfl⟩
  go_wp2_with (fail)
  go_ret2
  exact ⟨rfl, rfl⟩
theorem rsize_any (n x : Int) (w : World) :
    Calls Tryz.prog 16 #[.int .i64 n, .int .i64 x] w fun e w' => e = .returned (.tuple #[.int .i64 (sizeR n x), .int .i64 (sizeE n x)]) ∧ w = w' := by
  have no : sizeOk n x = false → sizeR n x = 0 ∧ sizeE n x = 11 := fun h => by simp [sizeR, sizeE, h]
  by_cases h0 : n < 1
  · obtain ⟨e1, e2⟩ := no (by simp [sizeOk]; omega)
    rw [e1, e2]; exact rsize_lo n x w h0
  · by_cases h1 : 134217728 ≤ n
    · obtain ⟨e1, e2⟩ := no (by simp [sizeOk]; omega)
      rw [e1, e2]; exact rsize_hi n x w (by omega) h1
    · cases hx : fixB x
      · obtain ⟨e1, e2⟩ := no (by simp [sizeOk, hx])
        rw [e1, e2]; exact rsize_no n x w (by omega) (by omega) hx
      · have hk : sizeOk n x = true := by simp [sizeOk, hx]; omega
        have e1 : sizeR n x = sizeV n x := by simp [sizeR, hk]
        have e2 : sizeE n x = 0 := by simp [sizeE, hk]
        rw [e1, e2]
        rcases Int.lt_or_le x 0 with hs | hs
        · rcases (show n < 8388608 ∨ (8388608 ≤ n ∧ n < 16777216) ∨ (16777216 ≤ n ∧ n < 33554432) ∨ (33554432 ≤ n ∧ n < 67108864) ∨ 67108864 ≤ n by omega) with h | h | h | h | h
          · exact rsize_0n n x w (by omega) h hx hs
          · exact rsize_1n n x w h.1 h.2 hx hs
          · exact rsize_2n n x w h.1 h.2 hx hs
          · exact rsize_3n n x w h.1 h.2 hx hs
          · exact rsize_4n n x w h (by omega) hx hs
        · rcases (show n < 8388608 ∨ (8388608 ≤ n ∧ n < 16777216) ∨ (16777216 ≤ n ∧ n < 33554432) ∨ (33554432 ≤ n ∧ n < 67108864) ∨ 67108864 ≤ n by omega) with h | h | h | h | h
          · exact rsize_0p n x w (by omega) h hx hs
          · exact rsize_1p n x w h.1 h.2 hx hs
          · exact rsize_2p n x w h.1 h.2 hx hs
          · exact rsize_3p n x w h.1 h.2 hx hs
          · exact rsize_4p n x w h (by omega) hx hs

end Go.Proofs.YtdhidpbenhmfgaaGreat
