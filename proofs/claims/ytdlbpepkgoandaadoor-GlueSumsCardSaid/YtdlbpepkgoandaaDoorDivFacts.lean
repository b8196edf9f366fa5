/- What the words of Div64 come to before its loops: the divisor moved up, the dividend cut in three. -/
import Derived.Test.YtdlbpepkgoandaaDoorBase
import Derived.Test.YtdlbpepkgoandaaDoorDivMath
import Derived.Laws.Bits64b
import Derived.Lib.ItoaNum
namespace Go.Proofs.YtdlbpepkgoandaaDoor.DivM
open Go

theorem len_facts {y : Nat} (h0 : 0 < y) (h : y < 18446744073709551616) : ∃ s : Nat, (64 - (Lib.bitLen y : Int)) = (s : Int) ∧ s ≤ 63 ∧ y * 2 ^ s < 18446744073709551616 ∧ 9223372036854775808 ≤ y * 2 ^ s := by
  obtain ⟨c, b, a⟩ := Lib.bitLenAux_bounds 64 y h (by omega)
  have hb : Lib.bitLen y = Lib.bitLenAux 64 y := rfl
  rw [hb]
  generalize Lib.bitLenAux 64 y = n at *
  have hl : n ≤ 64 := by
    rcases Nat.lt_or_ge 64 (n) with hc | hc
    · have h1 : 2 ^ 64 ≤ 2 ^ (n - 1) := Nat.pow_le_pow_right (by omega) (by omega)
      omega
    · exact hc
  have hl1 : 1 ≤ n := by
    rcases Nat.eq_zero_or_pos (n) with hc | hc
    · rw [hc] at a; omega
    · exact hc
  refine ⟨64 - n, by omega, by omega, ?_, ?_⟩
  · have e : (2 : Nat) ^ n * 2 ^ (64 - n) = 18446744073709551616 := by rw [← Nat.pow_add, show n + (64 - n) = 64 by omega]
    have := Nat.mul_lt_mul_of_pos_right a (Nat.two_pow_pos (64 - n))
    omega
  · have e : (2 : Nat) ^ (n - 1) * 2 ^ (64 - n) = 9223372036854775808 := by rw [← Nat.pow_add, show n - 1 + (64 - n) = 63 by omega]
    have := Nat.mul_le_mul_right (2 ^ (64 - n)) b
    omega

theorem mask_u64 {x : Nat} (h : x < 18446744073709551616) : bits .and .u64 (x : Int) 4294967295 = ((x % 4294967296 : Nat) : Int) := by
  have h1 := bits_and_u64_nat x 4294967295 h (by decide)
  rw [show x &&& 4294967295 = x % 4294967296 from Nat.and_two_pow_sub_one_eq_mod x 32] at h1
  exact h1

theorem pow_cast (s : Nat) : ((2 : Int) ^ s) = ((2 ^ s : Nat) : Int) := by rw [Int.natCast_pow]; rfl

theorem wrap_nat {x : Nat} : IntKind.u64.wrap (x : Int) = ((x % 18446744073709551616 : Nat) : Int) := by
  rw [IntKind.wrap_u64]; rfl

theorem cut {hi lo y s : Nat} (hlo : lo < 18446744073709551616) (hy0 : hi < y) (hs : s ≤ 63) (h1 : y * 2 ^ s < 18446744073709551616) (h2 : 9223372036854775808 ≤ y * 2 ^ s) :
    ∃ Y a b U V v1 v0 : Nat, IntKind.u64.wrap ((y : Int) * 2 ^ s) = (Y : Int) ∧ Y = y * 2 ^ s ∧ Y < 18446744073709551616 ∧
      ((Y : Int) / 4294967296) = (a : Int) ∧ 2147483648 ≤ a ∧ bits .and .u64 (Y : Int) 4294967295 = (b : Int) ∧ b < 4294967296 ∧ Y = a * 4294967296 + b ∧ a < 4294967296 ∧
      bits .or .u64 (IntKind.u64.wrap ((hi : Int) * 2 ^ s)) ((lo : Int) / 2 ^ (64 - s)) = (U : Int) ∧ U < Y ∧
      IntKind.u64.wrap ((lo : Int) * 2 ^ s) = (V : Int) ∧ ((V : Int) / 4294967296) = (v1 : Int) ∧ v1 < 4294967296 ∧ bits .and .u64 (V : Int) 4294967295 = (v0 : Int) ∧ v0 < 4294967296 ∧
      (hi * 18446744073709551616 + lo) * 2 ^ s = (U * 4294967296 + v1) * 4294967296 + v0 := by
  have e64 : (2 : Nat) ^ (64 - s) * 2 ^ s = 18446744073709551616 := by rw [← Nat.pow_add, show 64 - s + s = 64 by omega]
  have hL : lo / 2 ^ (64 - s) < 2 ^ s := by
    rw [Nat.div_lt_iff_lt_mul (Nat.two_pow_pos _), Nat.mul_comm, e64]; exact hlo
  have hH : hi * 2 ^ s + 2 ^ s ≤ y * 2 ^ s := by rw [← Nat.succ_mul]; exact Nat.mul_le_mul_right _ hy0
  have hV : lo * 2 ^ s / 18446744073709551616 = lo / 2 ^ (64 - s) := by rw [← e64, Nat.mul_div_mul_right _ _ (Nat.two_pow_pos _)]
  have eV := Nat.div_add_mod (lo * 2 ^ s) 18446744073709551616
  have lV := Nat.mod_lt (lo * 2 ^ s) (show 0 < 18446744073709551616 by decide)
  have eor : hi * 2 ^ s ||| lo / 2 ^ (64 - s) = hi * 2 ^ s + lo / 2 ^ (64 - s) := by
    have := Nat.shiftLeft_add_eq_or_of_lt hL hi
    rw [Nat.shiftLeft_eq] at this
    exact this.symm
  refine ⟨y * 2 ^ s, y * 2 ^ s / 4294967296, y * 2 ^ s % 4294967296, hi * 2 ^ s + lo / 2 ^ (64 - s), lo * 2 ^ s % 18446744073709551616,
    lo * 2 ^ s % 18446744073709551616 / 4294967296, lo * 2 ^ s % 18446744073709551616 % 4294967296, ?_, rfl, h1, rfl, by omega, mask_u64 h1, by omega, by omega, by omega, ?_, by omega, ?_, rfl, by omega, mask_u64 lV, by omega, ?_⟩
  · rw [pow_cast, ← Int.natCast_mul, wrap_nat, Nat.mod_eq_of_lt h1]
  · rw [pow_cast, pow_cast, ← Int.natCast_mul, wrap_nat, Nat.mod_eq_of_lt (by omega), ← Int.natCast_ediv, bits_or_u64_nat _ _ (by omega) (by omega), eor]
  · rw [pow_cast, ← Int.natCast_mul, wrap_nat]
  · rw [Nat.add_mul, hV] at *
    rw [Nat.mul_assoc hi, Nat.mul_comm 18446744073709551616, ← Nat.mul_assoc]
    generalize hi * 2 ^ s = A at *
    generalize lo * 2 ^ s = B at *
    omega
/-- a digit's guess as the code lays it -/
theorem start {Y a b U v : Nat} (hY : Y = a * 4294967296 + b) (ha : 2147483648 ≤ a) (ha2 : a < 4294967296) (hb : b < 4294967296) (hU : U < Y) (hv : v < 4294967296) :
    ∃ q r : Nat, (U : Int) / (a : Int) = (q : Int) ∧ (U : Int) - (q : Int) * (a : Int) = (r : Int) ∧ 0 ≤ (q : Int) * (a : Int) ∧ (q : Int) * (a : Int) ≤ U ∧ Inv Y a U v q r ∧ r < 4294967296 ∧ q ≤ 4294967297 := by
  have h := inv_start hY ha hb hU hv
  have hr := Nat.mod_lt U (show 0 < a by omega)
  refine ⟨U / a, U % a, by rw [Int.natCast_ediv], ?_, ?_, ?_, h, by omega, h.2.2⟩
  · have := h.1
    rw [← Int.natCast_mul]
    omega
  · rw [← Int.natCast_mul]; omega
  · rw [← Int.natCast_mul]
    have := Nat.div_mul_le_self U a
    omega

/-- the test's numbers -/
theorem test_facts {b q : Nat} (hb : b < 4294967296) (hq : q ≤ 4294967297) : 0 ≤ (q : Int) * (b : Int) ∧ (q : Int) * (b : Int) ≤ 18446744073709551615 := by
  have h := test_bd hb hq
  rw [← Int.natCast_mul]
  omega

/-- the rest that the second digit goes on with, as the code reckons it -/
theorem rest_wrap {Y U v q : Nat} (h0 : 0 < Y) (h64 : Y < 18446744073709551616) (hq : q = (U * 4294967296 + v) / Y) :
    IntKind.u64.wrap (IntKind.u64.wrap (IntKind.u64.wrap ((U : Int) * 4294967296) + v) - IntKind.u64.wrap ((q : Int) * Y)) = ((U * 4294967296 + v) % Y : Nat) := by
  rw [IntKind.wrap_u64, IntKind.wrap_u64, IntKind.wrap_u64, IntKind.wrap_u64]
  exact rest_mod h0 h64 hq
end Go.Proofs.YtdlbpepkgoandaaDoor.DivM
