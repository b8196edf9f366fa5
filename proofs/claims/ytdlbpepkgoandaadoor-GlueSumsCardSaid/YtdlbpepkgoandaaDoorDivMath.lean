/- Knuth's division of two words by one: plain numbers. -/
namespace Go.Proofs.YtdlbpepkgoandaaDoor.DivM

/-- what holds of a digit's guess q and rest r, of a numerator u followed by v -/
def Inv (y a u v q r : Nat) : Prop := q * a + r = u ∧ (u * 4294967296 + v) / y ≤ q ∧ q ≤ 4294967297

theorem prod_eq {y a b u q r : Nat} (hy : y = a * 4294967296 + b) (h : q * a + r = u) : q * y + r * 4294967296 = u * 4294967296 + q * b := by
  subst hy; subst h
  rw [Nat.mul_add, Nat.add_mul, Nat.mul_assoc]
  omega

theorem lt32 {y u v : Nat} (hu : u < y) (hv : v < 4294967296) : (u * 4294967296 + v) / y < 4294967296 := by
  rw [Nat.div_lt_iff_lt_mul (by omega)]
  have h : (u + 1) * 4294967296 ≤ 4294967296 * y := by rw [Nat.mul_comm 4294967296]; exact Nat.mul_le_mul_right _ hu
  omega

theorem inv_start {y a b u v : Nat} (hy : y = a * 4294967296 + b) (ha : 2147483648 ≤ a) (hb : b < 4294967296) (hu : u < y) (hv : v < 4294967296) :
    Inv y a u v (u / a) (u % a) := by
  refine ⟨by rw [Nat.mul_comm]; exact Nat.div_add_mod u a, ?_, ?_⟩
  · rw [Nat.le_div_iff_mul_le (by omega)]
    have h := Nat.div_mul_le_self (u * 4294967296 + v) y
    generalize (u * 4294967296 + v) / y = q at *
    have e := prod_eq (u := q * a) (q := q) (r := 0) hy (by omega)
    omega
  · have h : u / a < 4294967298 := by
      rw [Nat.div_lt_iff_lt_mul (by omega)]
      omega
    omega

theorem inv_step {y a b u v q r : Nat} (hy : y = a * 4294967296 + b) (hu : u < y) (hv : v < 4294967296)
    (h : Inv y a u v q r) (hc : 4294967296 ≤ q ∨ 4294967296 * r + v < q * b) : 1 ≤ q ∧ Inv y a u v (q - 1) (r + a) := by
  obtain ⟨h1, h2, h3⟩ := h
  have hlt : (u * 4294967296 + v) / y < q := by
    rcases hc with hc | hc
    · have := lt32 hu hv; omega
    · rw [Nat.div_lt_iff_lt_mul (by omega)]
      have e := prod_eq hy h1
      omega
  have hq : 1 ≤ q := Nat.lt_of_le_of_lt (Nat.zero_le _) hlt
  refine ⟨hq, ?_, by omega, by omega⟩
  have e : (q - 1) * a + a = q * a := by rw [← Nat.succ_mul]; congr 1; omega
  omega

theorem inv_end {y a b u v q r : Nat} (hy : y = a * 4294967296 + b) (h0 : 0 < y)
    (h : Inv y a u v q r) (hc : q * b ≤ 4294967296 * r + v) : q = (u * 4294967296 + v) / y := by
  obtain ⟨h1, h2, h3⟩ := h
  refine Nat.le_antisymm ?_ h2
  rw [Nat.le_div_iff_mul_le h0]
  have e := prod_eq hy h1
  omega

theorem inv_break {y a b u v q r : Nat} (hy : y = a * 4294967296 + b) (h0 : 0 < y) (hb : b < 4294967296)
    (h : Inv y a u v q r) (hq : q ≤ 4294967296) (hr : 4294967296 ≤ r) : q = (u * 4294967296 + v) / y := by
  refine inv_end hy h0 h ?_
  have h1 : q * b ≤ 4294967296 * b := Nat.mul_le_mul_right _ hq
  have h2 : 4294967296 * b ≤ 4294967296 * r := Nat.mul_le_mul_left _ (by omega)
  omega

/-- a product that the loop's test reckons stays within a word -/
theorem test_bd {b q : Nat} (hb : b < 4294967296) (hq : q ≤ 4294967297) : q * b ≤ 18446744073709551615 := by
  have h1 : q * b ≤ 4294967297 * 4294967295 := Nat.mul_le_mul hq (by omega)
  omega

/-- the rest, as it is reckoned modulo 2^64 -/
theorem rest_mod {y u v q : Nat} (h0 : 0 < y) (h64 : y < 18446744073709551616) (hq : q = (u * 4294967296 + v) / y) :
    (((u : Int) * 4294967296 % 18446744073709551616 + v) % 18446744073709551616 - (q : Int) * y % 18446744073709551616) % 18446744073709551616 = ((u * 4294967296 + v) % y : Nat) := by
  have h := Nat.div_add_mod (u * 4294967296 + v) y
  rw [← hq] at h
  have hr := Nat.mod_lt (u * 4294967296 + v) h0
  generalize (u * 4294967296 + v) % y = r at *
  have e : (q : Int) * y = ((y * q : Nat) : Int) := by rw [Nat.mul_comm, Int.natCast_mul]
  rw [e]
  generalize y * q = p at *
  omega

/-- the whole: two digits, and the shift taken back -/
theorem whole {y s N M q1 q0 r1 r0 u v0 v1 : Nat} (hs : M = N * 2 ^ s) (hM : M = (u * 4294967296 + v1) * 4294967296 + v0)
    (h0 : 0 < y)
    (hq1 : q1 = (u * 4294967296 + v1) / (y * 2 ^ s)) (hr1 : r1 = (u * 4294967296 + v1) % (y * 2 ^ s))
    (hq0 : q0 = (r1 * 4294967296 + v0) / (y * 2 ^ s)) (hr0 : r0 = (r1 * 4294967296 + v0) % (y * 2 ^ s)) :
    q1 * 4294967296 + q0 = N / y ∧ r0 / 2 ^ s = N % y := by
  have hp : 0 < 2 ^ s := Nat.pow_pos (by omega)
  have hY : 0 < y * 2 ^ s := Nat.mul_pos h0 hp
  have e1 := Nat.div_add_mod (u * 4294967296 + v1) (y * 2 ^ s)
  have e0 := Nat.div_add_mod (r1 * 4294967296 + v0) (y * 2 ^ s)
  have l0 := Nat.mod_lt (r1 * 4294967296 + v0) hY
  rw [← hq1, ← hr1] at e1
  rw [← hq0, ← hr0] at e0
  rw [← hr0] at l0
  have eM : M = r0 + (y * 2 ^ s) * (q1 * 4294967296 + q0) := by
    rw [hM, Nat.mul_add, ← Nat.mul_assoc]
    generalize y * 2 ^ s * q1 = A at *
    generalize y * 2 ^ s * q0 = B at *
    omega
  have d1 : M / (y * 2 ^ s) = q1 * 4294967296 + q0 := by
    rw [eM, Nat.add_mul_div_left _ _ hY, Nat.div_eq_of_lt l0, Nat.zero_add]
  have d2 : M % (y * 2 ^ s) = r0 := by
    rw [eM, Nat.add_mul_mod_self_left, Nat.mod_eq_of_lt l0]
  refine ⟨?_, ?_⟩
  · rw [← d1, hs, Nat.mul_div_mul_right _ _ hp]
  · rw [← d2, hs, Nat.mul_mod_mul_right, Nat.mul_div_cancel _ hp]

end Go.Proofs.YtdlbpepkgoandaaDoor.DivM
