/- Rounded quotients: plain numbers. -/
namespace Go.Proofs.YtdlbpepkgoandaaDoor.ShM

/-- the whole number next to p / d, of two the greater one -/
def rq (p d : Nat) : Nat := if 2 * (p % d) < d then p / d else p / d + 1

/-- the round of p / d, of two the one farther from 0 -/
def rs (p : Int) (d : Nat) : Int := if p < 0 then -((rq p.natAbs d : Nat) : Int) else (rq p.natAbs d : Nat)

theorem rq_near {p d : Nat} (hd : 1 ≤ d) : 2 * p ≤ 2 * (rq p d * d) + d ∧ 2 * (rq p d * d) ≤ 2 * p + d := by
  have h := Nat.div_add_mod p d
  have hr := Nat.mod_lt p (show 0 < d by omega)
  rw [Nat.mul_comm] at h
  unfold rq
  have e : (p / d + 1) * d = p / d * d + d := by rw [Nat.add_mul, Nat.one_mul]
  split
  · omega
  · rw [e]; omega

theorem rq_ge {p d : Nat} : p / d ≤ rq p d ∧ rq p d ≤ p / d + 1 := by
  unfold rq; split <;> omega

theorem rq_le {p d m : Nat} (hd : 1 ≤ d) (h : p ≤ m * d) : rq p d ≤ m := by
  have hq : p / d ≤ m := by
    have := Nat.div_le_div_right (c := d) h
    rwa [Nat.mul_div_cancel _ (by omega)] at this
  unfold rq
  split
  · exact hq
  · rename_i hc
    rcases Nat.lt_or_ge (p / d) m with hl | hl
    · omega
    · have e : p / d = m := by omega
      have h2 := Nat.div_add_mod p d
      rw [e, Nat.mul_comm] at h2
      have : p % d = 0 := by omega
      omega

theorem rq_mono {p p' d : Nat} (_hd : 1 ≤ d) (h : p ≤ p') : rq p d ≤ rq p' d := by
  have hq : p / d ≤ p' / d := Nat.div_le_div_right h
  have h1 := Nat.div_add_mod p d
  have h2 := Nat.div_add_mod p' d
  unfold rq
  rcases Nat.lt_or_ge (p / d) (p' / d) with hl | hl
  · split <;> split <;> omega
  · have e : p / d = p' / d := by omega
    rw [e] at h1
    have hm : p % d ≤ p' % d := by omega
    rw [e]
    split <;> split <;> omega

theorem rq_mul {x d : Nat} (hd : 1 ≤ d) : rq (x * d) d = x := by
  unfold rq
  rw [Nat.mul_mod_left, Nat.mul_div_cancel _ (by omega), if_pos (by omega)]

theorem rq_zero {d : Nat} (hd : 1 ≤ d) : rq 0 d = 0 := by
  unfold rq
  rw [Nat.zero_mod, Nat.zero_div, if_pos (by omega)]

theorem rs_neg {p : Int} {d : Nat} (hd : 1 ≤ d) : rs (-p) d = -rs p d := by
  unfold rs
  rw [Int.natAbs_neg]
  by_cases h0 : p = 0
  · subst h0
    simp [rq_zero hd]
  · by_cases hp : p < 0
    · rw [if_neg (by omega), if_pos hp, Int.neg_neg]
    · rw [if_pos (by omega), if_neg hp]

theorem rs_mul {x : Int} {d : Nat} (hd : 1 ≤ d) : rs (x * d) d = x := by
  unfold rs
  rw [Int.natAbs_mul, Int.natAbs_natCast, rq_mul hd]
  have hd' : (0 : Int) < d := by omega
  by_cases hx : x < 0
  · rw [if_pos (Int.mul_neg_of_neg_of_pos hx hd')]; omega
  · rw [if_neg (by have := Int.mul_nonneg (show 0 ≤ x by omega) (show (0 : Int) ≤ d by omega); omega)]; omega

theorem rs_zero {d : Nat} (hd : 1 ≤ d) : rs 0 d = 0 := by
  have := rs_mul (x := 0) hd
  rwa [Int.zero_mul] at this

theorem rs_near {p : Int} {d : Nat} (hd : 1 ≤ d) : 2 * (rs p d * d) - 2 * p ≤ d ∧ 2 * p - 2 * (rs p d * d) ≤ d := by
  obtain ⟨a, b⟩ := rq_near (p := p.natAbs) hd
  have e : (((rq p.natAbs d) * d : Nat) : Int) = ((rq p.natAbs d : Nat) : Int) * d := by rw [Int.natCast_mul]
  unfold rs
  split
  · rw [Int.neg_mul, ← e]; omega
  · rw [← e]; omega

theorem rs_mono {p p' : Int} {d : Nat} (hd : 1 ≤ d) (h : p ≤ p') : rs p d ≤ rs p' d := by
  unfold rs
  by_cases h1 : p < 0
  · by_cases h2 : p' < 0
    · rw [if_pos h1, if_pos h2]
      have := rq_mono (p := p'.natAbs) (p' := p.natAbs) hd (by omega)
      omega
    · rw [if_pos h1, if_neg h2]; omega
  · rw [if_neg h1, if_neg (by omega)]
    have := rq_mono (p := p.natAbs) (p' := p'.natAbs) hd (by omega)
    omega

/-- one bit more: the quotient and the rest of (2 p + b) n -/
theorem bit_step {p n d b q r : Nat} (hd : 1 ≤ d) (hq : q = p * n / d) (hr : r = p * n % d) :
    2 * q + (2 * r + b * n) / d = (2 * p + b) * n / d ∧ (2 * r + b * n) % d = (2 * p + b) * n % d := by
  have h := Nat.div_add_mod (p * n) d
  rw [← hq, ← hr] at h
  have e : (2 * p + b) * n = (2 * r + b * n) + d * (2 * q) := by
    rw [Nat.add_mul, Nat.mul_assoc 2 p n, ← h, ← Nat.mul_assoc, Nat.mul_comm d 2, Nat.mul_assoc]
    omega
  refine ⟨?_, ?_⟩
  · rw [e, Nat.add_mul_div_left _ _ (by omega)]; omega
  · rw [e, Nat.add_mul_mod_self_left]

/-- a beginning's quotient is no more than the whole's -/
theorem part_le {s k n d : Nat} : s / 2 ^ k * n / d ≤ s * n / d :=
  Nat.div_le_div_right (Nat.mul_le_mul_right _ (Nat.div_le_self _ _))

theorem shift_step {s k : Nat} : s / 2 ^ k = 2 * (s / 2 ^ (k + 1)) + s / 2 ^ k % 2 := by
  rw [Nat.pow_succ, ← Nat.div_div_eq_div_mul]
  omega

end Go.Proofs.YtdlbpepkgoandaaDoor.ShM
