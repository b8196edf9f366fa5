/- A fix's size: the quotients of its bytes are one quotient; it rises, and is exact where nothing is halved: plain mathematics. -/
import Derived.Test.YtdhidpbenhmfgaaGreatM0
namespace Go.Proofs.YtdhidpbenhmfgaaGreat

/-- what a fix is multiplied by: 16 times the size, as far as it is kept -/
def sizeA (at' : Int) : Int :=
  if at' < 8388608 then 16 * at' else if at' < 16777216 then 32 * (at' / 2) else if at' < 33554432 then 64 * (at' / 4) else if at' < 67108864 then 128 * (at' / 8) else 256 * (at' / 16)
def sizeV (at' x : Int) : Int := (x * sizeA at') / 16777216
def fixB (x : Int) : Bool := decide (-16777216 ≤ x ∧ x < 16777216)
def sizeOk (at' x : Int) : Bool := decide (1 ≤ at' ∧ at' < 134217728) && fixB x
def sizeR (n x : Int) : Int := if sizeOk n x then sizeV n x else 0
def sizeE (n x : Int) : Int := if sizeOk n x then 0 else 11

theorem sizeA_bd {n : Int} (h0 : 1 ≤ n) (h1 : n < 134217728) : 0 < sizeA n ∧ sizeA n ≤ 16 * n := by
  unfold sizeA
  split
  · omega
  · split
    · omega
    · split
      · omega
      · split <;> omega
theorem sizeA_same {n : Int} (h1 : n < 8388608) : sizeA n = 16 * n := by unfold sizeA; rw [if_pos h1]

theorem sizeV_zero (n : Int) : sizeV n 0 = 0 := by unfold sizeV; simp
theorem sizeV_mono {n x y : Int} (h0 : 1 ≤ n) (h1 : n < 134217728) (h : x ≤ y) : sizeV n x ≤ sizeV n y := by
  unfold sizeV
  exact Int.ediv_le_ediv (by omega) (Int.mul_le_mul_of_nonneg_right h (by have := (sizeA_bd h0 h1).1; omega))
theorem sizeV_neg {n x : Int} (h0 : 1 ≤ n) (h1 : n < 134217728) (h : x ≤ 0) : sizeV n x ≤ 0 := by
  have := sizeV_mono h0 h1 h
  rw [sizeV_zero] at this
  exact this
theorem sizeV_pos {n x : Int} (h0 : 1 ≤ n) (h1 : n < 134217728) (h : 0 ≤ x) : 0 ≤ sizeV n x := by
  have := sizeV_mono h0 h1 h
  rw [sizeV_zero] at this
  exact this
theorem sizeV_exact {n x : Int} (h0 : 1 ≤ n) (h1 : n < 134217728) (h : 0 ≤ x) : sizeV n x * 1048576 ≤ x * n := by
  have hA := (sizeA_bd h0 h1).2
  have h2 : x * sizeA n ≤ x * (16 * n) := Int.mul_le_mul_of_nonneg_left hA h
  have h3 : x * (16 * n) = 16 * (x * n) := by rw [Int.mul_left_comm]
  unfold sizeV
  omega
theorem sizeV_one {n : Int} (h1 : n < 8388608) : sizeV n 1048576 = n := by
  unfold sizeV
  rw [sizeA_same h1]
  omega
theorem sizeV_bd {n x : Int} (h0 : 1 ≤ n) (h1 : n < 134217728) (hx : -16777216 ≤ x) (hy : x < 16777216) : -2147483648 ≤ sizeV n x ∧ sizeV n x ≤ 2147483648 := by
  obtain ⟨a0, a1⟩ := sizeA_bd h0 h1
  have hA : sizeA n ≤ 2147483648 := by omega
  have u : x * sizeA n ≤ 16777216 * 2147483648 := by
    have := Int.mul_le_mul (show x ≤ 16777216 by omega) hA (by omega) (by omega)
    omega
  have l : -(16777216 * 2147483648) ≤ x * sizeA n := by
    have := Int.mul_le_mul (show -x ≤ 16777216 by omega) hA (by omega) (by omega)
    rw [Int.neg_mul] at this
    omega
  unfold sizeV
  omega

/-- the quotients of the three lower bytes, one behind the other -/
theorem bytes_quot {z d c b : Int} : ((d * z / 256 + c * z) / 256 + b * z) = ((65536 * b + 256 * c + d) * z) / 65536 := by
  have e : (65536 * b + 256 * c + d) * z = 65536 * (b * z) + 256 * (c * z) + d * z := by
    rw [Int.add_mul, Int.add_mul, Int.mul_assoc, Int.mul_assoc]
  rw [e]
  generalize b * z = B
  generalize c * z = C
  generalize d * z = D
  omega
theorem quot_quot {y z k : Int} : (y * z / 65536) / k = y * z / (65536 * k) := by
  rw [Int.ediv_ediv_of_nonneg (by omega)]

/-- z, beta and alpha z as the document makes them; y: the three lower bytes -/
theorem size_of_bytes {n z beta y : Int} (h0 : 1 ≤ n) (h : (n < 8388608 ∧ z = n ∧ beta = 16) ∨ (8388608 ≤ n ∧ n < 16777216 ∧ z = n / 2 ∧ beta = 8) ∨ (16777216 ≤ n ∧ n < 33554432 ∧ z = n / 4 ∧ beta = 4) ∨ (33554432 ≤ n ∧ n < 67108864 ∧ z = n / 8 ∧ beta = 2) ∨ (67108864 ≤ n ∧ n < 134217728 ∧ z = n / 16 ∧ beta = 1)) :
    (y * z / 65536) / beta = sizeV n y ∧ 256 / beta * z = sizeA n := by
  unfold sizeV sizeA
  rcases h with ⟨h1, rfl, rfl⟩ | ⟨h1, h2, rfl, rfl⟩ | ⟨h1, h2, rfl, rfl⟩ | ⟨h1, h2, rfl, rfl⟩ | ⟨h1, h2, rfl, rfl⟩
  · rw [if_pos h1]
    refine ⟨?_, by omega⟩
    rw [show y * (16 * z) = 16 * (y * z) from Int.mul_left_comm _ _ _]
    generalize y * z = P
    omega
  · rw [if_neg (by omega), if_pos h2]
    refine ⟨?_, by omega⟩
    rw [show y * (32 * (n / 2)) = 32 * (y * (n / 2)) from Int.mul_left_comm _ _ _]
    generalize y * (n / 2) = P
    omega
  · rw [if_neg (by omega), if_neg (by omega), if_pos h2]
    refine ⟨?_, by omega⟩
    rw [show y * (64 * (n / 4)) = 64 * (y * (n / 4)) from Int.mul_left_comm _ _ _]
    generalize y * (n / 4) = P
    omega
  · rw [if_neg (by omega), if_neg (by omega), if_neg (by omega), if_pos h2]
    refine ⟨?_, by omega⟩
    rw [show y * (128 * (n / 8)) = 128 * (y * (n / 8)) from Int.mul_left_comm _ _ _]
    generalize y * (n / 8) = P
    omega
  · rw [if_neg (by omega), if_neg (by omega), if_neg (by omega), if_neg (by omega)]
    refine ⟨?_, by omega⟩
    rw [show y * (256 * (n / 16)) = 256 * (y * (n / 16)) from Int.mul_left_comm _ _ _]
    generalize y * (n / 16) = P
    omega
/-- below 0: a whole alpha z less -/
theorem sizeV_less {n y : Int} : sizeV n y - sizeA n = sizeV n (y - 16777216) := by
  unfold sizeV
  rw [Int.sub_mul]
  generalize y * sizeA n = P
  omega
end Go.Proofs.YtdhidpbenhmfgaaGreat
