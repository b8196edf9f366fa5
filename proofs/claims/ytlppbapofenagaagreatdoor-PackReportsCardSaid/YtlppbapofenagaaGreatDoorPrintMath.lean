/- The digits behind the point, as P106 makes them: plain mathematics. -/
import Derived.Test.YtlppbapofenagaaGreatDoorBase
import Derived.Lib.ItoaNum
namespace Go.Proofs.YtlppbapofenagaaGreatDoor

def stepY (x d : Int) : Int := if 65536 < d then x + -17232 else x
/-- the digits behind the point, from x and delta on -/
def fracDigits : Nat → Int → Int → List UInt8
  | 0, _, _ => []
  | n + 1, x, d => UInt8.ofNat (48 + stepY x d / 65536).toNat :: if 10 * (stepY x d % 65536) ≤ 10 * d then [] else fracDigits n (10 * (stepY x d % 65536)) (10 * d)
/-- where the digits stand: delta and how many rounds are left; x is above delta but at the first -/
def AtRound (x d : Int) (n : Nat) : Prop :=
  0 ≤ x ∧ x ≤ 655355 ∧ (d = 10 ∧ n = 5 ∨ d < x ∧ (d = 100 ∧ n = 4 ∨ d = 1000 ∧ n = 3 ∨ d = 10000 ∧ n = 2 ∨ d = 100000 ∧ n = 1))
theorem AtRound.pos {x d : Int} {n : Nat} (h : AtRound x d n) : 0 < n := by unfold AtRound at h; omega
theorem AtRound.y {x d : Int} {n : Nat} (h : AtRound x d n) : 0 ≤ stepY x d ∧ stepY x d ≤ 655355 := by unfold AtRound at h; unfold stepY; split <;> omega
theorem AtRound.step {x d : Int} {n : Nat} (h : AtRound x d (n + 1)) (hx : ¬ 10 * (stepY x d % 65536) ≤ 10 * d) : AtRound (10 * (stepY x d % 65536)) (10 * d) n := by
  unfold AtRound at *
  omega
theorem fracDigits_last {x d : Int} {n : Nat} (hx : 10 * (stepY x d % 65536) ≤ 10 * d) : fracDigits (n + 1) x d = [UInt8.ofNat (48 + stepY x d / 65536).toNat] := by
  rw [fracDigits, if_pos hx]
theorem fracDigits_more {x d : Int} {n : Nat} (hx : ¬ 10 * (stepY x d % 65536) ≤ 10 * d) : fracDigits (n + 1) x d = UInt8.ofNat (48 + stepY x d / 65536).toNat :: fracDigits n (10 * (stepY x d % 65536)) (10 * d) := by
  rw [fracDigits, if_neg hx]
theorem fracDigits_length (n : Nat) : ∀ x d, (fracDigits n x d).length ≤ n := by
  induction n with
  | zero => intros; simp [fracDigits]
  | succ n ih => intro x d; rw [fracDigits]; split <;> simp; exact ih _ _

def absI (s : Int) : Int := if s < 0 then -s else s
def fracOf (f : Int) : List UInt8 := fracDigits 5 (10 * f + 5) 10
/-- a number as points -/
def printL (s : Int) : List UInt8 :=
  (if s < 0 then [45] else []) ++ (Lib.decDigits (absI s / 65536).toNat ++ 46 :: fracOf (absI s % 65536))
end Go.Proofs.YtlppbapofenagaaGreatDoor
