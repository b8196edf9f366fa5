/- dimensions and numbers that fit: plain mathematics. -/
import Derived.Test.YtlppbapofenagaaGreatDoorFits
namespace Go.Proofs.YtlppbapofenagaaGreatDoor

/-- no dimension -/
def greatB (n : Int) : Bool := !decide (-1073741823 ≤ n ∧ n ≤ 1073741823)
def dimV (n : Int) : Int := if greatB n then 0 else n
def dimE (n : Int) : Int := if greatB n then 20 else 0

theorem great_no {n : Int} (h : greatB n = false) : -1073741823 ≤ n ∧ n ≤ 1073741823 := by simpa [greatB] using h
theorem great_yes {n : Int} (h : greatB n = true) : n < -1073741823 ∨ 1073741823 < n := by simp [greatB] at h; omega
theorem fit_yes {n : Int} (h : fitB n = true) : -2147483647 ≤ n ∧ n ≤ 2147483647 := by simpa [fitB] using h
theorem fit_no {n : Int} (h : fitB n = false) : n < -2147483647 ∨ 2147483647 < n := by simp [fitB] at h; omega
end Go.Proofs.YtlppbapofenagaaGreatDoor
