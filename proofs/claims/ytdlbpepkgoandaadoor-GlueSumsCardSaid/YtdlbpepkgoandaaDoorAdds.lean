/- scaled.dimension, Add, Times: each comes to one Lean function. -/
import Derived.Test.YtdlbpepkgoandaaDoorFits
namespace Go.Proofs.YtdlbpepkgoandaaDoor
open Go.RowKit

/-- no dimension -/
def greatB (n : Int) : Bool := !decide (-1073741823 ≤ n ∧ n ≤ 1073741823)
def dimV (n : Int) : Int := if greatB n then 0 else n
def dimE (n : Int) : Int := if greatB n then 20 else 0

theorem great_no {n : Int} (h : greatB n = false) : -1073741823 ≤ n ∧ n ≤ 1073741823 := by simpa [greatB] using h
theorem great_yes {n : Int} (h : greatB n = true) : n < -1073741823 ∨ 1073741823 < n := by simp [greatB] at h; omega
theorem fit_yes {n : Int} (h : fitB n = true) : -2147483647 ≤ n ∧ n ≤ 2147483647 := by simpa [fitB] using h
theorem fit_no {n : Int} (h : fitB n = false) : n < -2147483647 ∨ 2147483647 < n := by simp [fitB] at h; omega

set_option maxHeartbeats 400000 in
theorem dimension_any (n : Int) (w : World) :
    Calls Tryd.prog 62 #[.int .i64 n] w fun e w' => e = .returned (.tuple #[.int .i64 (dimV n), .int .i64 (dimE n)]) ∧ w = w' := by
  cases hg : greatB n
  · have e1 : dimV n = n := by simp [dimV, hg]
    have e2 : dimE n = 0 := by simp [dimE, hg]
    obtain ⟨h1, h2⟩ := great_no hg
    rw [e1, e2]
    clear e1 e2 hg
    go_enter Tryd.func62, Tryd.ntmps62
    go_wp2
    go_ret2
    exact ⟨rfl, rfl⟩
  · have e1 : dimV n = 0 := by simp [dimV, hg]
    have e2 : dimE n = 20 := by simp [dimE, hg]
    rw [e1, e2]
    rcases great_yes hg with h1 | h1
    · clear e1 e2 hg
      go_enter Tryd.func62, Tryd.ntmps62
      go_wp2
      go_ret2
      exact ⟨rfl, rfl⟩
    · have h2 : ¬ n < -1073741823 := by omega
      clear e1 e2 hg
      go_enter Tryd.func62, Tryd.ntmps62
      go_wp2
      go_ret2
      exact ⟨rfl, rfl⟩

def addV (a b : Int) : Int := if fitB a && fitB b then dimV (a + b) else 0
def addE (a b : Int) : Int := if fitB a && fitB b then dimE (a + b) else 11

set_option maxHeartbeats 400000 in
theorem add_any (a b : Int) (w : World) :
    Calls Tryd.prog 31 #[.int .i64 a, .int .i64 b] w fun e w' => e = .returned (.tuple #[.int .i64 (addV a b), .int .i64 (addE a b)]) ∧ Kept w w' := by
  cases hf : (fitB a && fitB b)
  · have e1 : addV a b = 0 := by simp [addV, hf]
    have e2 : addE a b = 11 := by simp [addE, hf]
    rw [e1, e2]
    clear e1 e2
    have Hf := Lib.hid hf; clear hf
    go_enter Tryd.func31, Tryd.ntmps31
    go_wp2_with (go_at_call 23; refine (fits_two Hf.out).mono ?_; rintro e w' ⟨rfl, rfl⟩)
    go_ret2
    exact ⟨rfl, (Kept.refl _).alloc (Nat.le_refl _) _⟩
  · have e1 : addV a b = dimV (a + b) := by simp [addV, hf]
    have e2 : addE a b = dimE (a + b) := by simp [addE, hf]
    rw [e1, e2]
    clear e1 e2
    obtain ⟨ha, hb⟩ := Bool.and_eq_true_iff.1 hf
    obtain ⟨a1, a2⟩ := fit_yes ha
    obtain ⟨b1, b2⟩ := fit_yes hb
    have Hf := Lib.hid hf; clear hf
    clear ha hb
    go_enter Tryd.func31, Tryd.ntmps31
    go_wp2_with (first | (go_at_call 23; refine (fits_two Hf.out).mono ?_; rintro e w' ⟨rfl, rfl⟩) | (go_at_call 62; refine (dimension_any _ _).mono ?_; rintro e w' ⟨rfl, rfl⟩))
    go_ret2
    exact ⟨rfl, (Kept.refl _).alloc (Nat.le_refl _) _⟩

def timesV (n x y : Int) : Int := if fitB n && (fitB x && fitB y) then dimV (n * x + y) else 0
def timesE (n x y : Int) : Int := if fitB n && (fitB x && fitB y) then dimE (n * x + y) else 11

/-- a product of two numbers within the limits -/
theorem prod_bd {n x : Int} (hn : -2147483647 ≤ n ∧ n ≤ 2147483647) (hx : -2147483647 ≤ x ∧ x ≤ 2147483647) : -4611686014132420609 ≤ n * x ∧ n * x ≤ 4611686014132420609 := by
  have h : (n * x).natAbs ≤ 2147483647 * 2147483647 := by rw [Int.natAbs_mul]; exact Nat.mul_le_mul (by omega) (by omega)
  omega

set_option maxHeartbeats 400000 in
theorem times_any (n x y : Int) (w : World) :
    Calls Tryd.prog 40 #[.int .i64 n, .int .i64 x, .int .i64 y] w fun e w' => e = .returned (.tuple #[.int .i64 (timesV n x y), .int .i64 (timesE n x y)]) ∧ Kept w w' := by
  cases hf : (fitB n && (fitB x && fitB y))
  · have e1 : timesV n x y = 0 := by simp [timesV, hf]
    have e2 : timesE n x y = 11 := by simp [timesE, hf]
    rw [e1, e2]
    clear e1 e2
    have Hf := Lib.hid hf; clear hf
    go_enter Tryd.func40, Tryd.ntmps40
    go_wp2_with (go_at_call 23; refine (fits_three Hf.out).mono ?_; rintro e w' ⟨rfl, rfl⟩)
    go_ret2
    exact ⟨rfl, (Kept.refl _).alloc (Nat.le_refl _) _⟩
  · have e1 : timesV n x y = dimV (n * x + y) := by simp [timesV, hf]
    have e2 : timesE n x y = dimE (n * x + y) := by simp [timesE, hf]
    rw [e1, e2]
    clear e1 e2
    obtain ⟨ha, hb⟩ := Bool.and_eq_true_iff.1 hf
    obtain ⟨hb, hc⟩ := Bool.and_eq_true_iff.1 hb
    obtain ⟨p1, p2⟩ := prod_bd (fit_yes ha) (fit_yes hb)
    obtain ⟨a1, a2⟩ := fit_yes ha
    obtain ⟨b1, b2⟩ := fit_yes hb
    obtain ⟨c1, c2⟩ := fit_yes hc
    have Hf := Lib.hid hf; clear hf
    clear ha hb hc
    go_enter Tryd.func40, Tryd.ntmps40
    go_wp2_with (first | (go_at_call 23; refine (fits_three Hf.out).mono ?_; rintro e w' ⟨rfl, rfl⟩) | (go_at_call 62; refine (dimension_any _ _).mono ?_; rintro e w' ⟨rfl, rfl⟩))
    go_ret2
    exact ⟨rfl, (Kept.refl _).alloc (Nat.le_refl _) _⟩

end Go.Proofs.YtdlbpepkgoandaaDoor
