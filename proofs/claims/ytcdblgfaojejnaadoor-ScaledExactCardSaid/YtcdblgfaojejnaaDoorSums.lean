/- scaled.dimension, Add, Times, Over, Frac, and the document's own: each pair comes to one Lean function. -/
import Derived.Test.YtcdblgfaojejnaaDoorFits
namespace Go.Proofs.YtcdblgfaojejnaaDoor
open Go.RowKit

/-- no dimension -/
def greatB (n : Int) : Bool := !decide (-1073741823 ≤ n ∧ n ≤ 1073741823)
def dimV (n : Int) : Int := if greatB n then 0 else n
def dimE (n : Int) : Int := if greatB n then 20 else 0

theorem great_no {n : Int} (h : greatB n = false) : -1073741823 ≤ n ∧ n ≤ 1073741823 := by simpa [greatB] using h
theorem great_yes {n : Int} (h : greatB n = true) : n < -1073741823 ∨ 1073741823 < n := by simp [greatB] at h; omega
theorem fit_yes {n : Int} (h : fitB n = true) : -2147483647 ≤ n ∧ n ≤ 2147483647 := by simpa [fitB] using h
theorem fit_no {n : Int} (h : fitB n = false) : n < -2147483647 ∨ 2147483647 < n := by simp [fitB] at h; omega

set_option maxHeartbeats 400000 in
theorem dimension_any (n : Int) (w : World) :
    Calls Tryd.prog 43 #[.int .i64 n] w fun e w' => e = .returned (.tuple #[.int .i64 (dimV n), .int .i64 (dimE n)]) ∧ w = w' := by
  cases hg : greatB n
  · have e1 : dimV n = n := by simp [dimV, hg]
    have e2 : dimE n = 0 := by simp [dimE, hg]
    obtain ⟨h1, h2⟩ := great_no hg
    rw [e1, e2]
    clear e1 e2 hg
    go_enter Tryd.func43, Tryd.ntmps43
    go_wp2
    go_ret2
    exact ⟨rfl, rfl⟩
  · have e1 : dimV n = 0 := by simp [dimV, hg]
    have e2 : dimE n = 20 := by simp [dimE, hg]
    rw [e1, e2]
    rcases great_yes hg with h1 | h1
    · clear e1 e2 hg
      go_enter Tryd.func43, Tryd.ntmps43
      go_wp2
      go_ret2
      exact ⟨rfl, rfl⟩
    · have h2 : ¬ n < -1073741823 := by omega
      clear e1 e2 hg
      go_enter Tryd.func43, Tryd.ntmps43
      go_wp2
      go_ret2
      exact ⟨rfl, rfl⟩

def addV (a b : Int) : Int := if fitB a && fitB b then dimV (a + b) else 0
def addE (a b : Int) : Int := if fitB a && fitB b then dimE (a + b) else 11

set_option maxHeartbeats 400000 in
theorem add_any (a b : Int) (w : World) :
    Calls Tryd.prog 12 #[.int .i64 a, .int .i64 b] w fun e w' => e = .returned (.tuple #[.int .i64 (addV a b), .int .i64 (addE a b)]) ∧ Kept w w' := by
  cases hf : (fitB a && fitB b)
  · have e1 : addV a b = 0 := by simp [addV, hf]
    have e2 : addE a b = 11 := by simp [addE, hf]
    rw [e1, e2]
    clear e1 e2
    have Hf := Lib.hid hf; clear hf
    go_enter Tryd.func12, Tryd.ntmps12
    go_wp2_with (go_at_call 42; refine (fits_two Hf.out).mono ?_; rintro e w' ⟨rfl, rfl⟩)
    go_ret2
    exact ⟨rfl, (Kept.refl _).alloc (Nat.le_refl _) _⟩
  · have e1 : addV a b = dimV (a + b) := by simp [addV, hf]
    have e2 : addE a b = dimE (a + b) := by simp [addE, hf]
    rw [e1, e2]
    clear e1 e2
    obtain ⟨ha, hb⟩ := Bool.and_eq_true_iff.1 hf
    obtain ⟨a1, a2⟩ := fit_yes ha
    obtain ⟨b1, b2⟩ := fit_yes hb
    have Hf := Lib.hid hf; clear hf
    clear ha hb
    go_enter Tryd.func12, Tryd.ntmps12
    go_wp2_with (first | (go_at_call 42; refine (fits_two Hf.out).mono ?_; rintro e w' ⟨rfl, rfl⟩) | (go_at_call 43; refine (dimension_any _ _).mono ?_; rintro e w' ⟨rfl, rfl⟩))
    go_ret2
    exact ⟨rfl, (Kept.refl _).alloc (Nat.le_refl _) _⟩

def timesV (n x y : Int) : Int := if fitB n && (fitB x && fitB y) then dimV (n * x + y) else 0
def timesE (n x y : Int) : Int := if fitB n && (fitB x && fitB y) then dimE (n * x + y) else 11

/-- a product of two numbers within the limits -/
theorem prod_bd {n x : Int} (hn : -2147483647 ≤ n ∧ n ≤ 2147483647) (hx : -2147483647 ≤ x ∧ x ≤ 2147483647) : -4611686014132420609 ≤ n * x ∧ n * x ≤ 4611686014132420609 := by
  have h : (n * x).natAbs ≤ 2147483647 * 2147483647 := by rw [Int.natAbs_mul]; exact Nat.mul_le_mul (by omega) (by omega)
  omega

set_option maxHeartbeats 400000 in
theorem times_any (n x y : Int) (w : World) :
    Calls Tryd.prog 13 #[.int .i64 n, .int .i64 x, .int .i64 y] w fun e w' => e = .returned (.tuple #[.int .i64 (timesV n x y), .int .i64 (timesE n x y)]) ∧ Kept w w' := by
  cases hf : (fitB n && (fitB x && fitB y))
  · have e1 : timesV n x y = 0 := by simp [timesV, hf]
    have e2 : timesE n x y = 11 := by simp [timesE, hf]
    rw [e1, e2]
    clear e1 e2
    have Hf := Lib.hid hf; clear hf
    go_enter Tryd.func13, Tryd.ntmps13
    go_wp2_with (go_at_call 42; refine (fits_three Hf.out).mono ?_; rintro e w' ⟨rfl, rfl⟩)
    go_ret2
    exact ⟨rfl, (Kept.refl _).alloc (Nat.le_refl _) _⟩
  · have e1 : timesV n x y = dimV (n * x + y) := by simp [timesV, hf]
    have e2 : timesE n x y = dimE (n * x + y) := by simp [timesE, hf]
    rw [e1, e2]
    clear e1 e2
    obtain ⟨ha, hb⟩ := Bool.and_eq_true_iff.1 hf
    obtain ⟨hb, hc⟩ := Bool.and_eq_true_iff.1 hb
    obtain ⟨p1, p2⟩ := prod_bd (fit_yes ha) (fit_yes hb)
    obtain ⟨a1, a2⟩ := fit_yes ha
    obtain ⟨b1, b2⟩ := fit_yes hb
    obtain ⟨c1, c2⟩ := fit_yes hc
    have Hf := Lib.hid hf; clear hf
    clear ha hb hc
    go_enter Tryd.func13, Tryd.ntmps13
    go_wp2_with (first | (go_at_call 42; refine (fits_three Hf.out).mono ?_; rintro e w' ⟨rfl, rfl⟩) | (go_at_call 43; refine (dimension_any _ _).mono ?_; rintro e w' ⟨rfl, rfl⟩))
    go_ret2
    exact ⟨rfl, (Kept.refl _).alloc (Nat.le_refl _) _⟩

def overV (x n : Int) : Int := if fitB x && fitB n then (if n == 0 then 0 else x.tdiv n) else 0
def overR (x n : Int) : Int := if fitB x && fitB n then (if n == 0 then 0 else x.tmod n) else 0
def overE (x n : Int) : Int := if fitB x && fitB n then (if n == 0 then 20 else 0) else 11

set_option maxHeartbeats 400000 in
theorem over_any (x n : Int) (w : World) :
    Calls Tryd.prog 14 #[.int .i64 x, .int .i64 n] w fun e w' => e = .returned (.tuple #[.int .i64 (overV x n), .int .i64 (overR x n), .int .i64 (overE x n)]) ∧ Kept w w' := by
  cases hf : (fitB x && fitB n)
  · have e1 : overV x n = 0 := by simp [overV, hf]
    have e2 : overR x n = 0 := by simp [overR, hf]
    have e3 : overE x n = 11 := by simp [overE, hf]
    rw [e1, e2, e3]
    clear e1 e2 e3
    have Hf := Lib.hid hf; clear hf
    go_enter Tryd.func14, Tryd.ntmps14
    go_wp2_with (go_at_call 42; refine (fits_two Hf.out).mono ?_; rintro e w' ⟨rfl, rfl⟩)
    go_ret3
    exact ⟨rfl, (Kept.refl _).alloc (Nat.le_refl _) _⟩
  · obtain ⟨ha, hb⟩ := Bool.and_eq_true_iff.1 hf
    obtain ⟨a1, a2⟩ := fit_yes ha
    obtain ⟨b1, b2⟩ := fit_yes hb
    clear ha hb
    by_cases hn : n = 0
    · subst hn
      have e1 : overV x 0 = 0 := by simp [overV]
      have e2 : overR x 0 = 0 := by simp [overR]
      have e3 : overE x 0 = 20 := by simp [overE, hf]
      rw [e1, e2, e3]
      clear e1 e2 e3
      have Hf := Lib.hid hf; clear hf
      go_enter Tryd.func14, Tryd.ntmps14
      go_wp2_with (first | (go_at_call 42; refine (fits_two Hf.out).mono ?_; rintro e w' ⟨rfl, rfl⟩))
      go_ret3
      exact ⟨rfl, (Kept.refl _).alloc (Nat.le_refl _) _⟩
    · have e1 : overV x n = x.tdiv n := by simp [overV, hf, hn]
      have e2 : overR x n = x.tmod n := by simp [overR, hf, hn]
      have e3 : overE x n = 0 := by simp [overE, hf, hn]
      rw [e1, e2, e3]
      clear e1 e2 e3
      have Hf := Lib.hid hf; clear hf
      go_enter Tryd.func14, Tryd.ntmps14
      go_wp2_with (first | (go_at_call 42; refine (fits_two Hf.out).mono ?_; rintro e w' ⟨rfl, rfl⟩))
      go_quiet (fail)
      go_wp2
      go_ret3
      obtain ⟨q1, q2⟩ := tdiv_bd (n := n) a1 a2
      exact ⟨ret_iii (w64 (by omega) (by omega)) rfl rfl, below_drewN ((Kept.refl _).alloc (Nat.le_refl _) _) _⟩

def fracQ (x n d : Int) : Int := (x * n).tdiv d
def fracV (x n d : Int) : Int := if fitB x && (fitB n && fitB d) then (if decide (n < 0 ∨ d < 1) then 0 else dimV (fracQ x n d)) else 0
def fracR (x n d : Int) : Int := if fitB x && (fitB n && fitB d) then (if decide (n < 0 ∨ d < 1) then 0 else if greatB (fracQ x n d) then 0 else (x * n).tmod d) else 0
def fracE (x n d : Int) : Int := if fitB x && (fitB n && fitB d) then (if decide (n < 0 ∨ d < 1) then 1 else dimE (fracQ x n d)) else 11

theorem dimE_no {n : Int} (h : greatB n = false) : dimE n = 0 := by simp [dimE, h]
theorem dimV_no {n : Int} (h : greatB n = false) : dimV n = n := by simp [dimV, h]
theorem dimE_yes {n : Int} (h : greatB n = true) : dimE n = 20 := by simp [dimE, h]
theorem dimV_yes {n : Int} (h : greatB n = true) : dimV n = 0 := by simp [dimV, h]

set_option maxHeartbeats 400000 in
theorem frac_any (x n d : Int) (w : World) :
    Calls Tryd.prog 15 #[.int .i64 x, .int .i64 n, .int .i64 d] w fun e w' => e = .returned (.tuple #[.int .i64 (fracV x n d), .int .i64 (fracR x n d), .int .i64 (fracE x n d)]) ∧ Kept w w' := by
  cases hf : (fitB x && (fitB n && fitB d))
  · have e1 : fracV x n d = 0 := by simp [fracV, hf]
    have e2 : fracR x n d = 0 := by simp [fracR, hf]
    have e3 : fracE x n d = 11 := by simp [fracE, hf]
    rw [e1, e2, e3]
    clear e1 e2 e3
    have Hf := Lib.hid hf; clear hf
    go_enter Tryd.func15, Tryd.ntmps15
    go_wp2_with (go_at_call 42; refine (fits_three Hf.out).mono ?_; rintro e w' ⟨rfl, rfl⟩)
    go_ret3
    exact ⟨rfl, (Kept.refl _).alloc (Nat.le_refl _) _⟩
  · obtain ⟨ha, hb⟩ := Bool.and_eq_true_iff.1 hf
    obtain ⟨hb, hc⟩ := Bool.and_eq_true_iff.1 hb
    obtain ⟨p1, p2⟩ := prod_bd (fit_yes ha) (fit_yes hb)
    obtain ⟨q1, q2⟩ := tdiv_bd (n := d) p1 p2
    obtain ⟨a1, a2⟩ := fit_yes ha
    obtain ⟨b1, b2⟩ := fit_yes hb
    obtain ⟨c1, c2⟩ := fit_yes hc
    clear ha hb hc
    by_cases hn : n < 0 ∨ d < 1
    · have e1 : fracV x n d = 0 := by simp [fracV, hn]
      have e2 : fracR x n d = 0 := by simp [fracR, hn]
      have e3 : fracE x n d = 1 := by simp [fracE, hf, hn]
      rw [e1, e2, e3]
      clear e1 e2 e3
      have Hf := Lib.hid hf; clear hf
      by_cases h1 : n < 0
      · clear hn
        go_enter Tryd.func15, Tryd.ntmps15
        go_wp2_with (go_at_call 42; refine (fits_three Hf.out).mono ?_; rintro e w' ⟨rfl, rfl⟩)
        go_ret3
        exact ⟨rfl, (Kept.refl _).alloc (Nat.le_refl _) _⟩
      · have h2 : d < 1 := by omega
        clear hn
        go_enter Tryd.func15, Tryd.ntmps15
        go_wp2_with (go_at_call 42; refine (fits_three Hf.out).mono ?_; rintro e w' ⟨rfl, rfl⟩)
        go_ret3
        exact ⟨rfl, (Kept.refl _).alloc (Nat.le_refl _) _⟩
    · have h1 : ¬ n < 0 := by omega
      have h2 : ¬ d < 1 := by omega
      have h3 : ¬ d = 0 := by omega
      have e1 : fracV x n d = dimV (fracQ x n d) := by simp [fracV, hf, hn]
      have e3 : fracE x n d = dimE (fracQ x n d) := by simp [fracE, hf, hn]
      cases hg : greatB (fracQ x n d)
      · have e2 : fracR x n d = (x * n).tmod d := by simp [fracR, hf, hn, hg]
        rw [e1, e2, e3]
        have k1 : dimE ((x * n).tdiv d) = 0 := dimE_no hg
        have k2 : dimV ((x * n).tdiv d) = (x * n).tdiv d := dimV_no hg
        have k3 : dimV (fracQ x n d) = (x * n).tdiv d := dimV_no hg
        have k4 : dimE (fracQ x n d) = 0 := dimE_no hg
        rw [k3, k4]; clear k3 k4
        clear hn e1 e2 e3 hg
        have Hf := Lib.hid hf; clear hf
        go_enter Tryd.func15, Tryd.ntmps15
        go_wp2_with (first | (go_at_call 42; refine (fits_three Hf.out).mono ?_; rintro e w' ⟨rfl, rfl⟩) | (go_at_call 43; refine (dimension_any _ _).mono ?_; rintro e w' ⟨rfl, rfl⟩))
        go_quiet (fail)
        go_wp2
        go_ret3
        exact ⟨rfl, below_drewN ((Kept.refl _).alloc (Nat.le_refl _) _) _⟩
      · have e2 : fracR x n d = 0 := by simp [fracR, hn, hg]
        rw [e1, e2, e3]
        have k1 : dimE ((x * n).tdiv d) = 20 := dimE_yes hg
        have k3 : dimV (fracQ x n d) = 0 := dimV_yes hg
        have k4 : dimE (fracQ x n d) = 20 := dimE_yes hg
        rw [k3, k4]; clear k3 k4
        clear hn e1 e2 e3 hg
        have Hf := Lib.hid hf; clear hf
        go_enter Tryd.func15, Tryd.ntmps15
        go_wp2_with (first | (go_at_call 42; refine (fits_three Hf.out).mono ?_; rintro e w' ⟨rfl, rfl⟩) | (go_at_call 43; refine (dimension_any _ _).mono ?_; rintro e w' ⟨rfl, rfl⟩))
        go_ret3
        exact ⟨rfl, (Kept.refl _).alloc (Nat.le_refl _) _⟩
end Go.Proofs.YtcdblgfaojejnaaDoor
