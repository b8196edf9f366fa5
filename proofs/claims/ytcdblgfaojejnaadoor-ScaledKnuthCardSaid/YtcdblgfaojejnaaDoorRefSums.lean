/- The document's Add, Times, Over, Frac: they come to the same Lean functions. -/
import Derived.Test.YtcdblgfaojejnaaDoorSums
namespace Go.Proofs.YtcdblgfaojejnaaDoor
open Go.RowKit

set_option maxHeartbeats 400000 in
theorem far_any (x : Int) (w : World) : Calls Tryd.prog 44 #[.int .i64 x] w fun e w' => e = .returned (.bool (!fitB x)) ∧ w = w' := by
  cases hr : fitB x
  · rcases fit_no hr with h | h
    · clear hr
      go_enter Tryd.func44, Tryd.ntmps44
      go_wp2
      go_ret
      exact ⟨rfl, rfl⟩
    · have h2 : ¬ x < -2147483647 := by omega
      clear hr
      go_enter Tryd.func44, Tryd.ntmps44
      go_wp2
      go_ret
      exact ⟨rfl, rfl⟩
  · obtain ⟨h1, h2⟩ := fit_yes hr
    clear hr
    go_enter Tryd.func44, Tryd.ntmps44
    go_wp2
    go_ret
    exact ⟨ret_bool (by simp; omega), rfl⟩
set_option maxHeartbeats 400000 in
theorem great_any (x : Int) (w : World) : Calls Tryd.prog 45 #[.int .i64 x] w fun e w' => e = .returned (.bool (greatB x)) ∧ w = w' := by
  cases hr : greatB x
  · obtain ⟨h1, h2⟩ := great_no hr
    clear hr
    go_enter Tryd.func45, Tryd.ntmps45
    go_wp2
    go_ret
    exact ⟨ret_bool (by simp; omega), rfl⟩
  · rcases great_yes hr with h | h
    · clear hr
      go_enter Tryd.func45, Tryd.ntmps45
      go_wp2
      go_ret
      exact ⟨rfl, rfl⟩
    · have h2 : ¬ x < -1073741823 := by omega
      clear hr
      go_enter Tryd.func45, Tryd.ntmps45
      go_wp2
      go_ret
      exact ⟨rfl, rfl⟩

set_option maxHeartbeats 1000000 in
theorem refAdd_any (a b : Int) (w : World) :
    Calls Tryd.prog 16 #[.int .i64 a, .int .i64 b] w fun e w' => e = .returned (.tuple #[.int .i64 (addV a b), .int .i64 (addE a b)]) ∧ w = w' := by
  cases ha : fitB a
  · have e1 : addV a b = 0 := by simp [addV, ha]
    have e2 : addE a b = 11 := by simp [addE, ha]
    rw [e1, e2]
    clear e1 e2
    go_enter Tryd.func16, Tryd.ntmps16
    go_wp2_with (go_at_call 44; refine (far_any _ _).mono ?_; rintro e w' ⟨rfl, rfl⟩)
    go_ret2
    exact ⟨rfl, rfl⟩
  · cases hb : fitB b
    · have e1 : addV a b = 0 := by simp [addV, hb]
      have e2 : addE a b = 11 := by simp [addE, hb]
      rw [e1, e2]
      clear e1 e2
      go_enter Tryd.func16, Tryd.ntmps16
      go_wp2_with (go_at_call 44; refine (far_any _ _).mono ?_; rintro e w' ⟨rfl, rfl⟩)
      go_ret2
      exact ⟨rfl, rfl⟩
    · have e1 : addV a b = dimV (a + b) := by simp [addV, ha, hb]
      have e2 : addE a b = dimE (a + b) := by simp [addE, ha, hb]
      obtain ⟨a1, a2⟩ := fit_yes ha
      obtain ⟨b1, b2⟩ := fit_yes hb
      cases hg : greatB (a + b)
      all_goals
        first | rw [e1, e2, dimV_no hg, dimE_no hg] | rw [e1, e2, dimV_yes hg, dimE_yes hg]
        clear e1 e2
        go_enter Tryd.func16, Tryd.ntmps16
        go_wp2_with (first | (go_at_call 44; refine (far_any _ _).mono ?_; rintro e w' ⟨rfl, rfl⟩) | (go_at_call 45; refine (great_any _ _).mono ?_; rintro e w' ⟨rfl, rfl⟩))
        go_ret2
        exact ⟨rfl, rfl⟩

set_option maxHeartbeats 2000000 in
theorem refTimes_any (n x y : Int) (w : World) :
    Calls Tryd.prog 17 #[.int .i64 n, .int .i64 x, .int .i64 y] w fun e w' => e = .returned (.tuple #[.int .i64 (timesV n x y), .int .i64 (timesE n x y)]) ∧ w = w' := by
  cases ha : fitB n
  · have e1 : timesV n x y = 0 := by simp [timesV, ha]
    have e2 : timesE n x y = 11 := by simp [timesE, ha]
    rw [e1, e2]
    clear e1 e2
    go_enter Tryd.func17, Tryd.ntmps17
    go_wp2_with (go_at_call 44; refine (far_any _ _).mono ?_; rintro e w' ⟨rfl, rfl⟩)
    go_ret2
    exact ⟨rfl, rfl⟩
  · cases hb : fitB x
    · have e1 : timesV n x y = 0 := by simp [timesV, hb]
      have e2 : timesE n x y = 11 := by simp [timesE, hb]
      rw [e1, e2]
      clear e1 e2
      go_enter Tryd.func17, Tryd.ntmps17
      go_wp2_with (go_at_call 44; refine (far_any _ _).mono ?_; rintro e w' ⟨rfl, rfl⟩)
      go_ret2
      exact ⟨rfl, rfl⟩
    · cases hc : fitB y
      · have e1 : timesV n x y = 0 := by simp [timesV, hc]
        have e2 : timesE n x y = 11 := by simp [timesE, hc]
        rw [e1, e2]
        clear e1 e2
        go_enter Tryd.func17, Tryd.ntmps17
        go_wp2_with (go_at_call 44; refine (far_any _ _).mono ?_; rintro e w' ⟨rfl, rfl⟩)
        go_ret2
        exact ⟨rfl, rfl⟩
      · have e1 : timesV n x y = dimV (n * x + y) := by simp [timesV, ha, hb, hc]
        have e2 : timesE n x y = dimE (n * x + y) := by simp [timesE, ha, hb, hc]
        obtain ⟨p1, p2⟩ := prod_bd (fit_yes ha) (fit_yes hb)
        obtain ⟨a1, a2⟩ := fit_yes ha
        obtain ⟨b1, b2⟩ := fit_yes hb
        obtain ⟨c1, c2⟩ := fit_yes hc
        cases hg : greatB (n * x + y)
        all_goals
          first | rw [e1, e2, dimV_no hg, dimE_no hg] | rw [e1, e2, dimV_yes hg, dimE_yes hg]
          clear e1 e2
          go_enter Tryd.func17, Tryd.ntmps17
          go_wp2_with (first | (go_at_call 44; refine (far_any _ _).mono ?_; rintro e w' ⟨rfl, rfl⟩) | (go_at_call 45; refine (great_any _ _).mono ?_; rintro e w' ⟨rfl, rfl⟩))
          go_ret2
          exact ⟨rfl, rfl⟩

set_option maxHeartbeats 2000000 in
theorem refOver_any (x n : Int) (w : World) :
    Calls Tryd.prog 18 #[.int .i64 x, .int .i64 n] w fun e w' => e = .returned (.tuple #[.int .i64 (overV x n), .int .i64 (overR x n), .int .i64 (overE x n)]) ∧ Kept w w' := by
  cases ha : fitB x
  · have e1 : overV x n = 0 := by simp [overV, ha]
    have e2 : overR x n = 0 := by simp [overR, ha]
    have e3 : overE x n = 11 := by simp [overE, ha]
    rw [e1, e2, e3]
    clear e1 e2 e3
    go_enter Tryd.func18, Tryd.ntmps18
    go_wp2_with (go_at_call 44; refine (far_any _ _).mono ?_; rintro e w' ⟨rfl, rfl⟩)
    go_ret3
    exact ⟨rfl, Kept.refl _⟩
  · cases hb : fitB n
    · have e1 : overV x n = 0 := by simp [overV, hb]
      have e2 : overR x n = 0 := by simp [overR, hb]
      have e3 : overE x n = 11 := by simp [overE, hb]
      rw [e1, e2, e3]
      clear e1 e2 e3
      go_enter Tryd.func18, Tryd.ntmps18
      go_wp2_with (go_at_call 44; refine (far_any _ _).mono ?_; rintro e w' ⟨rfl, rfl⟩)
      go_ret3
      exact ⟨rfl, Kept.refl _⟩
    · obtain ⟨a1, a2⟩ := fit_yes ha
      obtain ⟨b1, b2⟩ := fit_yes hb
      by_cases hn : n = 0
      · subst hn
        have e1 : overV x 0 = 0 := by simp [overV]
        have e2 : overR x 0 = 0 := by simp [overR]
        have e3 : overE x 0 = 20 := by simp [overE, ha, hb]
        rw [e1, e2, e3]
        clear e1 e2 e3
        go_enter Tryd.func18, Tryd.ntmps18
        go_wp2_with (go_at_call 44; refine (far_any _ _).mono ?_; rintro e w' ⟨rfl, rfl⟩)
        go_ret3
        exact ⟨rfl, Kept.refl _⟩
      · have e1 : overV x n = x.tdiv n := by simp [overV, ha, hb, hn]
        have e2 : overR x n = x.tmod n := by simp [overR, ha, hb, hn]
        have e3 : overE x n = 0 := by simp [overE, ha, hb, hn]
        rw [e1, e2, e3]
        clear e1 e2 e3
        obtain ⟨q1, q2⟩ := tdiv_bd (n := n) a1 a2
        go_enter Tryd.func18, Tryd.ntmps18
        go_wp2_with (go_at_call 44; refine (far_any _ _).mono ?_; rintro e w' ⟨rfl, rfl⟩)
        go_quiet (fail)
        go_wp2
        go_ret3
        exact ⟨ret_iii (by first | rfl | exact w64 (by omega) (by omega)) rfl rfl, below_drewN (Kept.refl _) _⟩

set_option maxHeartbeats 2000000 in
theorem refFrac_any (x n d : Int) (w : World) :
    Calls Tryd.prog 19 #[.int .i64 x, .int .i64 n, .int .i64 d] w fun e w' => e = .returned (.tuple #[.int .i64 (fracV x n d), .int .i64 (fracR x n d), .int .i64 (fracE x n d)]) ∧ Kept w w' := by
  cases hf : (fitB x && (fitB n && fitB d))
  · have e1 : fracV x n d = 0 := by simp [fracV, hf]
    have e2 : fracR x n d = 0 := by simp [fracR, hf]
    have e3 : fracE x n d = 11 := by simp [fracE, hf]
    rw [e1, e2, e3]
    clear e1 e2 e3
    cases ha : fitB x
    · clear hf
      go_enter Tryd.func19, Tryd.ntmps19
      go_wp2_with (go_at_call 44; refine (far_any _ _).mono ?_; rintro e w' ⟨rfl, rfl⟩)
      go_ret3
      exact ⟨rfl, Kept.refl _⟩
    · cases hb : fitB n
      · clear hf
        go_enter Tryd.func19, Tryd.ntmps19
        go_wp2_with (go_at_call 44; refine (far_any _ _).mono ?_; rintro e w' ⟨rfl, rfl⟩)
        go_ret3
        exact ⟨rfl, Kept.refl _⟩
      · have hc : fitB d = false := by simpa [ha, hb] using hf
        clear hf
        go_enter Tryd.func19, Tryd.ntmps19
        go_wp2_with (go_at_call 44; refine (far_any _ _).mono ?_; rintro e w' ⟨rfl, rfl⟩)
        go_ret3
        exact ⟨rfl, Kept.refl _⟩
  · obtain ⟨ha, hb⟩ := Bool.and_eq_true_iff.1 hf
    obtain ⟨hb, hc⟩ := Bool.and_eq_true_iff.1 hb
    obtain ⟨p1, p2⟩ := prod_bd (fit_yes ha) (fit_yes hb)
    obtain ⟨q1, q2⟩ := tdiv_bd (n := d) p1 p2
    obtain ⟨a1, a2⟩ := fit_yes ha
    obtain ⟨b1, b2⟩ := fit_yes hb
    obtain ⟨c1, c2⟩ := fit_yes hc
    by_cases hn : n < 0 ∨ d < 1
    · have e1 : fracV x n d = 0 := by simp [fracV, hn]
      have e2 : fracR x n d = 0 := by simp [fracR, hn]
      have e3 : fracE x n d = 1 := by simp [fracE, hf, hn]
      rw [e1, e2, e3]
      clear e1 e2 e3 hf
      by_cases h1 : n < 0
      · clear hn
        go_enter Tryd.func19, Tryd.ntmps19
        go_wp2_with (go_at_call 44; refine (far_any _ _).mono ?_; rintro e w' ⟨rfl, rfl⟩)
        go_ret3
        exact ⟨rfl, Kept.refl _⟩
      · have h2 : d < 1 := by omega
        clear hn
        go_enter Tryd.func19, Tryd.ntmps19
        go_wp2_with (go_at_call 44; refine (far_any _ _).mono ?_; rintro e w' ⟨rfl, rfl⟩)
        go_ret3
        exact ⟨rfl, Kept.refl _⟩
    · have h1 : ¬ n < 0 := by omega
      have h2 : ¬ d < 1 := by omega
      have h3 : ¬ d = 0 := by omega
      have e1 : fracV x n d = dimV ((x * n).tdiv d) := by simp [fracV, fracQ, hf, hn]
      have e3 : fracE x n d = dimE ((x * n).tdiv d) := by simp [fracE, fracQ, hf, hn]
      cases hg : greatB ((x * n).tdiv d)
      · have e2 : fracR x n d = (x * n).tmod d := by simp [fracR, fracQ, hf, hn, hg]
        rw [e1, e2, e3, dimE_no hg, dimV_no hg]
        clear hn e1 e2 e3 hf
        go_enter Tryd.func19, Tryd.ntmps19
        go_wp2_with (first | (go_at_call 44; refine (far_any _ _).mono ?_; rintro e w' ⟨rfl, rfl⟩) | (go_at_call 45; refine (great_any _ _).mono ?_; rintro e w' ⟨rfl, rfl⟩))
        go_quiet (fail)
        go_wp2
        go_ret3
        exact ⟨rfl, below_drewN (Kept.refl _) _⟩
      · have e2 : fracR x n d = 0 := by simp [fracR, fracQ, hn, hg]
        rw [e1, e2, e3, dimE_yes hg, dimV_yes hg]
        clear hn e1 e2 e3 hf
        go_enter Tryd.func19, Tryd.ntmps19
        go_wp2_with (first | (go_at_call 44; refine (far_any _ _).mono ?_; rintro e w' ⟨rfl, rfl⟩) | (go_at_call 45; refine (great_any _ _).mono ?_; rintro e w' ⟨rfl, rfl⟩))
        go_ret3
        exact ⟨rfl, Kept.refl _⟩
end Go.Proofs.YtcdblgfaojejnaaDoor
