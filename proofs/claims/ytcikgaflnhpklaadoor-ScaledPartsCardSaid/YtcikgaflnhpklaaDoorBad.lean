/- scaled.ratio, Badness; the document's Badness. -/
import Derived.Test.YtcikgaflnhpklaaDoorBadMath
import Derived.Test.YtcikgaflnhpklaaDoorFar
namespace Go.Proofs.YtcikgaflnhpklaaDoor
open Go.RowKit

set_option maxHeartbeats 1000000 in
theorem ratio_any (t s : Int) (w : World) (t0 : 0 ≤ t) (t1 : t ≤ 2147483647) (s0 : 1 ≤ s) (s1 : s ≤ 2147483647) :
    Calls Tryd.prog 46 #[.int .i64 t, .int .i64 s] w fun e w' => e = .returned (.int .i64 (ratioR t s)) ∧ w = w' := by
  by_cases a : t ≤ 7230584
  · have e1 : ratioR t s = 297 * t / s := by unfold ratioR; rw [if_pos a]
    rw [e1]
    clear e1
    go_enter Tryd.func46, Tryd.ntmps46
    go_wp2
    go_ret
    exact ⟨rfl, rfl⟩
  · by_cases c : 1663497 ≤ s
    · have e1 : ratioR t s = t / (s / 297) := by unfold ratioR; rw [if_neg a, if_pos c]
      have hq : 0 < s / 297 := by omega
      rw [e1]
      clear e1
      go_enter Tryd.func46, Tryd.ntmps46
      go_wp2
      go_ret
      exact ⟨rfl, rfl⟩
    · have e1 : ratioR t s = t := by unfold ratioR; rw [if_neg a, if_neg c]
      rw [e1]
      clear e1
      go_enter Tryd.func46, Tryd.ntmps46
      go_wp2
      go_ret
      exact ⟨rfl, rfl⟩

set_option maxHeartbeats 2000000 in
theorem badness_any (t s : Int) (w : World) :
    Calls Tryd.prog 18 #[.int .i64 t, .int .i64 s] w fun e w' => e = .returned (.tuple #[.int .i64 (badV t s), .int .i64 (badE t s)]) ∧ Kept w w' := by
  cases hf : (fitB t && fitB s)
  · have e1 : badV t s = 0 := by simp [badV, hf]
    have e2 : badE t s = 11 := by simp [badE, hf]
    rw [e1, e2]
    have Hf := Lib.hid hf
    clear e1 e2 hf
    go_enter Tryd.func18, Tryd.ntmps18
    go_wp2_with (go_at_call 44; refine (fits_two Hf.out).mono ?_; rintro e w' ⟨rfl, rfl⟩)
    go_ret2
    exact ⟨rfl, (Kept.refl _).alloc (Nat.le_refl _) _⟩
  · obtain ⟨ha, hb⟩ := Bool.and_eq_true_iff.1 hf
    obtain ⟨t0, t1⟩ := fit_yes ha
    obtain ⟨s0, s1⟩ := fit_yes hb
    have Hf := Lib.hid hf
    clear ha hb
    by_cases hn : t < 0
    · have e1 : badV t s = 0 := by simp [badV, hn]
      have e2 : badE t s = 1 := by simp [badE, hf, hn]
      rw [e1, e2]
      clear e1 e2 hf
      go_enter Tryd.func18, Tryd.ntmps18
      go_wp2_with (go_at_call 44; refine (fits_two Hf.out).mono ?_; rintro e w' ⟨rfl, rfl⟩)
      go_ret2
      exact ⟨rfl, (Kept.refl _).alloc (Nat.le_refl _) _⟩
    · have e1 : badV t s = badR t s := by simp [badV, hf, hn]
      have e2 : badE t s = 0 := by simp [badE, hf, hn]
      rw [e1, e2]
      clear e1 e2 hf
      by_cases hz : t = 0
      · subst hz
        have e1 : badR 0 s = 0 := by simp [badR]
        rw [e1]
        clear e1
        go_enter Tryd.func18, Tryd.ntmps18
        go_wp2_with (go_at_call 44; refine (fits_two Hf.out).mono ?_; rintro e w' ⟨rfl, rfl⟩)
        go_ret2
        exact ⟨rfl, (Kept.refl _).alloc (Nat.le_refl _) _⟩
      · by_cases hs : s < 1
        · have e1 : badR t s = 10000 := by simp [badR, hz, hs]
          rw [e1]
          clear e1
          go_enter Tryd.func18, Tryd.ntmps18
          go_wp2_with (go_at_call 44; refine (fits_two Hf.out).mono ?_; rintro e w' ⟨rfl, rfl⟩)
          go_ret2
          exact ⟨rfl, (Kept.refl _).alloc (Nat.le_refl _) _⟩
        · have e1 : badR t s = ofRatio (ratioR t s) := by simp [badR, hz, hs]
          have hr := ratioR_nonneg (t := t) (s := s) (by omega) (by omega)
          have Hr := fun w => Lib.hid (ratio_any t s w (by omega) (by omega) (by omega) (by omega))
          rw [e1]
          generalize ratioR t s = r at *
          clear e1
          by_cases hb : 1290 < r
          · rw [ofRatio_top hb]
            go_enter Tryd.func18, Tryd.ntmps18
            go_wp2_with (first | (go_at_call 44; refine (fits_two Hf.out).mono ?_; rintro e w' ⟨rfl, rfl⟩) | (go_at_call 46; refine (Hr _).out.mono ?_; rintro e w' ⟨rfl, rfl⟩))
            go_ret2
            exact ⟨rfl, (Kept.refl _).alloc (Nat.le_refl _) _⟩
          · have e1 : ofRatio r = (r * r * r + 131072) / 262144 := by simp [ofRatio, hb]
            rw [e1]
            obtain ⟨q0, q1⟩ := sq_top hr (by omega)
            obtain ⟨c0, c1⟩ := cube_top hr (by omega)
            clear e1
            go_enter Tryd.func18, Tryd.ntmps18
            go_wp2_with (first | (go_at_call 44; refine (fits_two Hf.out).mono ?_; rintro e w' ⟨rfl, rfl⟩) | (go_at_call 46; refine (Hr _).out.mono ?_; rintro e w' ⟨rfl, rfl⟩))
            go_ret2
            exact ⟨rfl, (Kept.refl _).alloc (Nat.le_refl _) _⟩
end Go.Proofs.YtcikgaflnhpklaaDoor
