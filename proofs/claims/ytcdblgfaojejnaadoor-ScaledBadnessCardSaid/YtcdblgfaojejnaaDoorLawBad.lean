/- The walk of galleylaw01.ScaledBadness. -/
import Derived.Test.YtcdblgfaojejnaaDoorBad
import Derived.Test.YtcdblgfaojejnaaDoorKnows
namespace Go.Proofs.YtcdblgfaojejnaaDoor
open Go.RowKit

def dimn (x : Int) : Int := x.tmod 1073741824
theorem dimn_bd (x : Int) : -1073741823 ≤ dimn x ∧ dimn x ≤ 1073741823 := by
  unfold dimn
  have := Int.natAbs_tmod x 1073741824
  have h2 : (x.tmod 1073741824).natAbs < 1073741824 := by rw [this]; exact Nat.mod_lt _ (by decide)
  omega
theorem dimen_any (x : Int) (w : World) : Calls Tryd.prog 36 #[.int .i64 x] w fun e w' => e = .returned (.int .i64 (dimn x)) ∧ w = w' := by
  go_enter Tryd.func36, Tryd.ntmps36
  go_wp2
  go_ret
  exact ⟨rfl, rfl⟩

theorem fit_in {n : Int} (h : -1073741823 ≤ n) (h' : n ≤ 1073741823) : fitB n = true := by simp [fitB]; omega
theorem badness_in (t s : Int) (w : World) (t0 : 0 ≤ t) (t1 : t ≤ 1073741823) (s0 : -1073741823 ≤ s) (s1 : s ≤ 1073741823) :
    Calls Tryd.prog 23 #[.int .i64 t, .int .i64 s] w fun e w' => e = .returned (.tuple #[.int .i64 (badR t s), .int .i64 0]) ∧ Kept w w' := by
  have h := badness_any t s w
  have e1 : badV t s = badR t s := by simp [badV, fit_in (show -1073741823 ≤ t by omega) t1, fit_in s0 s1]; omega
  have e2 : badE t s = 0 := by simp [badE, fit_in (show -1073741823 ≤ t by omega) t1, fit_in s0 s1]; omega
  rw [e1, e2] at h
  exact h

set_option maxHeartbeats 4000000 in
set_option linter.unusedVariables false in
theorem scaledBadness_walk (t : Int) (w0 : (Lit.int .i64 t).wf = true) (s : Int) (w1 : (Lit.int .i64 s).wf = true) (more : Int) (w2 : (Lit.int .i64 more).wf = true) (w : World) (ht : Tabs w) :
    Calls Tryd.prog 9 #[.int .i64 t, .int .i64 s, .int .i64 more] w fun e w' => e = .returned (.bool true) ∧ Kept w w' := by
  clear w0 w1 w2
  have HT := Lib.hid ht
  clear ht
  obtain ⟨a0, a1⟩ := dimn_bd t
  obtain ⟨b0, b1⟩ := dimn_bd s
  obtain ⟨c0, c1⟩ := dimn_bd more
  go_enter Tryd.func9, Tryd.ntmps9
  go_wp2_with (go_at_call 36; refine (dimen_any _ _).mono ?_; rintro e w' ⟨rfl, rfl⟩)
  obtain ⟨T, hT, T0, T1⟩ : ∃ T, max (dimn t) (-dimn t) = T ∧ 0 ≤ T ∧ T ≤ 1073741823 := ⟨_, rfl, by omega, by omega⟩
  obtain ⟨M, hM, M0, M1⟩ : ∃ M, max (dimn more) (-dimn more) = M ∧ 0 ≤ M ∧ M ≤ 1073741823 := ⟨_, rfl, by omega, by omega⟩
  rw [hT, hM]
  generalize dimn s = S at *
  have f1 := badR_bd (t := T) (s := S) T0
  have f2 := badR_t (t := T) (u := min (T + M) 1073741823) (s := S) T0 (by omega)
  have f3 := badR_s (t := T) (s := S) (u := min (S + M) 1073741823) T0 (by omega)
  have f4 : 0 < T → badR T T = 100 := badR_same
  have f5 : T = 0 → badR T S = 0 ∧ badR T T = 0 := fun h => by subst h; simp [badR]
  have f6 : 0 < T → S < 1 → badR T S = 10000 := fun h h' => by unfold badR; rw [if_neg (by omega), if_pos h']
  have f7 : 0 < T → ¬ S < 1 → T ≤ 7230584 → badR T S = ofRatio (297 * T / S) := fun h h' h2 => by
    unfold badR; rw [if_neg (by omega), if_neg h']; unfold ratioR; rw [if_pos h2]
  have F4 := Lib.hid f4
  have F5 := Lib.hid f5
  have F6 := Lib.hid f6
  have F7 := Lib.hid f7
  clear hT hM a0 a1 c0 c1 f4 f5 f6 f7
  refine (badness_in _ _ _ (by omega) (by omega) (by omega) (by omega)).mono ?_
  rintro e u1 ⟨rfl, k1⟩
  go_wp2_with (fail)
  refine (badness_in _ _ _ (by omega) (by omega) (by omega) (by omega)).mono ?_
  rintro e u2 ⟨rfl, k2⟩
  go_wp2_with (fail)
  refine (badness_in _ _ _ (by omega) (by omega) (by omega) (by omega)).mono ?_
  rintro e u3 ⟨rfl, k3⟩
  go_wp2_with (fail)
  refine (badness_in _ _ _ (by omega) (by omega) (by omega) (by omega)).mono ?_
  rintro e u4 ⟨rfl, k4⟩
  have K := Lib.hid (k1.trans (k2.trans (k3.trans k4)))
  clear k1 k2 k3 k4
  generalize badR (min (T + M) 1073741823) S = C at *
  generalize badR T (min (S + M) 1073741823) = D at *
  generalize badR T S = B at *
  generalize badR T T = E at *
  obtain ⟨f0, f1⟩ := f1
  have hc : (T = 0 ∧ B = 0 ∧ E = 0) ∨ (0 < T ∧ S < 1 ∧ B = 10000 ∧ E = 100) ∨ (7230584 < T ∧ 1 ≤ S ∧ E = 100) ∨ (0 < T ∧ T ≤ 7230584 ∧ 1 ≤ S ∧ E = 100 ∧ B = ofRatio (297 * T / S)) := by
    rcases Int.lt_or_le 0 T with h | h
    · by_cases h2 : S < 1
      · exact .inr (.inl ⟨h, h2, F6.out h h2, F4.out h⟩)
      · by_cases h3 : T ≤ 7230584
        · exact .inr (.inr (.inr ⟨h, h3, by omega, F4.out h, F7.out h (by omega) h3⟩))
        · exact .inr (.inr (.inl ⟨by omega, by omega, F4.out h⟩))
    · have h0 : T = 0 := by omega
      exact .inl ⟨h0, F5.out h0⟩
  clear F4 F5 F6 F7
  have hr4 : 0 < T → T ≤ 7230584 → 1 ≤ S → 0 ≤ 297 * T / S := fun h _ h2 => Int.ediv_nonneg (by omega) (by omega)
  rcases hc with ⟨rfl, rfl, rfl⟩ | ⟨t0, s0, rfl, rfl⟩ | ⟨t0, s0, rfl⟩ | ⟨t0, t1, s0, rfl, hB⟩
  · clear hr4
    go_wp2_with (first | (go_at_call 20; refine (num_any _ _).mono ?_; rintro e w' ⟨rfl, rfl⟩) | (go_at_call 21; refine (knows_any _ (HT.out.kept K.out)).mono ?_; rintro e u9 ⟨rfl, k9⟩))
    go_ret
    exact ⟨rfl, K.out.trans k9⟩
  · clear hr4
    have ht0 : (T == 0) = false := beq_eq_false_iff_ne.2 (by omega)
    by_cases h7 : 7230584 < T
    all_goals
      go_wp2_with (first | (go_at_call 20; refine (num_any _ _).mono ?_; rintro e w' ⟨rfl, rfl⟩) | (go_at_call 21; refine (knows_any _ (HT.out.kept K.out)).mono ?_; rintro e u9 ⟨rfl, k9⟩))
      go_ret
      exact ⟨rfl, K.out.trans k9⟩
  · clear hr4
    go_wp2_with (first | (go_at_call 20; refine (num_any _ _).mono ?_; rintro e w' ⟨rfl, rfl⟩) | (go_at_call 21; refine (knows_any _ (HT.out.kept K.out)).mono ?_; rintro e u9 ⟨rfl, k9⟩))
    go_ret
    exact ⟨rfl, K.out.trans k9⟩
  · have hr := hr4 t0 t1 s0
    clear hr4
    have ht0 : (T == 0) = false := beq_eq_false_iff_ne.2 (by omega)
    have ht7 : ¬ 7230584 < T := by omega
    have hs0 : ¬ S = 0 := by omega
    have hz := ofRatio_zero hr
    have ht := ofRatio_top (r := 297 * T / S)
    have hr1 : 297 * T / S ≤ 2147483647 := by
      have := div_anti (a := 297 * T) (b := 1) (c := S) (by omega) (by omega) s0
      rw [Int.ediv_one] at this; omega
    rw [← hB] at hz ht
    have hB2 : (297 * T / S ≤ 50 ∧ B = 0) ∨ (50 < 297 * T / S ∧ 297 * T / S ≤ 1290 ∧ 0 < B) ∨ (50 < 297 * T / S ∧ 1290 < 297 * T / S ∧ B = 10000) := by
      by_cases h1 : 297 * T / S ≤ 50
      · exact .inl ⟨h1, hz.2 h1⟩
      · by_cases h2 : 297 * T / S ≤ 1290
        · refine .inr (.inl ⟨by omega, h2, ?_⟩)
          have : B ≠ 0 := fun e => h1 (hz.1 e)
          omega
        · exact .inr (.inr ⟨by omega, by omega, ht (by omega)⟩)
    clear hB hz ht
    have hB3 : (297 * T / S ≤ 50 ∧ 297 * T / S ≤ 1290 ∧ B = 0) ∨ (50 < 297 * T / S ∧ 297 * T / S ≤ 1290 ∧ (B == 0) = false) ∨ (50 < 297 * T / S ∧ 1290 < 297 * T / S ∧ B = 10000) := by
      rcases hB2 with ⟨h1, h2⟩ | ⟨h1, h2, h3⟩ | h
      · exact .inl ⟨h1, by omega, h2⟩
      · exact .inr (.inl ⟨h1, h2, beq_eq_false_iff_ne.2 (by omega)⟩)
      · exact .inr (.inr h)
    clear hB2
    rcases hB3 with ⟨h1, h2, rfl⟩ | ⟨h1, h2, h3⟩ | ⟨h1, h2, rfl⟩
    all_goals
      go_wp2_with (first | (go_at_call 20; refine (num_any _ _).mono ?_; rintro e w' ⟨rfl, rfl⟩) | (go_at_call 21; refine (knows_any _ (HT.out.kept K.out)).mono ?_; rintro e u9 ⟨rfl, k9⟩))
      go_ret
      exact ⟨ret_bool (by first | rfl | (simp only [*]; rfl) | simp_all), K.out.trans k9⟩
end Go.Proofs.YtcdblgfaojejnaaDoor
