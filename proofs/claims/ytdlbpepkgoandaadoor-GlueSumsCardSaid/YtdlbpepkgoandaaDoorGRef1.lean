/- galleyref02.dimen, Check, joined, right, times: each comes to what the program's own come to. -/
import Derived.Test.YtdlbpepkgoandaaDoorGlueMath
namespace Go.Proofs.YtdlbpepkgoandaaDoor
open Go.RowKit

set_option maxHeartbeats 400000 in
theorem rdim_yes (n : Int) (h : dimB n = true) (w : World) :
    Calls Tryd.prog 45 #[.int .i64 n] w fun e w' => e = .returned (.bool true) ∧ w = w' := by
  obtain ⟨h1, h2⟩ := dimB_yes h
  clear h
  go_enter Tryd.func45, Tryd.ntmps45
  go_wp2
  go_ret
  exact ⟨rfl, rfl⟩
set_option maxHeartbeats 400000 in
theorem rdim_no (n : Int) (h : dimB n = false) (w : World) :
    Calls Tryd.prog 45 #[.int .i64 n] w fun e w' => e = .returned (.bool false) ∧ w = w' := by
  rcases dimB_no h with h1 | h1
  · have h2 : decide (-1073741823 ≤ n) = false := decide_eq_false (by omega)
    clear h
    go_enter Tryd.func45, Tryd.ntmps45
    go_wp2
    go_ret
    exact ⟨rfl, rfl⟩
  · have h2 : -1073741823 ≤ n := by omega
    have h3 : decide (n ≤ 1073741823) = false := decide_eq_false (by omega)
    clear h
    go_enter Tryd.func45, Tryd.ntmps45
    go_wp2
    go_ret
    exact ⟨rfl, rfl⟩

set_option maxHeartbeats 1000000 in
theorem rcheck_0 (n a b c d : Int) (w : World) (h0 : dimB n = false) :
    Calls Tryd.prog 19 #[.agg #[.int .i64 n, .int .i64 a, .int .i64 b, .int .i64 c, .int .i64 d]] w fun e w' => e = .returned (.int .i64 30) ∧ Kept w w' := by
  have H0 := fun w => Lib.hid (rdim_no n h0 w)
  clear h0
  go_enter Tryd.func19, Tryd.ntmps19
  go_wp2_with (fail)
  refine (H0 _).out.mono ?_
  rintro e w' ⟨rfl, rfl⟩
  go_wp2_with (fail)
  go_ret
  exact ⟨rfl, (Kept.refl _).alloc (Nat.le_refl _) _⟩

set_option maxHeartbeats 1000000 in
theorem rcheck_1 (n a b c d : Int) (w : World) (h0 : dimB n = true) (h1 : dimB a = false) :
    Calls Tryd.prog 19 #[.agg #[.int .i64 n, .int .i64 a, .int .i64 b, .int .i64 c, .int .i64 d]] w fun e w' => e = .returned (.int .i64 30) ∧ Kept w w' := by
  have H0 := fun w => Lib.hid (rdim_yes n h0 w)
  have H1 := fun w => Lib.hid (rdim_no a h1 w)
  clear h0 h1
  go_enter Tryd.func19, Tryd.ntmps19
  go_wp2_with (fail)
  refine (H0 _).out.mono ?_
  rintro e w' ⟨rfl, rfl⟩
  go_wp2_with (fail)
  refine (H1 _).out.mono ?_
  rintro e w' ⟨rfl, rfl⟩
  go_wp2_with (fail)
  go_ret
  exact ⟨rfl, (Kept.refl _).alloc (Nat.le_refl _) _⟩

set_option maxHeartbeats 1000000 in
theorem rcheck_2 (n a b c d : Int) (w : World) (h0 : dimB n = true) (h1 : dimB a = true) (h2 : dimB b = false) :
    Calls Tryd.prog 19 #[.agg #[.int .i64 n, .int .i64 a, .int .i64 b, .int .i64 c, .int .i64 d]] w fun e w' => e = .returned (.int .i64 30) ∧ Kept w w' := by
  have H0 := fun w => Lib.hid (rdim_yes n h0 w)
  have H1 := fun w => Lib.hid (rdim_yes a h1 w)
  have H2 := fun w => Lib.hid (rdim_no b h2 w)
  clear h0 h1 h2
  go_enter Tryd.func19, Tryd.ntmps19
  go_wp2_with (fail)
  refine (H0 _).out.mono ?_
  rintro e w' ⟨rfl, rfl⟩
  go_wp2_with (fail)
  refine (H1 _).out.mono ?_
  rintro e w' ⟨rfl, rfl⟩
  go_wp2_with (fail)
  refine (H2 _).out.mono ?_
  rintro e w' ⟨rfl, rfl⟩
  go_wp2_with (fail)
  go_ret
  exact ⟨rfl, (Kept.refl _).alloc (Nat.le_refl _) _⟩

set_option maxHeartbeats 1000000 in
theorem rcheck_3 (n a b c d : Int) (w : World) (h0 : dimB n = true) (h1 : dimB a = true) (h2 : dimB b = true) (h3 : c < 0) :
    Calls Tryd.prog 19 #[.agg #[.int .i64 n, .int .i64 a, .int .i64 b, .int .i64 c, .int .i64 d]] w fun e w' => e = .returned (.int .i64 30) ∧ Kept w w' := by
  have H0 := fun w => Lib.hid (rdim_yes n h0 w)
  have H1 := fun w => Lib.hid (rdim_yes a h1 w)
  have H2 := fun w => Lib.hid (rdim_yes b h2 w)
  clear h0 h1 h2
  go_enter Tryd.func19, Tryd.ntmps19
  go_wp2_with (fail)
  refine (H0 _).out.mono ?_
  rintro e w' ⟨rfl, rfl⟩
  go_wp2_with (fail)
  refine (H1 _).out.mono ?_
  rintro e w' ⟨rfl, rfl⟩
  go_wp2_with (fail)
  refine (H2 _).out.mono ?_
  rintro e w' ⟨rfl, rfl⟩
  go_wp2_with (fail)
  go_ret
  exact ⟨rfl, (Kept.refl _).alloc (Nat.le_refl _) _⟩

set_option maxHeartbeats 1000000 in
theorem rcheck_4 (n a b c d : Int) (w : World) (h0 : dimB n = true) (h1 : dimB a = true) (h2 : dimB b = true) (h3 : ¬ c < 0) (h4 : 3 < c) :
    Calls Tryd.prog 19 #[.agg #[.int .i64 n, .int .i64 a, .int .i64 b, .int .i64 c, .int .i64 d]] w fun e w' => e = .returned (.int .i64 30) ∧ Kept w w' := by
  have H0 := fun w => Lib.hid (rdim_yes n h0 w)
  have H1 := fun w => Lib.hid (rdim_yes a h1 w)
  have H2 := fun w => Lib.hid (rdim_yes b h2 w)
  clear h0 h1 h2
  go_enter Tryd.func19, Tryd.ntmps19
  go_wp2_with (fail)
  refine (H0 _).out.mono ?_
  rintro e w' ⟨rfl, rfl⟩
  go_wp2_with (fail)
  refine (H1 _).out.mono ?_
  rintro e w' ⟨rfl, rfl⟩
  go_wp2_with (fail)
  refine (H2 _).out.mono ?_
  rintro e w' ⟨rfl, rfl⟩
  go_wp2_with (fail)
  go_ret
  exact ⟨rfl, (Kept.refl _).alloc (Nat.le_refl _) _⟩

set_option maxHeartbeats 1000000 in
theorem rcheck_5 (n a b c d : Int) (w : World) (h0 : dimB n = true) (h1 : dimB a = true) (h2 : dimB b = true) (h3 : ¬ c < 0) (h4 : ¬ 3 < c) (h5 : d < 0) :
    Calls Tryd.prog 19 #[.agg #[.int .i64 n, .int .i64 a, .int .i64 b, .int .i64 c, .int .i64 d]] w fun e w' => e = .returned (.int .i64 30) ∧ Kept w w' := by
  have H0 := fun w => Lib.hid (rdim_yes n h0 w)
  have H1 := fun w => Lib.hid (rdim_yes a h1 w)
  have H2 := fun w => Lib.hid (rdim_yes b h2 w)
  clear h0 h1 h2
  go_enter Tryd.func19, Tryd.ntmps19
  go_wp2_with (fail)
  refine (H0 _).out.mono ?_
  rintro e w' ⟨rfl, rfl⟩
  go_wp2_with (fail)
  refine (H1 _).out.mono ?_
  rintro e w' ⟨rfl, rfl⟩
  go_wp2_with (fail)
  refine (H2 _).out.mono ?_
  rintro e w' ⟨rfl, rfl⟩
  go_wp2_with (fail)
  go_ret
  exact ⟨rfl, (Kept.refl _).alloc (Nat.le_refl _) _⟩

set_option maxHeartbeats 1000000 in
theorem rcheck_6 (n a b c d : Int) (w : World) (h0 : dimB n = true) (h1 : dimB a = true) (h2 : dimB b = true) (h3 : ¬ c < 0) (h4 : ¬ 3 < c) (h5 : ¬ d < 0) (h6 : 3 < d) :
    Calls Tryd.prog 19 #[.agg #[.int .i64 n, .int .i64 a, .int .i64 b, .int .i64 c, .int .i64 d]] w fun e w' => e = .returned (.int .i64 30) ∧ Kept w w' := by
  have H0 := fun w => Lib.hid (rdim_yes n h0 w)
  have H1 := fun w => Lib.hid (rdim_yes a h1 w)
  have H2 := fun w => Lib.hid (rdim_yes b h2 w)
  clear h0 h1 h2
  go_enter Tryd.func19, Tryd.ntmps19
  go_wp2_with (fail)
  refine (H0 _).out.mono ?_
  rintro e w' ⟨rfl, rfl⟩
  go_wp2_with (fail)
  refine (H1 _).out.mono ?_
  rintro e w' ⟨rfl, rfl⟩
  go_wp2_with (fail)
  refine (H2 _).out.mono ?_
  rintro e w' ⟨rfl, rfl⟩
  go_wp2_with (fail)
  go_ret
  exact ⟨rfl, (Kept.refl _).alloc (Nat.le_refl _) _⟩

set_option maxHeartbeats 1000000 in
theorem rcheck_7 (n a b c d : Int) (w : World) (h0 : dimB n = true) (h1 : dimB a = true) (h2 : dimB b = true) (h3 : ¬ c < 0) (h4 : ¬ 3 < c) (h5 : ¬ d < 0) (h6 : ¬ 3 < d) :
    Calls Tryd.prog 19 #[.agg #[.int .i64 n, .int .i64 a, .int .i64 b, .int .i64 c, .int .i64 d]] w fun e w' => e = .returned (.int .i64 0) ∧ Kept w w' := by
  have H0 := fun w => Lib.hid (rdim_yes n h0 w)
  have H1 := fun w => Lib.hid (rdim_yes a h1 w)
  have H2 := fun w => Lib.hid (rdim_yes b h2 w)
  clear h0 h1 h2
  go_enter Tryd.func19, Tryd.ntmps19
  go_wp2_with (fail)
  refine (H0 _).out.mono ?_
  rintro e w' ⟨rfl, rfl⟩
  go_wp2_with (fail)
  refine (H1 _).out.mono ?_
  rintro e w' ⟨rfl, rfl⟩
  go_wp2_with (fail)
  refine (H2 _).out.mono ?_
  rintro e w' ⟨rfl, rfl⟩
  go_wp2_with (fail)
  go_ret
  exact ⟨rfl, (Kept.refl _).alloc (Nat.le_refl _) _⟩

theorem rcheck_any (n a b c d : Int) (w : World) :
    Calls Tryd.prog 19 #[.agg #[.int .i64 n, .int .i64 a, .int .i64 b, .int .i64 c, .int .i64 d]] w fun e w' => e = .returned (.int .i64 (Gl.err ⟨n, a, b, c, d⟩)) ∧ Kept w w' := by
  have bad : ∀ {x : Bool}, Gl.okB ⟨n, a, b, c, d⟩ = false → Gl.err ⟨n, a, b, c, d⟩ = 30 := fun h => by simp [Gl.err, h]
  cases h0 : dimB n
  · rw [bad (x := true) (by simp [Gl.okB, h0])]; exact rcheck_0 n a b c d w h0
  · cases h1 : dimB a
    · rw [bad (x := true) (by simp [Gl.okB, rightB, h1])]; exact rcheck_1 n a b c d w h0 h1
    · cases h2 : dimB b
      · rw [bad (x := true) (by simp [Gl.okB, rightB, h2])]; exact rcheck_2 n a b c d w h0 h1 h2
      · by_cases h3 : c < 0
        · rw [bad (x := true) (by simp [Gl.okB, rightB, ordB]; omega)]; exact rcheck_3 n a b c d w h0 h1 h2 h3
        · by_cases h4 : 3 < c
          · rw [bad (x := true) (by simp [Gl.okB, rightB, ordB]; omega)]; exact rcheck_4 n a b c d w h0 h1 h2 h3 h4
          · by_cases h5 : d < 0
            · rw [bad (x := true) (by simp [Gl.okB, rightB, ordB]; omega)]; exact rcheck_5 n a b c d w h0 h1 h2 h3 h4 h5
            · by_cases h6 : 3 < d
              · rw [bad (x := true) (by simp [Gl.okB, rightB, ordB]; omega)]; exact rcheck_6 n a b c d w h0 h1 h2 h3 h4 h5 h6
              · have e1 : Gl.err ⟨n, a, b, c, d⟩ = 0 := by
                  have c1 : ordB c = true := by unfold ordB; exact decide_eq_true (by omega)
                  have d1 : ordB d = true := by unfold ordB; exact decide_eq_true (by omega)
                  simp [Gl.err, Gl.okB, rightB, h0, h1, h2, c1, d1]
                rw [e1]
                exact rcheck_7 n a b c d w h0 h1 h2 h3 h4 h5 h6

end Go.Proofs.YtdlbpepkgoandaaDoor
