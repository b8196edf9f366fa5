/- glue.dimension, flex.right, stretch, shrink, Check: what glue is right. -/
import Derived.Test.YtdlbpepkgoandaaDoorBase
namespace Go.Proofs.YtdlbpepkgoandaaDoor
open Go.RowKit

/-- glue -/
structure Gl where
  nat : Int
  st : Int
  sh : Int
  so : Int
  ho : Int
deriving DecidableEq

def Gl.val (g : Gl) : Value := .agg #[.int .i64 g.nat, .int .i64 g.st, .int .i64 g.sh, .int .i64 g.so, .int .i64 g.ho]
def flexV (a o : Int) : Value := .agg #[.int .i64 a, .int .i64 o]

def dimB (n : Int) : Bool := decide (-1073741823 ≤ n ∧ n ≤ 1073741823)
def ordB (o : Int) : Bool := decide (0 ≤ o ∧ o < 4)
def rightB (a o : Int) : Bool := dimB a && ordB o
def Gl.okB (g : Gl) : Bool := dimB g.nat && (rightB g.st g.so && rightB g.sh g.ho)

theorem dimB_yes {n : Int} (h : dimB n = true) : -1073741823 ≤ n ∧ n ≤ 1073741823 := by simpa [dimB] using h
theorem dimB_no {n : Int} (h : dimB n = false) : n < -1073741823 ∨ 1073741823 < n := by simp [dimB] at h; omega
theorem ordB_yes {n : Int} (h : ordB n = true) : 0 ≤ n ∧ n < 4 := by simpa [ordB] using h
theorem ordB_no {n : Int} (h : ordB n = false) : n < 0 ∨ 4 ≤ n := by simp [ordB] at h; omega

set_option maxHeartbeats 400000 in
theorem dimension_yes (n : Int) (h : dimB n = true) (w : World) :
    Calls Tryd.prog 43 #[.int .i64 n] w fun e w' => e = .returned (.bool true) ∧ w = w' := by
  obtain ⟨h1, h2⟩ := dimB_yes h
  clear h
  go_enter Tryd.func43, Tryd.ntmps43
  go_wp2
  go_ret
  exact ⟨rfl, rfl⟩
set_option maxHeartbeats 400000 in
theorem dimension_no (n : Int) (h : dimB n = false) (w : World) :
    Calls Tryd.prog 43 #[.int .i64 n] w fun e w' => e = .returned (.bool false) ∧ w = w' := by
  rcases dimB_no h with h1 | h1
  · clear h
    go_enter Tryd.func43, Tryd.ntmps43
    go_wp2
    go_ret
    exact ⟨rfl, rfl⟩
  · have h2 : ¬ n < -1073741823 := by omega
    have h3 : decide (n ≤ 1073741823) = false := decide_eq_false (by omega)
    clear h
    go_enter Tryd.func43, Tryd.ntmps43
    go_wp2
    go_ret
    exact ⟨rfl, rfl⟩
theorem gdim_any (n : Int) (w : World) :
    Calls Tryd.prog 43 #[.int .i64 n] w fun e w' => e = .returned (.bool (dimB n)) ∧ w = w' := by
  cases h : dimB n
  · exact dimension_no n h w
  · exact dimension_yes n h w

set_option maxHeartbeats 400000 in
theorem right_any (a o : Int) (w : World) :
    Calls Tryd.prog 44 #[.agg #[.int .i64 a, .int .i64 o]] w fun e w' => e = .returned (.bool (rightB a o)) ∧ Kept w w' := by
  cases ha : dimB a
  · have e1 : rightB a o = false := by simp [rightB, ha]
    rw [e1]
    have Ha := fun w => Lib.hid (dimension_no a ha w)
    clear e1 ha
    go_enter Tryd.func44, Tryd.ntmps44
    go_wp2_with (fail)
    refine (Ha _).out.mono ?_
    rintro e w' ⟨rfl, rfl⟩
    go_wp2_with (fail)
    go_ret
    exact ⟨rfl, (Kept.refl _).alloc (Nat.le_refl _) _⟩
  · have e1 : rightB a o = ordB o := by simp [rightB, ha]
    rw [e1]
    have Ha := fun w => Lib.hid (dimension_yes a ha w)
    clear e1 ha
    by_cases h0 : 0 ≤ o
    · by_cases h4 : o < 4
      · have e1 : ordB o = true := by simp [ordB, h0, h4]
        rw [e1]
        clear e1
        go_enter Tryd.func44, Tryd.ntmps44
        go_wp2_with (fail)
        refine (Ha _).out.mono ?_
        rintro e w' ⟨rfl, rfl⟩
        go_wp2_with (fail)
        go_ret
        exact ⟨rfl, (Kept.refl _).alloc (Nat.le_refl _) _⟩
      · have e1 : ordB o = false := by simp [ordB, h4]
        have e2 : decide (o < 4) = false := decide_eq_false h4
        rw [e1]
        clear e1
        go_enter Tryd.func44, Tryd.ntmps44
        go_wp2_with (fail)
        refine (Ha _).out.mono ?_
        rintro e w' ⟨rfl, rfl⟩
        go_wp2_with (fail)
        go_ret
        exact ⟨rfl, (Kept.refl _).alloc (Nat.le_refl _) _⟩
    · have e1 : ordB o = false := by simp [ordB, h0]
      have e2 : decide (0 ≤ o) = false := decide_eq_false h0
      rw [e1]
      clear e1
      go_enter Tryd.func44, Tryd.ntmps44
      go_wp2_with (fail)
      refine (Ha _).out.mono ?_
      rintro e w' ⟨rfl, rfl⟩
      go_wp2_with (fail)
      go_ret
      exact ⟨rfl, (Kept.refl _).alloc (Nat.le_refl _) _⟩

set_option maxHeartbeats 400000 in
theorem stretch_any (n a b c d : Int) (w : World) :
    Calls Tryd.prog 32 #[.agg #[.int .i64 n, .int .i64 a, .int .i64 b, .int .i64 c, .int .i64 d]] w fun e w' => e = .returned (.agg #[.int .i64 a, .int .i64 c]) ∧ Kept w w' := by
  go_enter Tryd.func32, Tryd.ntmps32
  go_wp2
  exact bodyPost_ret (v := .agg #[.int .i64 a, .int .i64 c]) (by simp [results, Tryd.results32, go_sem]) rfl ⟨rfl, ((Kept.refl _).alloc (Nat.le_refl _) _).alloc (by simp) _⟩
set_option maxHeartbeats 400000 in
theorem shrink_any (n a b c d : Int) (w : World) :
    Calls Tryd.prog 34 #[.agg #[.int .i64 n, .int .i64 a, .int .i64 b, .int .i64 c, .int .i64 d]] w fun e w' => e = .returned (.agg #[.int .i64 b, .int .i64 d]) ∧ Kept w w' := by
  go_enter Tryd.func34, Tryd.ntmps34
  go_wp2
  exact bodyPost_ret (v := .agg #[.int .i64 b, .int .i64 d]) (by simp [results, Tryd.results34, go_sem]) rfl ⟨rfl, ((Kept.refl _).alloc (Nat.le_refl _) _).alloc (by simp) _⟩
end Go.Proofs.YtdlbpepkgoandaaDoor
