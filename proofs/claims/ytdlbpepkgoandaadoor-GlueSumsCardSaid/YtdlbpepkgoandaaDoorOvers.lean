/- scaled.Over. -/
import Derived.Test.YtdlbpepkgoandaaDoorAdds
namespace Go.Proofs.YtdlbpepkgoandaaDoor
open Go.RowKit

def overV (x n : Int) : Int := if fitB x && fitB n then (if n == 0 then 0 else x.tdiv n) else 0
def overR (x n : Int) : Int := if fitB x && fitB n then (if n == 0 then 0 else x.tmod n) else 0
def overE (x n : Int) : Int := if fitB x && fitB n then (if n == 0 then 20 else 0) else 11

set_option maxHeartbeats 400000 in
theorem over_any (x n : Int) (w : World) :
    Calls Tryd.prog 28 #[.int .i64 x, .int .i64 n] w fun e w' => e = .returned (.tuple #[.int .i64 (overV x n), .int .i64 (overR x n), .int .i64 (overE x n)]) ∧ Kept w w' := by
  cases hf : (fitB x && fitB n)
  · have e1 : overV x n = 0 := by simp [overV, hf]
    have e2 : overR x n = 0 := by simp [overR, hf]
    have e3 : overE x n = 11 := by simp [overE, hf]
    rw [e1, e2, e3]
    clear e1 e2 e3
    have Hf := Lib.hid hf; clear hf
    go_enter Tryd.func28, Tryd.ntmps28
    go_wp2_with (go_at_call 23; refine (fits_two Hf.out).mono ?_; rintro e w' ⟨rfl, rfl⟩)
    go_ret3
    exact ⟨rfl, (Kept.refl _).alloc (Nat.le_refl _) _⟩
  · obtain ⟨ha, hb⟩ := Bool.and_eq_true_iff.1 hf
    obtain ⟨a1, a2⟩ := fit_yes ha
    obtain ⟨b1, b2⟩ := fit_yes hb
    clear ha hb
    by_cases hn : n = 0
    · subst hn
      have e1 : overV x 0 = 0 := by simp [overV]
      have e2 : overR x 0 = 0 := by simp [overR]
      have e3 : overE x 0 = 20 := by simp [overE, hf]
      rw [e1, e2, e3]
      clear e1 e2 e3
      have Hf := Lib.hid hf; clear hf
      go_enter Tryd.func28, Tryd.ntmps28
      go_wp2_with (first | (go_at_call 23; refine (fits_two Hf.out).mono ?_; rintro e w' ⟨rfl, rfl⟩))
      go_ret3
      exact ⟨rfl, (Kept.refl _).alloc (Nat.le_refl _) _⟩
    · have e1 : overV x n = x.tdiv n := by simp [overV, hf, hn]
      have e2 : overR x n = x.tmod n := by simp [overR, hf, hn]
      have e3 : overE x n = 0 := by simp [overE, hf, hn]
      rw [e1, e2, e3]
      clear e1 e2 e3
      have Hf := Lib.hid hf; clear hf
      go_enter Tryd.func28, Tryd.ntmps28
      go_wp2_with (first | (go_at_call 23; refine (fits_two Hf.out).mono ?_; rintro e w' ⟨rfl, rfl⟩))
      go_quiet (fail)
      go_wp2
      go_ret3
      obtain ⟨q1, q2⟩ := tdiv_bd (n := n) a1 a2
      exact ⟨ret_iii (w64 (by omega) (by omega)) rfl rfl, below_drewN ((Kept.refl _).alloc (Nat.le_refl _) _) _⟩
end Go.Proofs.YtdlbpepkgoandaaDoor
