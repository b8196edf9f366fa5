/- The document's Far. -/
import Derived.Test.YtlppbapofenagaaGreatDoorAddsY
namespace Go.Proofs.YtlppbapofenagaaGreatDoor
open Go.RowKit

set_option maxHeartbeats 400000 in
theorem far_any (x : Int) (w : World) : Calls Tryz.prog 47 #[.int .i64 x] w fun e w' => e = .returned (.bool (!fitB x)) ∧ w = w' := by
  cases hr : fitB x
  · rcases fit_no hr with h | h
    · clear hr
      go_enter Tryz.func47, Tryz.ntmps47
      go_wp2
      go_ret
      exact ⟨rfl, rfl⟩
    · have h2 : ¬ x < -2147483647 := by omega
      clear hr
      go_enter Tryz.func47, Tryz.ntmps47
      go_wp2
      go_ret
      exact ⟨rfl, rfl⟩
  · obtain ⟨h1, h2⟩ := fit_yes hr
    clear hr
    go_enter Tryz.func47, Tryz.ntmps47
    go_wp2
    go_ret
    exact ⟨ret_bool (by simp; omega), rfl⟩
end Go.Proofs.YtlppbapofenagaaGreatDoor
