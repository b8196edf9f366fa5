/- The walk of galleylaw02.GlueFits. -/
import Derived.Test.YtcikgaflnhpklaaRefFit
import Derived.Test.YtcikgaflnhpklaaLive
namespace Go.Proofs.Ytcikgaflnhpklaa
open Go.RowKit

set_option maxRecDepth 100000 in
set_option maxHeartbeats 2000000 in
theorem glueFits_walk (n a0 a1 a2 a3 b0 b1 b2 b3 x : Int) (w : World) :
    Calls Try.prog 3 #[.agg #[.int .i64 n, .int .i64 a0, .int .i64 a1, .int .i64 a2, .int .i64 a3, .int .i64 b0, .int .i64 b1, .int .i64 b2, .int .i64 b3], .int .i64 x] w
      fun e w' => e = .returned (.bool true) ∧ Kept w w' := by
  have h1 := fun w => Lib.hid (fit_any n a0 a1 a2 a3 b0 b1 b2 b3 x w)
  have h2 := fun w => Lib.hid (ref_fit_any n a0 a1 a2 a3 b0 b1 b2 b3 x w)
  generalize fitT ⟨n, a0, a1, a2, a3, b0, b1, b2, b3⟩ x = F at *
  obtain ⟨f0, f1, f2, f3, f4⟩ := F
  unfold Fitted.ret at h1 h2
  go_enter Try.func3, Try.ntmps3
  go_wp2_with (fail)
  refine (h1 _).out.mono ?_
  rintro e w1 ⟨rfl, k1⟩
  obtain ⟨bc1, bf1⟩ := bcell k1
  have hz : w.heap.size + 1 ≤ w1.heap.size := by have := k1.size; simpa using this
  go_wp2_with (fail)
  refine (h2 _).out.mono ?_
  rintro e w2 ⟨rfl, k2⟩
  go_wp2_with (fail)
  refine (num_any _ _).mono ?_
  rintro e w3 ⟨rfl, rfl⟩
  go_wp2_with (fail)
  refine (live_any _).mono ?_
  rintro e w3 ⟨rfl, k3⟩
  go_wp2_with (fail)
  go_ret
  exact ⟨rfl, Kept.trans ((Kept.refl w).alloc (Nat.le_refl _) _) (Kept.trans k1 (Kept.trans k2 k3))⟩
end Go.Proofs.Ytcikgaflnhpklaa
