/- The walk of galleylaw02.GlueShares. -/
import Derived.Test.YtcikgaflnhpklaaRefShare
import Derived.Test.YtcikgaflnhpklaaLive
namespace Go.Proofs.Ytcikgaflnhpklaa
open Go.RowKit

set_option maxHeartbeats 2000000 in
theorem glueShares_walk (s : Int) (ws : (Lit.int .i64 s).wf = true) (n : Int) (wn : (Lit.int .i64 n).wf = true) (d : Int) (wd : (Lit.int .i64 d).wf = true) (w : World) :
    Calls Try.prog 4 #[.int .i64 s, .int .i64 n, .int .i64 d] w fun e w' => e = .returned (.bool true) ∧ Kept w w' := by
  clear ws wn wd
  have h1 := fun w => Lib.hid (share_any s n d w)
  have h2 := fun w => Lib.hid (ref_share_any s n d w)
  generalize shareV s n d = V at *
  generalize shareE s n d = E at *
  go_enter Try.func4, Try.ntmps4
  go_wp2_with (fail)
  refine (h1 _).out.mono ?_
  rintro e w1 ⟨rfl, k1⟩
  go_wp2_with (fail)
  refine (h2 _).out.mono ?_
  rintro e w2 ⟨rfl, k2⟩
  go_wp2_with (fail)
  refine (num_any _ _).mono ?_
  rintro e w3 ⟨rfl, rfl⟩
  go_wp2_with (fail)
  refine (live_any _).mono ?_
  rintro e w3 ⟨rfl, k3⟩
  go_wp2_with (fail)
  go_ret
  exact ⟨rfl, Kept.trans k1 (Kept.trans k2 k3)⟩
end Go.Proofs.Ytcikgaflnhpklaa
