/- galleylaw03.num, ints. -/
import Derived.Test.YtnipndfnfpofgaaKeepInts
import Derived.Test.YtnipndfnfpofgaaFontAt
namespace Go.Proofs.Ytnipndfnfpofgaa
open Go.RowKit

set_option maxHeartbeats 1000000 in
theorem fnum_any (f : Int) (w : World) : Calls Try.prog 14 #[.int .i64 f] w fun e w' => e = .returned (.int .i64 f) ∧ w = w' := by
  go_enter Try.func14, Try.ntmps14
  go_wp2
  go_ret
  exact ⟨rfl, rfl⟩
set_option maxHeartbeats 1000000 in
theorem fints_any (A B : Option Addr) (xs ys : List Int) (c d : Nat) (w : World) (hlx : xs.length ≤ 9223372036854775807) (hly : ys.length ≤ 9223372036854775807) (hx : NumsAt w A xs w.heap.size) (hy : NumsAt w B ys w.heap.size) :
    Calls Try.prog 50 #[.slice A xs.length c, .slice B ys.length d] w fun e w' => e = .returned (.bool (decide (xs = ys))) ∧ Kept w w' := by
  have h := fun w' (hk : Kept w w') => Lib.hid (sameInts_any A B xs ys c d w' hlx hly (IAt.more (IAt.below (fun hn => hx hn) hk) hk.size) (IAt.more (IAt.below (fun hn => hy hn) hk) hk.size))
  clear hx hy
  go_enter Try.func50, Try.ntmps50
  go_wp2_with (fail)
  refine (h _ (Kept.refl _)).out.mono ?_
  rintro e w1 ⟨rfl, k1⟩
  go_wp2_with (fail)
  go_ret
  exact ⟨rfl, k1⟩
end Go.Proofs.Ytnipndfnfpofgaa
