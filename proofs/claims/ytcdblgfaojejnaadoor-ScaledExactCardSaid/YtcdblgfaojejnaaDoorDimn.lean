/- galleylaw01.dimen: a dimension out of any number. -/
import Derived.Test.YtcdblgfaojejnaaDoorBase
namespace Go.Proofs.YtcdblgfaojejnaaDoor
open Go.RowKit

def dimn (x : Int) : Int := x.tmod 1073741824
theorem dimn_bd (x : Int) : -1073741823 ≤ dimn x ∧ dimn x ≤ 1073741823 := by
  unfold dimn
  have := Int.natAbs_tmod x 1073741824
  have h2 : (x.tmod 1073741824).natAbs < 1073741824 := by rw [this]; exact Nat.mod_lt _ (by decide)
  omega
theorem dimen_any (x : Int) (w : World) : Calls Tryd.prog 36 #[.int .i64 x] w fun e w' => e = .returned (.int .i64 (dimn x)) ∧ w = w' := by
  go_enter Tryd.func36, Tryd.ntmps36
  go_wp2
  go_ret
  exact ⟨rfl, rfl⟩
end Go.Proofs.YtcdblgfaojejnaaDoor
