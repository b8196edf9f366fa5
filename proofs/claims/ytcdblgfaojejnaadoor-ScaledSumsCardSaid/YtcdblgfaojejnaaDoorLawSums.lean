/- The walk of galleylaw01.ScaledSums. -/
import Derived.Test.YtcdblgfaojejnaaDoorRefSums
import Derived.Test.YtcdblgfaojejnaaDoorKnows
namespace Go.Proofs.YtcdblgfaojejnaaDoor
open Go.RowKit

set_option maxHeartbeats 2000000 in
set_option linter.unusedVariables false in
theorem scaledSums_walk (x : Int) (w0 : (Lit.int .i64 x).wf = true) (y : Int) (w1 : (Lit.int .i64 y).wf = true) (n : Int) (w2 : (Lit.int .i64 n).wf = true) (d : Int) (w3 : (Lit.int .i64 d).wf = true) (w : World) (ht : Tabs w) :
    Calls Tryd.prog 3 #[.int .i64 x, .int .i64 y, .int .i64 n, .int .i64 d] w fun e w' => e = .returned (.bool true) ∧ Kept w w' := by
  clear w0 w1 w2 w3
  have HT := Lib.hid ht
  clear ht
  go_enter Tryd.func3, Tryd.ntmps3
  go_wp2_with (fail)
  refine (add_any _ _ _).mono ?_
  rintro e u1 ⟨rfl, k1⟩
  go_wp2_with (fail)
  refine (times_any _ _ _ _).mono ?_
  rintro e u2 ⟨rfl, k2⟩
  go_wp2_with (fail)
  refine (over_any _ _ _).mono ?_
  rintro e u3 ⟨rfl, k3⟩
  go_wp2_with (fail)
  refine (frac_any _ _ _ _).mono ?_
  rintro e u4 ⟨rfl, k4⟩
  go_wp2_with (fail)
  refine (refAdd_any _ _ _).mono ?_
  rintro e u5 ⟨rfl, rfl⟩
  go_wp2_with (fail)
  refine (refTimes_any _ _ _ _).mono ?_
  rintro e u6 ⟨rfl, rfl⟩
  go_wp2_with (fail)
  refine (refOver_any _ _ _).mono ?_
  rintro e u7 ⟨rfl, k7⟩
  go_wp2_with (fail)
  refine (refFrac_any _ _ _ _).mono ?_
  rintro e u8 ⟨rfl, k8⟩
  have K := Lib.hid (k1.trans (k2.trans (k3.trans (k4.trans (k7.trans k8)))))
  clear k1 k2 k3 k4 k7 k8
  go_wp2_with (first | (go_at_call 20; refine (num_any _ _).mono ?_; rintro e w' ⟨rfl, rfl⟩) | (go_at_call 21; refine (knows_any _ (HT.out.kept K.out)).mono ?_; rintro e u9 ⟨rfl, k9⟩))
  go_ret
  exact ⟨ret_bool (by first | rfl | simp), K.out.trans k9⟩
end Go.Proofs.YtcdblgfaojejnaaDoor
