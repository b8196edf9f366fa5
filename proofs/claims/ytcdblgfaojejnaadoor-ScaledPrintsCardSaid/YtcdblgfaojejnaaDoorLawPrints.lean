/- The walk of galleylaw01.ScaledPrints. -/
import Derived.Test.YtcdblgfaojejnaaDoorRefPrint
import Derived.Test.YtcdblgfaojejnaaDoorRefRoman
import Derived.Test.YtcdblgfaojejnaaDoorKnows
import Derived.Test.YtcdblgfaojejnaaDoorLaidRomans
namespace Go.Proofs.YtcdblgfaojejnaaDoor
open Go.RowKit

set_option maxHeartbeats 2000000 in
set_option linter.unusedVariables false in
theorem scaledPrints_walk (s : Int) (w0 : (Lit.int .i64 s).wf = true) (n : Int) (w1 : (Lit.int .i64 n).wf = true) (w : World) (ht : Tabs w) (hr : RomansIs w) :
    Calls Tryd.prog 6 #[.int .i64 s, .int .i64 n] w fun e w' => e = .returned (.bool true) ∧ Kept w w' := by
  clear w0 w1
  have HT := Lib.hid ht
  have HR := Lib.hid hr
  clear ht hr
  have H1 := Lib.hid (print_any s)
  have H2 := Lib.hid (refPrint_any s)
  have H3 := Lib.hid (roman_any n)
  have H4 := Lib.hid (refRoman_any n)
  generalize (if fitB s then printL s else []) = A at *
  generalize (if 1 ≤ n ∧ n ≤ 20000 then romanL n.toNat else []) = B at *
  go_enter Tryd.func6, Tryd.ntmps6
  go_wp2_with (fail)
  refine (H1.out w HT.out).mono ?_
  rintro e w2 ⟨rfl, k2⟩
  go_wp2_with (fail)
  refine (H2.out _).mono ?_
  rintro e w3 ⟨rfl, k3⟩
  go_wp2_with (fail)
  refine (H3.out _ (HR.out.kept (k2.trans k3))).mono ?_
  rintro e w4 ⟨rfl, k4⟩
  go_wp2_with (fail)
  refine (H4.out _).mono ?_
  rintro e w5 ⟨rfl, rfl⟩
  go_wp2_with (fail)
  refine (knows_any _ (HT.out.kept (k2.trans (k3.trans k4)))).mono ?_
  rintro e w6 ⟨rfl, k6⟩
  go_wp2
  go_ret
  exact ⟨ret_bool (by first | rfl | simp), k2.trans (k3.trans (k4.trans k6))⟩
end Go.Proofs.YtcdblgfaojejnaaDoor
