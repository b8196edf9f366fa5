/- The walk of galleylaw01.ScaledTexts. -/
import Derived.Test.YtcdblgfaojejnaaDoorRefMeasured
import Derived.Test.YtcdblgfaojejnaaDoorKnows
import Derived.Test.YtcdblgfaojejnaaDoorLaidUnits
namespace Go.Proofs.YtcdblgfaojejnaaDoor
open Go.RowKit

set_option maxHeartbeats 4000000 in
theorem scaledTexts_walk (text : ByteArray) (hs : text.size ≤ maxLen) (w : World) (ht : Tabs w) (hu : UnitsIs w) :
    Calls Tryd.prog 5 #[.string text] w fun e w' => e = .returned (.bool true) ∧ Kept w w' := by
  unfold maxLen at hs
  have HT := Lib.hid ht
  have HU := Lib.hid hu
  clear ht hu
  go_enter Tryd.func5, Tryd.ntmps5
  go_wp2_with (fail)
  refine (decimals_any _ _ hs).mono ?_
  rintro e u1 ⟨rfl, k1⟩
  go_wp2_with (fail)
  refine (parse_any _ _ hs).mono ?_
  rintro e u2 ⟨rfl, k2⟩
  go_wp2_with (fail)
  refine (dimen_text_any _ _ hs (HU.out.kept (k1.trans k2))).mono ?_
  rintro e u3 ⟨rfl, k3⟩
  have K := Lib.hid (k1.trans (k2.trans k3))
  clear k1 k2 k3
  go_wp2_with (first | (go_at_call 29; refine (refDecimals_any _ _ hs).mono ?_; rintro e w' ⟨rfl, rfl⟩) | (go_at_call 30; refine (refParse_any _ _ hs).mono ?_; rintro e w' ⟨rfl, rfl⟩) | (go_at_call 31; refine (refDimen_any _ _ hs).mono ?_; rintro e w' ⟨rfl, rfl⟩) | (go_at_call 20; refine (num_any _ _).mono ?_; rintro e w' ⟨rfl, rfl⟩) | (go_at_call 21; refine (knows_any _ (HT.out.kept K.out)).mono ?_; rintro e u9 ⟨rfl, k9⟩))
  go_ret
  exact ⟨ret_bool (by first | rfl | simp), K.out.trans k9⟩
end Go.Proofs.YtcdblgfaojejnaaDoor
