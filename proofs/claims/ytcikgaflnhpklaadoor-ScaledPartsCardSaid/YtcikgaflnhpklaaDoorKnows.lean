/- galleylaw01.num, knows: what must come. -/
import Derived.Test.YtcikgaflnhpklaaDoorParse
import Derived.Test.YtcikgaflnhpklaaDoorPrint
namespace Go.Proofs.YtcikgaflnhpklaaDoor
open Go.RowKit

theorem num_any (n : Int) (w : World) : Calls Tryd.prog 21 #[.int .i64 n] w fun e w' => e = .returned (.int .i64 n) ∧ w = w' := by
  go_enter Tryd.func21, Tryd.ntmps21
  go_wp2
  go_ret
  exact ⟨rfl, rfl⟩

theorem k_over : overV (-7) 2 = -3 ∧ overR (-7) 2 = -1 ∧ overE (-7) 2 = 0 := by decide
theorem k_parse : parseV [49, 46, 53] = 98304 ∧ parseE [49, 46, 53] = 0 := by decide
theorem k_print : printL 65536 = [49, 46, 48] := by
  unfold printL
  rw [show (absI 65536 / 65536).toNat = 1 from by decide, Lib.decDigits_one (by omega)]
  decide
theorem k_fit : fitB 65536 = true := by decide

set_option maxHeartbeats 1000000 in
theorem knows_any (w : World) (ht : Tabs w) :
    Calls Tryd.prog 22 #[] w fun e w' => e = .returned (.bool true) ∧ Kept w w' := by
  have Ho := Lib.hid (over_any (-7) 2 w)
  rw [k_over.1, k_over.2.1, k_over.2.2] at Ho
  have hp := fun w => parse_any ⟨#[49, 46, 53]⟩ w (by decide)
  have hq : ∀ w, Tabs w → Calls Tryd.prog 38 #[.int .i64 65536] w fun e w' => e = .returned (.string ⟨#[49, 46, 48]⟩) ∧ Kept w w' := fun w h => by
    have := print_any 65536 w h
    rw [k_fit, if_pos rfl, k_print] at this
    exact this
  have Hp := Lib.hid hp
  have Hq := Lib.hid hq
  clear hp hq
  rw [show (⟨#[49, 46, 53]⟩ : ByteArray).data.toList = [49, 46, 53] from rfl, k_parse.1, k_parse.2] at Hp
  go_enter Tryd.func22, Tryd.ntmps22
  go_wp2_with (fail)
  refine Ho.out.mono ?_
  rintro e w1 ⟨rfl, k1⟩
  go_wp2_with (fail)
  refine (Hp.out _).mono ?_
  rintro e w2 ⟨rfl, k2⟩
  go_wp2_with (first | (go_at_call 21; refine (num_any _ _).mono ?_; rintro e w' ⟨rfl, rfl⟩))
  refine (Hq.out _ (ht.kept (k1.trans k2))).mono ?_
  rintro e w3 ⟨rfl, k3⟩
  go_wp2
  go_ret
  exact ⟨ret_bool (by first | rfl | decide), k1.trans (k2.trans k3)⟩
end Go.Proofs.YtcikgaflnhpklaaDoor
