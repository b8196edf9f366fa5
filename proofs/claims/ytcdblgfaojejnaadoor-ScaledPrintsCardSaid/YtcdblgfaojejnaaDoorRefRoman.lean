/- The document's roman, Roman. -/
import Derived.Test.YtcdblgfaojejnaaDoorRoman
namespace Go.Proofs.YtcdblgfaojejnaaDoor
open Go.RowKit

abbrev bstr (l : List UInt8) : ByteArray := ⟨l.toArray⟩
theorem place_len (k : Nat) (a b c : List UInt8) (ha : a.length ≤ 100) (hb : b.length ≤ 100) (hc : c.length ≤ 100) : (place k a b c).length ≤ 400 := by
  unfold place; split
  all_goals first | omega | (simp only [List.length_append]; omega) | (simp only [List.length_nil]; omega)
def PlaceAt (k : Nat) : Prop := ∀ (a b c : List UInt8) (w : World), a.length ≤ 100 → b.length ≤ 100 → c.length ≤ 100 → Calls Tryd.prog 66 #[.int .i64 k, .string (bstr a), .string (bstr b), .string (bstr c)] w fun e w' => e = .returned (.string (bstr (place k a b c))) ∧ w = w'

theorem place0 : PlaceAt 0 := by
  intro a b c w ha hb hc
  show Calls _ _ #[.int .i64 0, _, _, _] _ _
  go_enter Tryd.func66, Tryd.ntmps66
  go_wp2
  go_ret
  exact ⟨rfl, rfl⟩
theorem place1 : PlaceAt 1 := by
  intro a b c w ha hb hc
  show Calls _ _ #[.int .i64 1, _, _, _] _ _
  have H := fun w => Lib.hid (place0 a b c w ha hb hc)
  have hp := place_len 0 a b c ha hb hc
  go_enter Tryd.func66, Tryd.ntmps66
  go_wp2_with (go_at_call 66; refine (H _).out.mono ?_; rintro e w' ⟨rfl, rfl⟩)
  go_ret
  exact ⟨ret_str (by first | rfl | (apply WideShapes.bytes_inj; simp [place, bstr])), rfl⟩
theorem place2 : PlaceAt 2 := by
  intro a b c w ha hb hc
  show Calls _ _ #[.int .i64 2, _, _, _] _ _
  have H := fun w => Lib.hid (place1 a b c w ha hb hc)
  have hp := place_len 1 a b c ha hb hc
  go_enter Tryd.func66, Tryd.ntmps66
  go_wp2_with (go_at_call 66; refine (H _).out.mono ?_; rintro e w' ⟨rfl, rfl⟩)
  go_ret
  exact ⟨ret_str (by first | rfl | (apply WideShapes.bytes_inj; simp [place, bstr])), rfl⟩
theorem place3 : PlaceAt 3 := by
  intro a b c w ha hb hc
  show Calls _ _ #[.int .i64 3, _, _, _] _ _
  have H := fun w => Lib.hid (place2 a b c w ha hb hc)
  have hp := place_len 2 a b c ha hb hc
  go_enter Tryd.func66, Tryd.ntmps66
  go_wp2_with (go_at_call 66; refine (H _).out.mono ?_; rintro e w' ⟨rfl, rfl⟩)
  go_ret
  exact ⟨ret_str (by first | rfl | (apply WideShapes.bytes_inj; simp [place, bstr])), rfl⟩
theorem place4 : PlaceAt 4 := by
  intro a b c w ha hb hc
  show Calls _ _ #[.int .i64 4, _, _, _] _ _
  go_enter Tryd.func66, Tryd.ntmps66
  go_wp2
  go_ret
  exact ⟨ret_str (by first | rfl | (apply WideShapes.bytes_inj; simp [place, bstr])), rfl⟩
theorem place5 : PlaceAt 5 := by
  intro a b c w ha hb hc
  show Calls _ _ #[.int .i64 5, _, _, _] _ _
  have H := fun w => Lib.hid (place0 a b c w ha hb hc)
  have hp := place_len 0 a b c ha hb hc
  go_enter Tryd.func66, Tryd.ntmps66
  go_wp2_with (go_at_call 66; refine (H _).out.mono ?_; rintro e w' ⟨rfl, rfl⟩)
  go_ret
  exact ⟨ret_str (by first | rfl | (apply WideShapes.bytes_inj; simp [place, bstr])), rfl⟩
theorem place6 : PlaceAt 6 := by
  intro a b c w ha hb hc
  show Calls _ _ #[.int .i64 6, _, _, _] _ _
  have H := fun w => Lib.hid (place1 a b c w ha hb hc)
  have hp := place_len 1 a b c ha hb hc
  go_enter Tryd.func66, Tryd.ntmps66
  go_wp2_with (go_at_call 66; refine (H _).out.mono ?_; rintro e w' ⟨rfl, rfl⟩)
  go_ret
  exact ⟨ret_str (by first | rfl | (apply WideShapes.bytes_inj; simp [place, bstr])), rfl⟩
theorem place7 : PlaceAt 7 := by
  intro a b c w ha hb hc
  show Calls _ _ #[.int .i64 7, _, _, _] _ _
  have H := fun w => Lib.hid (place2 a b c w ha hb hc)
  have hp := place_len 2 a b c ha hb hc
  go_enter Tryd.func66, Tryd.ntmps66
  go_wp2_with (go_at_call 66; refine (H _).out.mono ?_; rintro e w' ⟨rfl, rfl⟩)
  go_ret
  exact ⟨ret_str (by first | rfl | (apply WideShapes.bytes_inj; simp [place, bstr])), rfl⟩
theorem place8 : PlaceAt 8 := by
  intro a b c w ha hb hc
  show Calls _ _ #[.int .i64 8, _, _, _] _ _
  have H := fun w => Lib.hid (place3 a b c w ha hb hc)
  have hp := place_len 3 a b c ha hb hc
  go_enter Tryd.func66, Tryd.ntmps66
  go_wp2_with (go_at_call 66; refine (H _).out.mono ?_; rintro e w' ⟨rfl, rfl⟩)
  go_ret
  exact ⟨ret_str (by first | rfl | (apply WideShapes.bytes_inj; simp [place, bstr])), rfl⟩
theorem place9 : PlaceAt 9 := by
  intro a b c w ha hb hc
  show Calls _ _ #[.int .i64 9, _, _, _] _ _
  go_enter Tryd.func66, Tryd.ntmps66
  go_wp2
  go_ret
  exact ⟨ret_str (by first | rfl | (apply WideShapes.bytes_inj; simp [place, bstr])), rfl⟩
theorem place_any (k : Nat) (hk : k < 10) : PlaceAt k := by
  have h : k = 0 ∨ k = 1 ∨ k = 2 ∨ k = 3 ∨ k = 4 ∨ k = 5 ∨ k = 6 ∨ k = 7 ∨ k = 8 ∨ k = 9 := by omega
  rcases h with rfl | rfl | rfl | rfl | rfl | rfl | rfl | rfl | rfl | rfl
  · exact place0
  · exact place1
  · exact place2
  · exact place3
  · exact place4
  · exact place5
  · exact place6
  · exact place7
  · exact place8
  · exact place9

set_option maxHeartbeats 2000000 in
theorem refRoman_in (n : Nat) (w : World) (n0 : 1 ≤ n) (n1 : n ≤ 20000) :
    Calls Tryd.prog 35 #[.int .i64 n] w fun e w' => e = .returned (.string (bstr (romanL n))) ∧ w = w' := by
  have H1 := fun w => Lib.hid (place_any (n / 100 % 10) (by omega) [99] [100] [109] w (by decide) (by decide) (by decide))
  have H2 := fun w => Lib.hid (place_any (n / 10 % 10) (by omega) [120] [108] [99] w (by decide) (by decide) (by decide))
  have H3 := fun w => Lib.hid (place_any (n % 10) (by omega) [105] [118] [120] w (by decide) (by decide) (by decide))
  have e1 : ((n / 100 % 10 : Nat) : Int) = (n : Int) / 100 % 10 := by omega
  have e2 : ((n / 10 % 10 : Nat) : Int) = (n : Int) / 10 % 10 := by omega
  have e3 : ((n % 10 : Nat) : Int) = (n : Int) % 10 := by omega
  rw [e1] at H1
  rw [e2] at H2
  rw [e3] at H3
  have Hp := Lib.hid (romanL_places n)
  have l1 := place_len (n / 100 % 10) [99] [100] [109] (by decide) (by decide) (by decide)
  have l2 := place_len (n / 10 % 10) [120] [108] [99] (by decide) (by decide) (by decide)
  have l3 := place_len (n % 10) [105] [118] [120] (by decide) (by decide) (by decide)
  clear e1 e2 e3
  go_enter Tryd.func35, Tryd.ntmps35
  go_wp2
  go_loop [3, 4] (fun s i => ∃ k : Nat, k ≤ n / 1000 ∧ i = .int .i64 k ∧ s = .string (bstr (List.replicate k 109))) (fun _ i => n - (intOf i).toNat)
  case atStart => exact ⟨0, by omega, rfl, rfl⟩
  case round =>
    obtain ⟨k, hk, rfl, rfl⟩ := hrel
    by_cases hlt : k < n / 1000
    · have hlt2 : (k : Int) < (n : Int) / 1000 := by omega
      go_wp2
      go_round
      case rel => exact ⟨k + 1, by omega, by go_num, by rw [List.replicate_succ']; rfl⟩
      case measure => simp [intOf]; omega
    · have hlt2 : ¬ (k : Int) < (n : Int) / 1000 := by omega
      go_wp2_with (fail)
      refine (H1 _).out.mono ?_
      rintro e w1 ⟨rfl, rfl⟩
      go_wp2_with (fail)
      refine (H2 _).out.mono ?_
      rintro e w1 ⟨rfl, rfl⟩
      go_wp2_with (fail)
      refine (H3 _).out.mono ?_
      rintro e w1 ⟨rfl, rfl⟩
      go_wp2
      go_ret
      refine ⟨ret_str ?_, rfl⟩
      rw [Hp.out]
      unfold below1000
      rw [show k = n / 1000 from by omega]
      apply WideShapes.bytes_inj
      simp [bstr]

theorem refRoman_any (n : Int) (w : World) :
    Calls Tryd.prog 35 #[.int .i64 n] w fun e w' => e = .returned (.string (bstr (if 1 ≤ n ∧ n ≤ 20000 then romanL n.toNat else []))) ∧ w = w' := by
  by_cases h : 1 ≤ n ∧ n ≤ 20000
  · rw [if_pos h]
    obtain ⟨m, rfl⟩ : ∃ m : Nat, n = m := ⟨n.toNat, by omega⟩
    exact refRoman_in m w (by omega) (by omega)
  · rw [if_neg h]
    by_cases h1 : n < 1
    · clear h
      go_enter Tryd.func35, Tryd.ntmps35
      go_wp2
      go_ret
      exact ⟨rfl, rfl⟩
    · have h2 : 20000 < n := by omega
      clear h
      go_enter Tryd.func35, Tryd.ntmps35
      go_wp2
      go_ret
      exact ⟨rfl, rfl⟩
end Go.Proofs.YtcdblgfaojejnaaDoor
