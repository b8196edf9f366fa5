/- pack.Report, and the document's. -/
import Derived.Test.YtlppbapofenagaaGreatDoorWhole
import Derived.Test.YtlppbapofenagaaGreatDoorPrint
import Derived.Test.YtlppbapofenagaaGreatDoorRefPrint
namespace Go.Proofs.YtlppbapofenagaaGreatDoor
open Go.RowKit

/-- so much that it is told -/
def tooB (s o l f : Int) : Bool := decide ((s = 2 ∨ s = 0) ∧ 0 < o ∧ (f < o ∨ l < 100))
/-- the word for a box that is set badly -/
def wordL (s b o l : Int) : List UInt8 :=
  if 0 < o ∨ b ≤ l then [] else if s = 2 then [84, 105, 103, 104, 116] else if s = 0 ∨ s = 1 then (if b ≤ 100 then [76, 111, 111, 115, 101] else [85, 110, 100, 101, 114, 102, 117, 108, 108]) else []
def boxL (d : Bool) : List UInt8 := bif d then [118, 98, 111, 120] else [104, 98, 111, 120]
def muchL (d : Bool) : List UInt8 := bif d then [104, 105, 103, 104] else [119, 105, 100, 101]
def reportL (d : Bool) (s b o l f : Int) : List UInt8 :=
  bif tooB s o l f then [79, 118, 101, 114, 102, 117, 108, 108, 32] ++ boxL d ++ [32, 40] ++ (if fitB o then printL o else []) ++ [112, 116, 32, 116, 111, 111, 32] ++ muchL d ++ [41]
  else if wordL s b o l = [] then [] else wordL s b o l ++ [32] ++ boxL d ++ [32, 40, 98, 97, 100, 110, 101, 115, 115, 32] ++ Lib.itoa b ++ [41]

set_option maxHeartbeats 4000000 in
theorem tooFull_any (s o l f : Int) (w : World) : Calls Tryz.prog 14 #[.int .i64 s, .int .i64 o, .int .i64 l, .int .i64 f] w fun e w' => e = .returned (.bool (tooB s o l f)) ∧ w = w' := by
  go_enter Tryz.func14, Tryz.ntmps14
  go_wp2
  all_goals
    go_ret
    exact ⟨ret_bool (by simp [tooB, *]; try omega), rfl⟩
set_option maxHeartbeats 4000000 in
theorem verdict_any (s b o l : Int) (w : World) : Calls Tryz.prog 16 #[.int .i64 s, .int .i64 b, .int .i64 o, .int .i64 l] w fun e w' => e = .returned (.string ⟨(wordL s b o l).toArray⟩) ∧ w = w' := by
  go_enter Tryz.func16, Tryz.ntmps16
  go_wp2
  all_goals
    go_ret
    exact ⟨ret_str (by try simp only [beq_iff_eq, beq_eq_false_iff_ne, ne_eq] at *
                       unfold wordL; (repeat' split) <;> first | rfl | (exfalso; omega)), rfl⟩
theorem tabs_itoa (n : Int) (h0 : -9223372036854775808 ≤ n) (h1 : n ≤ 9223372036854775807) (w : World) (ht : Tabs w) :
    Calls Tryz.prog 17 #[.int .i64 n] w fun e w' => e = .returned (.string ⟨(Lib.itoa n).toArray⟩) ∧ Kept w w' := by
  refine (Tryz.strconv_Itoa n h0 h1 w ht).mono ?_
  rintro e w' ⟨rfl, k, os, rfl⟩
  exact ⟨rfl, Lib.below_grow _ _ (Nat.le_refl _) k os⟩
theorem printed_len (o : Int) : (if fitB o then printL o else []).length ≤ 100000 := by
  split
  · rename_i h
    obtain ⟨h1, h2⟩ := fit_yes h
    unfold printL
    have e1 : 0 ≤ absI o ∧ absI o ≤ 2147483647 := by unfold absI; split <;> omega
    have h3 := dec_len (absI o / 65536).toNat
    have h4 := fracDigits_length 5 (10 * (absI o % 65536) + 5) 10
    simp only [List.length_append, List.length_cons, fracOf]
    have h5 : (if o < 0 then [(45 : UInt8)] else []).length ≤ 1 := by split <;> simp
    omega
  · simp

set_option maxHeartbeats 8000000 in
set_option maxRecDepth 100000 in
theorem report_any (d : Bool) (s b o l f : Int) (b0 : -9223372036854775808 ≤ b) (b1 : b ≤ 9223372036854775807) (w : World) (ht : Tabs w) :
    Calls Tryz.prog 5 #[.bool d, .int .i64 s, .int .i64 b, .int .i64 o, .int .i64 l, .int .i64 f] w fun e w' => e = .returned (.string ⟨(reportL d s b o l f).toArray⟩) ∧ Kept w w' := by
  have H1 := Lib.hid (tooFull_any s o l f)
  have H2 := Lib.hid (verdict_any s b o l)
  have H3 := fun w => Lib.hid (print_any o w)
  have H4 := fun w => Lib.hid (tabs_itoa b b0 b1 w)
  have HT := Lib.hid ht
  have hp := printed_len o
  have hi := itoa_len b b0 b1
  have hw : (wordL s b o l).length ≤ 9 := by unfold wordL; (repeat' split) <;> simp
  have hE : reportL d s b o l f = bif tooB s o l f then [79, 118, 101, 114, 102, 117, 108, 108, 32] ++ boxL d ++ [32, 40] ++ (if fitB o then printL o else []) ++ [112, 116, 32, 116, 111, 111, 32] ++ muchL d ++ [41]
      else if wordL s b o l = [] then [] else wordL s b o l ++ [32] ++ boxL d ++ [32, 40, 98, 97, 100, 110, 101, 115, 115, 32] ++ Lib.itoa b ++ [41] := rfl
  generalize reportL d s b o l f = R at *
  generalize (if fitB o then printL o else []) = P at *
  generalize Lib.itoa b = B at *
  clear ht b0 b1
  cases ht : tooB s o l f
  · rw [ht] at H1 hE
    generalize wordL s b o l = Wd at *
    clear ht
    by_cases hz : Wd = []
    · subst hz
      obtain rfl : R = [] := hE
      cases d
      all_goals
        go_enter Tryz.func5, Tryz.ntmps5
        go_wp2_with (first | (go_at_call 14; refine (H1.out _).mono ?_; rintro e w1 ⟨rfl, rfl⟩) | (go_at_call 16; refine (H2.out _).mono ?_; rintro e w1 ⟨rfl, rfl⟩))
        go_ret
        exact ⟨ret_str (by simp), Kept.refl _⟩
    · rw [cond_false, if_neg hz] at hE
      have HE := Lib.hid hE
      have Hz : Wd.isEmpty = false := by cases Wd <;> first | exact absurd rfl hz | rfl
      clear hE hz
      cases d
      all_goals
        go_enter Tryz.func5, Tryz.ntmps5
        go_wp2_with (first | (go_at_call 14; refine (H1.out _).mono ?_; rintro e w1 ⟨rfl, rfl⟩) | (go_at_call 16; refine (H2.out _).mono ?_; rintro e w1 ⟨rfl, rfl⟩) | (go_at_call 17; refine ((H4 _).out HT.out).mono ?_; rintro e w1 ⟨rfl, k1⟩))
        all_goals first
          | (exfalso; simp_all; done)
          | (go_ret
             exact ⟨ret_str (by rw [HE.out]; apply WideShapes.bytes_inj; simp [boxL]), k1⟩)
  · rw [ht, cond_true] at hE
    rw [ht] at H1
    have HE := Lib.hid hE
    clear ht hw hE
    cases d
    all_goals
      go_enter Tryz.func5, Tryz.ntmps5
      go_wp2_with (first | (go_at_call 14; refine (H1.out _).mono ?_; rintro e w1 ⟨rfl, rfl⟩) | (go_at_call 15; refine ((H3 _).out HT.out).mono ?_; rintro e w1 ⟨rfl, k1⟩))
      go_ret
      exact ⟨ret_str (by rw [HE.out]; apply WideShapes.bytes_inj; simp [boxL, muchL]), k1⟩
end Go.Proofs.YtlppbapofenagaaGreatDoor
