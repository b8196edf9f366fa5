/- the document's Report. -/
import Derived.Test.YtlppbapofenagaaGreatDoorReport
namespace Go.Proofs.YtlppbapofenagaaGreatDoor
open Go.RowKit

set_option maxHeartbeats 16000000 in
set_option maxRecDepth 100000 in
theorem refReport_any (d : Bool) (s b o l f : Int) (b0 : -9223372036854775808 ≤ b) (b1 : b ≤ 9223372036854775807) (w : World) :
    Calls Tryz.prog 6 #[.bool d, .int .i64 s, .int .i64 b, .int .i64 o, .int .i64 l, .int .i64 f] w fun e w' => e = .returned (.string ⟨(reportL d s b o l f).toArray⟩) ∧ Kept w w' := by
  have H3 := fun w => Lib.hid (refPrint_any o w)
  have H4 := fun w => Lib.hid (whole_any b b0 b1 w)
  have hp := printed_len o
  have hi := itoa_len b b0 b1
  have hE : reportL d s b o l f = bif tooB s o l f then [79, 118, 101, 114, 102, 117, 108, 108, 32] ++ boxL d ++ [32, 40] ++ (if fitB o then printL o else []) ++ [112, 116, 32, 116, 111, 111, 32] ++ muchL d ++ [41]
      else if wordL s b o l = [] then [] else wordL s b o l ++ [32] ++ boxL d ++ [32, 40, 98, 97, 100, 110, 101, 115, 115, 32] ++ Lib.itoa b ++ [41] := rfl
  generalize reportL d s b o l f = R at *
  generalize (if fitB o then printL o else []) = P at *
  generalize Lib.itoa b = B at *
  clear b0 b1
  cases ht : tooB s o l f
  · rw [ht, cond_false] at hE
    have ht2 : ¬ ((s = 2 ∨ s = 0) ∧ 0 < o ∧ (f < o ∨ l < 100)) := by simpa [tooB] using ht
    clear ht
    by_cases hb : 0 < o ∨ b ≤ l
    · have hw : wordL s b o l = [] := by unfold wordL; rw [if_pos hb]
      rw [hw, if_pos rfl] at hE
      subst hE
      clear hw
      cases d
      all_goals
        go_enter Tryz.func6, Tryz.ntmps6
        go_wp2_with (first | (go_at_call 19; refine ((H4 _).out).mono ?_; rintro e w1 ⟨rfl, k1⟩) | (go_at_call 18; refine ((H3 _).out).mono ?_; rintro e w1 ⟨rfl, k1⟩))
        all_goals first
          | (exfalso
             try simp only [beq_iff_eq, beq_eq_false_iff_ne, ne_eq] at *
             omega)
          | (go_ret
             exact ⟨ret_str rfl, by first | exact Kept.refl _ | exact k1⟩)
    · by_cases h2 : s = 2
      · have hw : wordL s b o l = [84, 105, 103, 104, 116] := by unfold wordL; rw [if_neg hb, if_pos h2]
        rw [hw, if_neg (by simp)] at hE
        have HE := Lib.hid hE
        subst h2
        clear hw hE
        cases d
        all_goals
          go_enter Tryz.func6, Tryz.ntmps6
          go_wp2_with (first | (go_at_call 19; refine ((H4 _).out).mono ?_; rintro e w1 ⟨rfl, k1⟩) | (go_at_call 18; refine ((H3 _).out).mono ?_; rintro e w1 ⟨rfl, k1⟩))
          all_goals first
            | (exfalso
               try simp only [beq_iff_eq, beq_eq_false_iff_ne, ne_eq] at *
               omega)
            | (go_ret
               exact ⟨ret_str (by rw [HE.out]; apply WideShapes.bytes_inj; simp [boxL]), k1⟩)
      · by_cases h0 : s = 0 ∨ s = 1
        · by_cases hb1 : b ≤ 100
          · have hw : wordL s b o l = [76, 111, 111, 115, 101] := by unfold wordL; rw [if_neg hb, if_neg h2, if_pos h0, if_pos hb1]
            rw [hw, if_neg (by simp)] at hE
            have HE := Lib.hid hE
            clear hw hE
            rcases h0 with h0 | h0 <;> subst h0
            all_goals
              cases d
              all_goals
                go_enter Tryz.func6, Tryz.ntmps6
                go_wp2_with (first | (go_at_call 19; refine ((H4 _).out).mono ?_; rintro e w1 ⟨rfl, k1⟩) | (go_at_call 18; refine ((H3 _).out).mono ?_; rintro e w1 ⟨rfl, k1⟩))
                all_goals first
                  | (exfalso
                     try simp only [beq_iff_eq, beq_eq_false_iff_ne, ne_eq] at *
                     omega)
                  | (go_ret
                     exact ⟨ret_str (by rw [HE.out]; apply WideShapes.bytes_inj; simp [boxL]), k1⟩)
          · have hw : wordL s b o l = [85, 110, 100, 101, 114, 102, 117, 108, 108] := by unfold wordL; rw [if_neg hb, if_neg h2, if_pos h0, if_neg hb1]
            rw [hw, if_neg (by simp)] at hE
            have HE := Lib.hid hE
            clear hw hE
            rcases h0 with h0 | h0 <;> subst h0
            all_goals
              cases d
              all_goals
                go_enter Tryz.func6, Tryz.ntmps6
                go_wp2_with (first | (go_at_call 19; refine ((H4 _).out).mono ?_; rintro e w1 ⟨rfl, k1⟩) | (go_at_call 18; refine ((H3 _).out).mono ?_; rintro e w1 ⟨rfl, k1⟩))
                all_goals first
                  | (exfalso
                     try simp only [beq_iff_eq, beq_eq_false_iff_ne, ne_eq] at *
                     omega)
                  | (go_ret
                     exact ⟨ret_str (by rw [HE.out]; apply WideShapes.bytes_inj; simp [boxL]), k1⟩)
        · have hw : wordL s b o l = [] := by unfold wordL; rw [if_neg hb, if_neg h2, if_neg h0]
          rw [hw, if_pos rfl] at hE
          subst hE
          clear hw
          cases d
          all_goals
            go_enter Tryz.func6, Tryz.ntmps6
            go_wp2_with (first | (go_at_call 19; refine ((H4 _).out).mono ?_; rintro e w1 ⟨rfl, k1⟩) | (go_at_call 18; refine ((H3 _).out).mono ?_; rintro e w1 ⟨rfl, k1⟩))
            all_goals first
              | (exfalso
                 try simp only [beq_eq_false_iff_ne, ne_eq] at *
                 omega)
              | (go_ret
                 exact ⟨ret_str rfl, by first | exact Kept.refl _ | exact k1⟩)
  · rw [ht, cond_true] at hE
    have HE := Lib.hid hE
    obtain ⟨hs, ho, hf⟩ : (s = 2 ∨ s = 0) ∧ 0 < o ∧ (f < o ∨ l < 100) := by simpa [tooB] using ht
    clear ht hE
    rcases hs with h0 | h0 <;> subst h0
    all_goals
      cases d
      all_goals
        go_enter Tryz.func6, Tryz.ntmps6
        go_wp2_with (first | (go_at_call 19; refine ((H4 _).out).mono ?_; rintro e w1 ⟨rfl, k1⟩) | (go_at_call 18; refine ((H3 _).out).mono ?_; rintro e w1 ⟨rfl, k1⟩))
        all_goals first
          | (exfalso
             try simp only [beq_iff_eq, beq_eq_false_iff_ne, ne_eq] at *
             omega)
          | (go_ret
             exact ⟨ret_str (by rw [HE.out]; apply WideShapes.bytes_inj; simp [boxL, muchL]), k1⟩)
end Go.Proofs.YtlppbapofenagaaGreatDoor
