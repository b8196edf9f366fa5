/- galleylaw01.padded, behind. -/
import Derived.Test.YtcdblgfaojejnaaDoorRefPrint
import Derived.Test.YtcdblgfaojejnaaDoorReader1
namespace Go.Proofs.YtcdblgfaojejnaaDoor
open Go.RowKit

def padL (n d : Nat) : List UInt8 := List.replicate (d - (Lib.decDigits n).length) 48 ++ Lib.decDigits n
theorem digC_dig {u : Nat} (h : u < 10) : isDig (digC u) = true := by
  unfold isDig digC; rw [UInt8.toNat_ofNat']; simp; omega
theorem dec_dig (u : Nat) : ∀ c ∈ Lib.decDigits u, isDig c = true := by
  induction u using Nat.strongRecOn with
  | ind u ih =>
    by_cases h : u < 10
    · rw [dec_low h]; intro c hc; simp at hc; rw [hc]; exact digC_dig h
    · rw [dec_high h]; intro c hc
      rw [List.mem_append] at hc
      rcases hc with hc | hc
      · exact ih _ (by omega) c hc
      · simp at hc; rw [hc]; exact digC_dig (by omega)
theorem dec_pos (u : Nat) : 0 < (Lib.decDigits u).length := by
  by_cases h : u < 10
  · rw [dec_low h]; simp
  · rw [dec_high h]; simp
theorem padL_dig (n d : Nat) : ∀ c ∈ padL n d, isDig c = true := by
  intro c hc
  unfold padL at hc
  rw [List.mem_append] at hc
  rcases hc with hc | hc
  · rw [List.eq_of_mem_replicate hc]; decide
  · exact dec_dig n c hc

/-- a string's length, in a slot -/
def lenOf : Value → Nat | .string s => s.size | _ => 0

set_option maxHeartbeats 2000000 in
theorem padded_any (n d : Nat) (w : World) (hn : n ≤ 1000000000) (hd : d ≤ 100) :
    Calls Tryd.prog 40 #[.int .i64 n, .int .i64 d] w fun e w' => e = .returned (.string ⟨(padL n d).toArray⟩) ∧ Kept w w' := by
  have H := fun w => Lib.hid (number_nat n (by omega) w)
  have hl := dec_len n
  have Hp : Hid (padL n d = List.replicate (d - (Lib.decDigits n).length) 48 ++ Lib.decDigits n) := Lib.hid rfl
  generalize Lib.decDigits n = D at *
  go_enter Tryd.func40, Tryd.ntmps40
  go_wp2_with (fail)
  refine (H _).out.mono ?_
  rintro e w1 ⟨rfl, k1⟩
  go_wp2
  have K1 := Lib.hid k1
  have hl2 : D.length ≤ 1000000001 := by omega
  clear k1
  go_loop [5] (fun o => ∃ j : Nat, j ≤ d - D.length ∧ o = .string ⟨(List.replicate j 48 ++ D).toArray⟩) (fun o => d - lenOf o)
  case atStart => exact ⟨0, by omega, rfl⟩
  case round =>
    obtain ⟨j, hj, rfl⟩ := hrel
    by_cases hlt : j + D.length < d
    · have hlt2 : (j : Int) + (D.length : Int) < (d : Int) := by omega
      go_wp2
      go_round
      case rel => exact ⟨j + 1, by omega, congrArg Value.string (WideShapes.bytes_inj (by simp [List.replicate_succ]))⟩
      case measure => simp [lenOf, Lib.size_eq]; omega
    · have hlt2 : ¬ (j : Int) + (D.length : Int) < (d : Int) := by omega
      go_wp2
      go_ret
      refine ⟨ret_str ?_, K1.out⟩
      rw [Hp.out]
      apply WideShapes.bytes_inj
      rw [show j = d - D.length from by omega]
end Go.Proofs.YtcdblgfaojejnaaDoor
