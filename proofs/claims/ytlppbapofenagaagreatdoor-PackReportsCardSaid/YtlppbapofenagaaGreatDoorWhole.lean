/- The document's whole numbers of layer 6, as digits, below 0 too. -/
import Derived.Test.YtlppbapofenagaaGreatDoorNumber
import Derived.Test.YtlppbapofenagaaGreatDoorPrintMath
namespace Go.Proofs.YtlppbapofenagaaGreatDoor
open Go.RowKit

/-- the digits of a number; of 0 none -/
def dec0 (u : Nat) : List UInt8 := if u = 0 then [] else Lib.decDigits u
theorem dec0_step {u : Nat} (h : u ≠ 0) : dec0 u = dec0 (u / 10) ++ [digC (u % 10)] := by
  unfold dec0
  rw [if_neg h]
  by_cases h1 : u < 10
  · rw [dec_low h1, if_pos (by omega), Nat.mod_eq_of_lt h1]; rfl
  · rw [dec_high h1, if_neg (by omega)]
theorem dec0_len : ∀ (k u : Nat), u < 10 ^ k → (dec0 u).length ≤ k
  | 0, u, h => by
    have : u = 0 := by simpa using h
    subst this
    simp [dec0]
  | k + 1, u, h => by
    by_cases hu : u = 0
    · subst hu; simp [dec0]
    · have := dec0_len k (u / 10) (by rw [Nat.pow_succ] at h; omega)
      rw [dec0_step hu]
      simp; omega
theorem dec0_digits {u : Nat} (h : u ≠ 0) : Lib.decDigits u = dec0 u := by simp [dec0, h]
theorem itoa_len (n : Int) (h0 : -9223372036854775808 ≤ n) (h1 : n ≤ 9223372036854775807) : (Lib.itoa n).length ≤ 21 := by
  have key : ∀ u : Nat, u ≤ 9223372036854775808 → (Lib.decDigits u).length ≤ 20 := fun u hu => by
    by_cases h : u = 0
    · subst h; rw [dec_low (by omega)]; simp
    · rw [dec0_digits h]; exact dec0_len 20 u (by omega)
  unfold Lib.itoa
  split
  · have := key n.natAbs (by omega)
    simp; omega
  · have := key n.toNat (by omega)
    omega

set_option maxHeartbeats 4000000 in
set_option maxRecDepth 100000 in
theorem whole_pos (u : Nat) (u1 : 1 ≤ u) (u2 : u ≤ 9223372036854775807) (w : World) :
    Calls Tryz.prog 19 #[.int .i64 (u : Int)] w fun e w' => e = .returned (.string ⟨(dec0 u).toArray⟩) ∧ Kept w w' := by
  have hl := dec0_len 19 u (by omega)
  generalize hD : dec0 u = D at *
  have HD := Lib.hid hD
  clear hD
  have b0 : ¬ (u : Int) = 0 := by omega
  have b1 : ¬ (u : Int) < 0 := by omega
  go_enter Tryz.func19, Tryz.ntmps19
  go_wp2_with (fail)
  go_loopw [0, 4] (fun x o wr => ∃ (m : Nat) (l : List UInt8), x = .int .i64 (m : Int) ∧ o = .string ⟨l.toArray⟩ ∧ m ≤ u ∧ l.length ≤ 19 ∧ Hid (dec0 m ++ l = D) ∧ Kept w wr) (fun x _ _ => (intOf x).natAbs)
  case atStart => exact ⟨u, [], rfl, rfl, Nat.le_refl _, by simp, Lib.hid (by rw [List.append_nil]; exact HD.out), Kept.refl _⟩
  case round =>
    obtain ⟨m, l, rfl, rfl, hm, hll, Heq, hw⟩ := hrel
    have Hw := Lib.hid hw
    clear hw
    by_cases h0 : m = 0
    · subst h0
      have E : l = D := by have := Heq.out; simpa [dec0] using this
      have b2 : ((0 : Nat) : Int) = 0 := rfl
      go_wp2
      go_ret
      exact ⟨ret_str (by rw [E]), Hw.out⟩
    · have hne : ¬ (m : Int) = 0 := by omega
      have hcv := conv_one (48 + (m : Int) % 10) (by omega) (by omega) wr
      have hd : UInt8.ofNat (48 + (m : Int) % 10).toNat = digC (m % 10) := by unfold digC; congr 1
      rw [hd] at hcv
      have hst := dec0_step h0
      have Hq := Lib.hid (Heq.out.symm.trans (by rw [hst, List.append_assoc]))
      have hlen := congrArg List.length Hq.out
      generalize hC : digC (m % 10) = c at *
      have q1 : IntKind.i64.wrap ((m : Int) / 10) = (m : Int) / 10 := IntWalk.i64_in _ (by omega)
      have q2 : IntKind.i64.wrap (48 + (m : Int) % 10) = 48 + (m : Int) % 10 := IntWalk.i64_in _ (by omega)
      have q3 : IntKind.u8.wrap (48 + (m : Int) % 10) = 48 + (m : Int) % 10 := IntWalk.u8_in _ (by omega)
      have q4 : (m : Int).tmod 10 = (m : Int) % 10 := Int.tmod_eq_emod_of_nonneg (by omega)
      have q5 : ¬ (m : Int) % 10 < 0 := by omega
      go_wp2
      go_roundw
      case rel => exact ⟨m / 10, c :: l, congrArg (Value.int .i64) (by omega), congrArg Value.string (WideShapes.bytes_inj (by simp)), by omega, by simp at hlen ⊢; omega, Lib.hid (by rw [Hq.out]; rfl), Hw.out.trans ((Below.refl _ _).alloc (Nat.le_refl _) _)⟩
      case measure => simp [intOf]; omega
set_option maxHeartbeats 4000000 in
set_option maxRecDepth 100000 in
theorem whole_neg (u : Nat) (u1 : 1 ≤ u) (u2 : u ≤ 9223372036854775808) (w : World) :
    Calls Tryz.prog 19 #[.int .i64 (-(u : Int))] w fun e w' => e = .returned (.string ⟨(45 :: dec0 u).toArray⟩) ∧ Kept w w' := by
  have hl := dec0_len 19 u (by omega)
  generalize hD : dec0 u = D at *
  have HD := Lib.hid hD
  clear hD
  have b0 : ¬ -(u : Int) = 0 := by omega
  have b1 : -(u : Int) < 0 := by omega
  go_enter Tryz.func19, Tryz.ntmps19
  go_wp2_with (fail)
  go_loopw [0, 4] (fun x o wr => ∃ (m : Nat) (l : List UInt8), x = .int .i64 (-(m : Int)) ∧ o = .string ⟨l.toArray⟩ ∧ m ≤ u ∧ l.length ≤ 19 ∧ Hid (dec0 m ++ l = D) ∧ Kept w wr) (fun x _ _ => (intOf x).natAbs)
  case atStart => exact ⟨u, [], rfl, rfl, Nat.le_refl _, by simp, Lib.hid (by rw [List.append_nil]; exact HD.out), Kept.refl _⟩
  case round =>
    obtain ⟨m, l, rfl, rfl, hm, hll, Heq, hw⟩ := hrel
    have Hw := Lib.hid hw
    clear hw
    by_cases h0 : m = 0
    · subst h0
      have E : l = D := by have := Heq.out; simpa [dec0] using this
      have b2 : -((0 : Nat) : Int) = 0 := rfl
      go_wp2
      go_ret
      exact ⟨ret_str (by first | rw [E] | (apply WideShapes.bytes_inj; simp)), Hw.out⟩
    · have hne : ¬ -(m : Int) = 0 := by omega
      have hcv := conv_one (48 + (m : Int) % 10) (by omega) (by omega) wr
      have hd : UInt8.ofNat (48 + (m : Int) % 10).toNat = digC (m % 10) := by unfold digC; congr 1
      rw [hd] at hcv
      have hst := dec0_step h0
      have Hq := Lib.hid (Heq.out.symm.trans (by rw [hst, List.append_assoc]))
      have hlen := congrArg List.length Hq.out
      generalize hC : digC (m % 10) = c at *
      have q4 : (-(m : Int)).tmod 10 = -((m : Int) % 10) := by rw [Int.neg_tmod, Int.tmod_eq_emod_of_nonneg (by omega)]
      have q6 : (-(m : Int)).tdiv 10 = -((m : Int) / 10) := by rw [Int.neg_tdiv, Int.tdiv_eq_ediv_of_nonneg (by omega)]
      have q1 : IntKind.i64.wrap (-((m : Int) / 10)) = -((m : Int) / 10) := IntWalk.i64_in _ (by omega)
      have q2 : IntKind.i64.wrap (48 + (m : Int) % 10) = 48 + (m : Int) % 10 := IntWalk.i64_in _ (by omega)
      have q3 : IntKind.u8.wrap (48 + (m : Int) % 10) = 48 + (m : Int) % 10 := IntWalk.u8_in _ (by omega)
      have q7 : IntKind.i64.wrap (- -((m : Int) % 10)) = (m : Int) % 10 := by rw [Int.neg_neg]; exact IntWalk.i64_in _ (by omega)
      have q8 : IntKind.i64.wrap (-((m : Int) % 10)) = -((m : Int) % 10) := IntWalk.i64_in _ (by omega)
      by_cases hr : (m : Int) % 10 = 0
      · rw [hr, Int.add_zero] at hcv
        rw [hr] at q4
        go_wp2
        go_roundw
        case rel => exact ⟨m / 10, c :: l, congrArg (Value.int .i64) (by omega), congrArg Value.string (WideShapes.bytes_inj (by simp)), by omega, by simp at hlen ⊢; omega, Lib.hid (by rw [Hq.out]; rfl), Hw.out.trans ((Below.refl _ _).alloc (Nat.le_refl _) _)⟩
        case measure => simp [intOf]; omega
      · have q5 : -((m : Int) % 10) < 0 := by omega
        go_wp2
        go_roundw
        case rel => exact ⟨m / 10, c :: l, congrArg (Value.int .i64) (by omega), congrArg Value.string (WideShapes.bytes_inj (by simp)), by omega, by simp at hlen ⊢; omega, Lib.hid (by rw [Hq.out]; rfl), Hw.out.trans ((Below.refl _ _).alloc (Nat.le_refl _) _)⟩
        case measure => simp [intOf]; omega
theorem whole_any (n : Int) (h0 : -9223372036854775808 ≤ n) (h1 : n ≤ 9223372036854775807) (w : World) :
    Calls Tryz.prog 19 #[.int .i64 n] w fun e w' => e = .returned (.string ⟨(Lib.itoa n).toArray⟩) ∧ Kept w w' := by
  by_cases h : n = 0
  · subst h
    have e : Lib.itoa 0 = [48] := by unfold Lib.itoa; rw [if_neg (by omega)]; exact dec_low (by omega)
    rw [e]
    go_enter Tryz.func19, Tryz.ntmps19
    go_wp2_with (fail)
    go_ret
    exact ⟨rfl, Kept.refl _⟩
  · by_cases hn : n < 0
    · obtain ⟨u, rfl⟩ : ∃ u : Nat, n = -(u : Int) := ⟨n.natAbs, by omega⟩
      have e : Lib.itoa (-(u : Int)) = 45 :: dec0 u := by
        unfold Lib.itoa
        rw [if_pos hn, Int.natAbs_neg, Int.natAbs_natCast, dec0_digits (by omega)]
      rw [e]
      exact whole_neg u (by omega) (by omega) w
    · obtain ⟨u, rfl⟩ : ∃ u : Nat, n = (u : Int) := ⟨n.toNat, by omega⟩
      have e : Lib.itoa (u : Int) = dec0 u := by
        unfold Lib.itoa
        rw [if_neg hn, Int.toNat_natCast, dec0_digits (by omega)]
      rw [e]
      exact whole_pos u (by omega) (by omega) w
end Go.Proofs.YtlppbapofenagaaGreatDoor
