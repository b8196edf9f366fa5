/- scaled.Decimals; the document's Digits, Decimals. -/
import Derived.Test.YtcdblgfaojejnaaDoorReader1
namespace Go.Proofs.YtcdblgfaojejnaaDoor
open Go.RowKit

def allDig (l : List UInt8) : Bool := l.all isDig

set_option maxHeartbeats 1000000 in
theorem refDigits_any (s : ByteArray) (w : World) (_hs : s.size ≤ 9223372036854775807) :
    Calls Tryd.prog 56 #[.string s] w fun e w' => e = .returned (.bool (allDig s.data.toList)) ∧ w = w' := by
  go_enter Tryd.func56, Tryd.ntmps56
  go_wp2
  go_loop [3] (fun i => ∃ k : Nat, k ≤ s.size ∧ i = .int .i64 k ∧ Hid ((s.data.toList.take k).all isDig = true)) (fun i => s.size - (intOf i).toNat)
  case atStart => exact ⟨0, Nat.zero_le _, rfl, rfl⟩
  case round =>
    obtain ⟨k, hk, rfl, hall⟩ := hrel
    by_cases hlt : k < s.size
    · have hat := Lib.hid (at_list s k hlt)
      go_wp2
      all_goals first
        | (go_ret
           have hc : isDig (s[k]'hlt) = false := by simp only [isDig, decide_eq_false_iff_not]; omega
           refine ⟨ret_bool ?_, rfl⟩
           have hm : s[k]'hlt ∈ s.data.toList := List.mem_of_getElem? hat.out
           unfold allDig
           exact (List.all_eq_false.2 ⟨_, hm, by rw [hc]; exact Bool.false_ne_true⟩).symm)
        | (have hc : isDig (s[k]'hlt) = true := by simp only [isDig, decide_eq_true_eq]; omega
           go_round
           case rel => exact ⟨k + 1, by omega, by go_num, all_snoc hall.out hat.out hc⟩
           case measure => simp [intOf]; omega)
    · go_wp2
      go_ret
      have hz : s.data.toList.take k = s.data.toList := List.take_of_length_le (by rw [← Lib.size_eq]; omega)
      refine ⟨ret_bool ?_, rfl⟩
      have := hall.out
      rw [hz] at this
      exact this.symm

theorem allDig_yes {l : List UInt8} (h : allDig l = true) : ∀ c ∈ l, isDig c = true := List.all_eq_true.1 h
def decV (l : List UInt8) : Int := if allDig l then fracN l else 0
def decE (l : List UInt8) : Int := if allDig l then 0 else 21

set_option maxHeartbeats 1000000 in
theorem refDecimals_any (s : ByteArray) (w : World) (hs : s.size ≤ 9223372036854775807) :
    Calls Tryd.prog 29 #[.string s] w fun e w' => e = .returned (.tuple #[.int .i64 (decV s.data.toList), .int .i64 (decE s.data.toList)]) ∧ w = w' := by
  cases hd : allDig s.data.toList
  · have e1 : decV s.data.toList = 0 := by simp [decV, hd]
    have e2 : decE s.data.toList = 21 := by simp [decE, hd]
    rw [e1, e2]
    clear e1 e2
    go_enter Tryd.func29, Tryd.ntmps29
    go_wp2_with (go_at_call 56; refine (refDigits_any _ _ hs).mono ?_; rintro e w' ⟨rfl, rfl⟩)
    go_ret2
    exact ⟨rfl, rfl⟩
  · have HD : Hid (AllDig s) := Lib.hid (allDig_yes hd)
    have e1 : decV s.data.toList = fracN s.data.toList := by simp [decV, hd]
    have e2 : decE s.data.toList = 0 := by simp [decE, hd]
    rw [e1, e2]
    clear e1 e2
    obtain ⟨m, hm⟩ : ∃ m : Nat, min (s.size : Int) 17 = (m : Int) := ⟨min s.size 17, by omega⟩
    have m17 : m ≤ 17 := by omega
    have ms : m ≤ s.size := by omega
    have Hm : Hid (m = min s.size 17) := Lib.hid (by omega)
    obtain ⟨L, hL⟩ : ∃ L, L = s.data.toList.take m := ⟨_, rfl⟩
    have hfr : fracN s.data.toList = (fracA (L) + 1) / 2 := by
      rw [hL]; unfold fracN; rw [Hm.out]
      congr 3
      rcases Nat.lt_or_ge s.size 17 with h | h
      · rw [Nat.min_eq_left (by omega), List.take_of_length_le (by rw [← Lib.size_eq]; omega), List.take_of_length_le (by rw [← Lib.size_eq]; omega)]
      · rw [Nat.min_eq_right h]
    have hlen : (L).length = m := by rw [hL, List.length_take, ← Lib.size_eq]; omega
    have hLd : ∀ c ∈ L, isDig c = true := fun c hc => HD.out c (by rw [hL] at hc; exact List.mem_of_mem_take hc)
    have hLk : ∀ k (h : k < m), L[k]? = some (s[k]'(Nat.lt_of_lt_of_le h ms)) := fun k h => by
      rw [hL, List.getElem?_take, if_pos h]; exact at_list s k (Nat.lt_of_lt_of_le h ms)
    clear hL
    have Hfr := Lib.hid hfr
    have Hlen := Lib.hid hlen
    have HLd := Lib.hid hLd
    have HLk := Lib.hid hLk
    clear hfr hlen hLd hLk
    go_enter Tryd.func29, Tryd.ntmps29
    go_wp2_with (go_at_call 56; refine (refDigits_any _ _ hs).mono ?_; rintro e w' ⟨rfl, rfl⟩)
    clear hm
    go_loop [4, 5] (fun a i => ∃ j : Nat, j ≤ m ∧ i = .int .i64 ((j : Int) - 1) ∧ a = .int .i64 (fracA (L.drop j))) (fun _ i => (intOf i + 1).toNat)
    case atStart => exact ⟨m, Nat.le_refl _, rfl, by rw [List.drop_eq_nil_of_le (by rw [Hlen.out]; omega)]; rfl⟩
    case round =>
      obtain ⟨j, hj, rfl, rfl⟩ := hrel
      cases j with
      | zero =>
        obtain ⟨b0, b1⟩ := fracA_bd L HLd.out
        go_wp2
        go_ret2
        exact ⟨ret_ii (by rw [Hfr.out]) rfl, rfl⟩
      | succ k =>
        have hkz : k < s.size := by omega
        have hdc := HD.out.at hkz
        have hlk := HLk.out k (by omega)
        have hdrop : L.drop k = (s[k]'hkz) :: L.drop (k + 1) := by
          have hz := (List.getElem?_eq_some_iff.1 hlk)
          rw [List.drop_eq_getElem_cons hz.1, hz.2]
        have HA : Hid (fracA (L.drop k) = (fracA (L.drop (k + 1)) + 131072 * (((s[k]'hkz).toNat : Int) - 48)) / 10) := Lib.hid (by
          rw [hdrop]; rfl)
        obtain ⟨a0, a1⟩ := fracA_bd (L.drop (k + 1)) (fun c hc => HLd.out c (List.mem_of_mem_drop hc))
        generalize fracA (L.drop (k + 1)) = a at *
        obtain ⟨c0, c1⟩ := hdc
        clear hlk hdrop
        go_wp2
        go_round
        case rel => exact ⟨k, by omega, by go_num, by rw [HA.out]⟩
        case measure => simp [intOf]

theorem digs_eq_iff (l : List UInt8) : digs l = l ↔ allDig l = true := by
  constructor
  · intro h
    refine List.all_eq_true.2 fun c hc => ?_
    rw [← h] at hc
    exact digs_all_dig l c hc
  · exact fun h => digs_all h

set_option maxHeartbeats 1000000 in
theorem decimals_any (s : ByteArray) (w : World) (hs : s.size ≤ 9223372036854775807) :
    Calls Tryd.prog 26 #[.string s] w fun e w' => e = .returned (.tuple #[.int .i64 (decV s.data.toList), .int .i64 (decE s.data.toList)]) ∧ Kept w w' := by
  have Hl := Lib.hid (leadingDigits_any s w hs)
  cases hd : allDig s.data.toList
  · have e1 : decV s.data.toList = 0 := by simp [decV, hd]
    have e2 : decE s.data.toList = 21 := by simp [decE, hd]
    rw [e1, e2]
    have hne : (digs s.data.toList == s.toList) = false := by
      rw [beq_eq_false_iff_ne, Lib.toList_data]
      intro h
      rw [digs_eq_iff, hd] at h; cases h
    clear e1 e2 hd
    go_enter Tryd.func26, Tryd.ntmps26
    go_wp2_with (fail)
    refine Hl.out.mono ?_
    rintro e w1 ⟨rfl, k1⟩
    go_wp2
    go_ret2
    exact ⟨rfl, k1⟩
  · have e1 : decV s.data.toList = fracN s.data.toList := by simp [decV, hd]
    have e2 : decE s.data.toList = 0 := by simp [decE, hd]
    rw [e1, e2]
    have hne : (digs s.data.toList == s.toList) = true := by
      rw [beq_iff_eq, Lib.toList_data]
      exact (digs_eq_iff _).2 hd
    have Hf := Lib.hid (fun w => fraction_any s w hs (allDig_yes hd))
    clear e1 e2 hd
    go_enter Tryd.func26, Tryd.ntmps26
    go_wp2_with (fail)
    refine Hl.out.mono ?_
    rintro e w1 ⟨rfl, k1⟩
    go_wp2_with (go_at_call 50; refine (Hf.out _).mono ?_; rintro e w2 ⟨rfl, k2⟩)
    go_ret2
    exact ⟨rfl, k1.trans k2⟩
end Go.Proofs.YtcdblgfaojejnaaDoor
