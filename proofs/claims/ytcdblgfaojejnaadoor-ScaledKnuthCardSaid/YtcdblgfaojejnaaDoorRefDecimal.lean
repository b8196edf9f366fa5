/- The document's Decimal: a number without a sign. -/
import Derived.Test.YtcdblgfaojejnaaDoorRefText
import Derived.Test.YtcdblgfaojejnaaDoorParse
namespace Go.Proofs.YtcdblgfaojejnaaDoor
open Go.RowKit

def whole40 (l : List UInt8) : Int := l.foldl (fun n c => min (10 * n + ((c.toNat : Int) - 48)) 1099511627776) 0
theorem whole40_snoc (l : List UInt8) (c : UInt8) : whole40 (l ++ [c]) = min (10 * whole40 l + ((c.toNat : Int) - 48)) 1099511627776 := by
  unfold whole40; rw [List.foldl_append]; rfl
theorem snoc_ind {P : List UInt8 → Prop} (h0 : P []) (h1 : ∀ l c, P l → P (l ++ [c])) (l : List UInt8) : P l := by
  have h : ∀ m : List UInt8, P m.reverse := by
    intro m
    induction m with
    | nil => exact h0
    | cons c m ih => rw [List.reverse_cons]; exact h1 _ _ ih
  rw [← List.reverse_reverse l]; exact h _
theorem whole40_bd (l : List UInt8) : (∀ c ∈ l, isDig c = true) → (0 ≤ whole40 l ∧ whole40 l ≤ 1099511627776) ∧ wholeN l = min (whole40 l) 2147483648 := by
  refine snoc_ind (P := fun l => (∀ c ∈ l, isDig c = true) → (0 ≤ whole40 l ∧ whole40 l ≤ 1099511627776) ∧ wholeN l = min (whole40 l) 2147483648) ?_ ?_ l
  · intro _; exact ⟨by decide, by decide⟩
  · intro l c ih h
    obtain ⟨hb, hw⟩ := ih (fun d hd => h d (by simp [hd]))
    have hc := h c (by simp)
    simp [isDig] at hc
    rw [whole40_snoc, wholeN_snoc, hw]
    omega

/-- what Decimal answers -/
def refDw (l : List UInt8) : Int := if numOk l then whole40 (digs l) else 0
def refDf (l : List UInt8) : Int := if numOk l then fracN (numBehind l) else 0
def refDn (l : List UInt8) : Int := if numOk l then (l.length : Int) - (numLeft l).length else 0

theorem rest_all {l : List UInt8} (h : l.all isDig = true) : rest l = [] := by
  rw [← drop_digs, digs_all h, List.drop_length]
theorem rest_stop {l : List UInt8} {k : Nat} {c : UInt8} (h : (l.take k).all isDig = true) (hk : l[k]? = some c) (hc : isDig c = false) : rest l = l.drop k := by
  have hlt := (List.getElem?_eq_some_iff.1 hk).1
  rw [← drop_digs, digs_stop h hk hc, List.length_take, Nat.min_eq_left (by omega)]
theorem prefix_one {l : List UInt8} {c d : UInt8} (hk : l[0]? = some c) : Lib.hasPrefix l [d] = (d == c) := by
  cases l with
  | nil => simp at hk
  | cons x m => simp at hk; subst hk; simp [Lib.hasPrefix, List.isPrefixOf]

theorem fin1 {l : List UInt8} (h : l.all isDig = true) : refDw l = whole40 l ∧ refDf l = 0 ∧ refDn l = l.length := by
  have e1 := digs_all h
  have e2 := rest_all h
  have e3 : pointed l = false := by unfold pointed; rw [e2]; rfl
  have e4 : numBehind l = [] := by unfold numBehind; rw [e3]; rfl
  have e5 : numLeft l = [] := by unfold numLeft; rw [e3, e2]; rfl
  unfold refDw refDf refDn
  cases hn : numOk l
  · have : l = [] := by
      unfold numOk at hn; rw [e4, e1] at hn; simpa using hn
    subst this
    exact ⟨by decide, by decide, by decide⟩
  · rw [e1, e4, e5]
    exact ⟨rfl, by decide, by simp⟩
theorem fin2 {l : List UInt8} {k : Nat} {c : UInt8} (h : (l.take k).all isDig = true) (hk : l[k]? = some c) (hc : isDig c = false) (hd : (c == 46) = false) : refDw l = whole40 (l.take k) ∧ refDf l = 0 ∧ refDn l = k := by
  have hlt := (List.getElem?_eq_some_iff.1 hk).1
  have e1 := digs_stop h hk hc
  have e2 := rest_stop h hk hc
  have e3 : pointed l = false := by
    unfold pointed; rw [e2, prefix_one (c := c) (by rw [List.getElem?_drop]; simpa using hk)]
    rw [beq_eq_false_iff_ne] at hd ⊢
    exact fun e => hd e.symm
  have e4 : numBehind l = [] := by unfold numBehind; rw [e3]; rfl
  have e5 : numLeft l = l.drop k := by unfold numLeft; rw [e3, e2]; rfl
  unfold refDw refDf refDn
  cases hn : numOk l
  · have h0 : l.take k = [] := by
      unfold numOk at hn; rw [e4, e1] at hn; simpa using hn
    have hk0 : k = 0 := by
      have := congrArg List.length h0
      rw [List.length_take, Nat.min_eq_left (by omega)] at this
      simpa using this
    subst hk0
    exact ⟨rfl, rfl, rfl⟩
  · rw [e1, e4, e5]
    refine ⟨rfl, by decide, ?_⟩
    rw [if_pos rfl, List.length_drop]; omega
theorem fin34 {l : List UInt8} {k j : Nat} (h : (l.take k).all isDig = true) (hk : l[k]? = some 46) (hj : k + 1 ≤ j) (_hjl : j ≤ l.length) (hB : ((l.drop (k + 1)).take (j - (k + 1))).all isDig = true) (hend : j = l.length ∨ ∃ c, l[j]? = some c ∧ isDig c = false) :
    digs l = l.take k ∧ numBehind l = (l.drop (k + 1)).take (j - (k + 1)) ∧ numLeft l = l.drop j := by
  have hlt := (List.getElem?_eq_some_iff.1 hk).1
  have hc : isDig 46 = false := by decide
  have e1 := digs_stop h hk hc
  have e2 := rest_stop h hk hc
  have e3 : pointed l = true := by
    unfold pointed; rw [e2, prefix_one (c := 46) (by rw [List.getElem?_drop]; simpa using hk)]; rfl
  have et : Lib.trimPrefix (rest l) [46] = l.drop (k + 1) := by
    unfold Lib.trimPrefix
    rw [show Lib.hasPrefix (rest l) [46] = true from e3, if_pos rfl, e2, List.drop_drop]; rfl
  have hdr : digs (l.drop (k + 1)) = (l.drop (k + 1)).take (j - (k + 1)) ∧ rest (l.drop (k + 1)) = l.drop j := by
    rcases hend with he | ⟨c, hc1, hc2⟩
    · have hfull : (l.drop (k + 1)).take (j - (k + 1)) = l.drop (k + 1) := List.take_of_length_le (by rw [List.length_drop]; omega)
      rw [hfull] at hB
      rw [digs_all hB, rest_all hB, hfull]
      exact ⟨rfl, (List.drop_eq_nil_of_le (by omega)).symm⟩
    · have hg : (l.drop (k + 1))[j - (k + 1)]? = some c := by
        rw [List.getElem?_drop, show k + 1 + (j - (k + 1)) = j from by omega]; exact hc1
      refine ⟨digs_stop hB hg hc2, ?_⟩
      rw [rest_stop hB hg hc2, List.drop_drop, show k + 1 + (j - (k + 1)) = j from by omega]
  refine ⟨e1, ?_, ?_⟩
  · unfold numBehind; rw [e3, if_pos rfl, et]; exact hdr.1
  · unfold numLeft; rw [e3, if_pos rfl, et]; exact hdr.2
theorem fin3 {l : List UInt8} (hk : l[0]? = some 46) (hjl : 1 ≤ l.length) (hend : 1 = l.length ∨ ∃ c, l[1]? = some c ∧ isDig c = false) : refDw l = 0 ∧ refDf l = 0 ∧ refDn l = 0 := by
  obtain ⟨e1, e2, _⟩ := fin34 (l := l) (k := 0) (j := 1) (by simp) hk (by omega) hjl (by simp) hend
  have : numOk l = false := by unfold numOk; rw [e1, e2]; simp
  unfold refDw refDf refDn
  rw [this]
  exact ⟨rfl, rfl, rfl⟩
theorem fin4 {l : List UInt8} {k j : Nat} (h : (l.take k).all isDig = true) (hk : l[k]? = some 46) (hj : k + 1 ≤ j) (hjl : j ≤ l.length) (hB : ((l.drop (k + 1)).take (j - (k + 1))).all isDig = true) (hend : j = l.length ∨ ∃ c, l[j]? = some c ∧ isDig c = false) (hne : ¬ (k = 0 ∧ j = k + 1)) :
    refDw l = whole40 (l.take k) ∧ refDf l = fracN ((l.drop (k + 1)).take (j - (k + 1))) ∧ refDn l = j := by
  obtain ⟨e1, e2, e3⟩ := fin34 h hk hj hjl hB hend
  have hn : numOk l = true := by
    unfold numOk; rw [e1, e2]
    rw [Bool.or_eq_true]
    by_cases hk0 : k = 0
    · right
      have hlen : ((l.drop (k + 1)).take (j - (k + 1))).length = j - (k + 1) := by rw [List.length_take, List.length_drop]; omega
      cases hh : (l.drop (k + 1)).take (j - (k + 1)) with
      | nil => rw [hh] at hlen; simp at hlen; omega
      | cons a b => rfl
    · left
      have hlen : (l.take k).length = k := by rw [List.length_take]; omega
      cases hh : l.take k with
      | nil => rw [hh] at hlen; simp at hlen; omega
      | cons a b => rfl
  unfold refDw refDf refDn
  rw [hn, e1, e2, e3]
  refine ⟨rfl, rfl, ?_⟩
  rw [if_pos rfl, List.length_drop]; omega

theorem byte_46 {c : UInt8} (h : (c.toNat : Int) = 46) : c = 46 := by
  apply UInt8.toNat_inj.1
  have : (46 : UInt8).toNat = 46 := rfl
  omega
theorem byte_not46 {c : UInt8} (h : ¬ (c.toNat : Int) = 46) : (c == 46) = false := by
  rw [beq_eq_false_iff_ne]
  rintro rfl
  exact h rfl

theorem decV_same {a b : List UInt8} (e : a = b) (h : b.all isDig = true) : decV a = fracN b := by
  subst e
  unfold decV
  rw [show allDig a = true from h, if_pos rfl]

set_option maxHeartbeats 4000000 in
theorem refDecimal_any (s : ByteArray) (w : World) (hs : s.size ≤ 9223372036854775807) :
    Calls Tryd.prog 58 #[.string s] w fun e w' => e = .returned (.tuple #[.int .i64 (refDw s.data.toList), .int .i64 (refDf s.data.toList), .int .i64 (refDn s.data.toList)]) ∧ w = w' := by
  have hlen : s.data.toList.length = s.size := (Lib.size_eq s).symm
  have Hlen := Lib.hid hlen
  clear hlen
  go_enter Tryd.func58, Tryd.ntmps58
  go_wp2
  go_loop [5, 6] (fun i n => ∃ k : Nat, k ≤ s.size ∧ i = .int .i64 k ∧ n = .int .i64 (whole40 (s.data.toList.take k)) ∧ Hid ((s.data.toList.take k).all isDig = true)) (fun i _ => s.size - (intOf i).toNat)
  case atStart => exact ⟨0, Nat.zero_le _, rfl, rfl, rfl⟩
  case round =>
    obtain ⟨k, hk, rfl, rfl, hall⟩ := hrel
    obtain ⟨⟨b0, b1⟩, _⟩ := whole40_bd (s.data.toList.take k) (List.all_eq_true.1 hall.out)
    by_cases hlt : k < s.size
    · have hat := Lib.hid (at_list s k hlt)
      by_cases hd : 48 ≤ (s[k]'hlt).toNat ∧ (s[k]'hlt).toNat ≤ 57
      · obtain ⟨d0, d1⟩ := hd
        have hsn := whole40_snoc (s.data.toList.take k) (s[k]'hlt)
        rw [← take_snoc hat.out] at hsn
        have Hsn := Lib.hid hsn
        have hc : isDig (s[k]'hlt) = true := by simp only [isDig, decide_eq_true_eq]; omega
        have Hc := Lib.hid (all_snoc hall.out hat.out hc)
        generalize whole40 (s.data.toList.take k) = n at *
        clear hsn hc
        go_wp2
        go_round
        case rel => exact ⟨k + 1, by omega, by go_num, by rw [Hsn.out], Hc⟩
        case measure => simp [intOf]; omega
      · by_cases h46 : s[k]'hlt = 46
        · have hn46 : (((s[k]'hlt).toNat : Int) != 46) = false := by rw [h46]; rfl
          have lt48 : ((s[k]'hlt).toNat : Int) < 48 := by rw [h46]; decide
          have hks : ((k : Int) == (s.size : Int)) = false := beq_eq_false_iff_ne.2 (by omega)
          have h46 := Lib.hid h46
          clear hd
          go_wp2
          go_loop [8] (fun i => ∃ j : Nat, k + 1 ≤ j ∧ j ≤ s.size ∧ i = .int .i64 j ∧ Hid (((s.data.toList.drop (k + 1)).take (j - (k + 1))).all isDig = true)) (fun i => s.size - (intOf i).toNat)
          case atStart => exact ⟨k + 1, Nat.le_refl _, by omega, by go_num, Lib.hid (by simp)⟩
          case round =>
          obtain ⟨j, hj, hjs, rfl, hB⟩ := hrel
          by_cases hjlt : j < s.size
          · have hatj := Lib.hid (at_list s j hjlt)
            by_cases hdj : 48 ≤ (s[j]'hjlt).toNat ∧ (s[j]'hjlt).toNat ≤ 57
            · obtain ⟨d0, d1⟩ := hdj
              have hc : isDig (s[j]'hjlt) = true := by simp only [isDig, decide_eq_true_eq]; omega
              have Hc : Hid (((s.data.toList.drop (k + 1)).take (j + 1 - (k + 1))).all isDig = true) := Lib.hid (by
                rw [show j + 1 - (k + 1) = (j - (k + 1)) + 1 from by omega]
                exact all_snoc hB.out (by rw [List.getElem?_drop, show k + 1 + (j - (k + 1)) = j from by omega]; exact hatj.out) hc)
              clear hc
              go_wp2
              go_round
              case rel => exact ⟨j + 1, by omega, by omega, by go_num, Hc⟩
              case measure => simp [intOf]; omega
            · have hend : j = s.size ∨ ∃ c, s.data.toList[j]? = some c ∧ isDig c = false := .inr ⟨_, hatj.out, by simp only [isDig, decide_eq_false_iff_not]; omega⟩
              have hdj' : ((s[j]'hjlt).toNat : Int) < 48 ∨ (48 ≤ ((s[j]'hjlt).toNat : Int) ∧ 57 < ((s[j]'hjlt).toNat : Int)) := by omega
              clear hdj
              rcases hdj' with hdj | ⟨hdj, hdj2⟩
              all_goals
                have Hend := Lib.hid hend
                clear hend
                by_cases hk0 : k = 0
                · subst hk0
                  by_cases hj1 : j = 1
                  · subst hj1
                    go_wp2
                    go_ret3
                    obtain ⟨e1, e2, e3⟩ := fin3 (l := s.data.toList) (by rw [hat.out, h46.out]) (by rw [Hlen.out]; omega) (by rw [Hlen.out]; exact Hend.out)
                    exact ⟨ret_iii e1.symm e2.symm e3.symm, rfl⟩
                  · have hjb : ((j : Int) == 0 + 1) = false := beq_eq_false_iff_ne.2 (by omega)
                    have hjb2 : ((j : Int) == 1) = false := beq_eq_false_iff_ne.2 (by omega)
                    go_wp2_with (fail)
                    refine (refDecimals_any _ _ (by rw [ByteArray.size_extract]; omega)).mono ?_
                    rintro e w2 ⟨rfl, rfl⟩
                    go_wp2
                    go_ret3
                    obtain ⟨e1, e2, e3⟩ := fin4 (l := s.data.toList) (k := 0) (j := j) hall.out (by rw [hat.out, h46.out]) (by omega) (by rw [Hlen.out]; omega) hB.out (by rw [Hlen.out]; exact Hend.out) (by omega)
                    exact ⟨ret_iii e1.symm (by rw [e2]; exact decV_same (by first | rfl | simp) hB.out) e3.symm, rfl⟩
                · have hkb : ((k : Int) == 0) = false := beq_eq_false_iff_ne.2 (by omega)
                  go_wp2_with (fail)
                  refine (refDecimals_any _ _ (by rw [ByteArray.size_extract]; omega)).mono ?_
                  rintro e w2 ⟨rfl, rfl⟩
                  go_wp2
                  go_ret3
                  obtain ⟨e1, e2, e3⟩ := fin4 (l := s.data.toList) (k := k) (j := j) hall.out (by rw [hat.out, h46.out]) (by omega) (by rw [Hlen.out]; omega) hB.out (by rw [Hlen.out]; exact Hend.out) (by omega)
                  exact ⟨ret_iii e1.symm (by rw [e2]; exact decV_same (by first | rfl | simp) hB.out) e3.symm, rfl⟩

          · have hend : j = s.size ∨ ∃ c, s.data.toList[j]? = some c ∧ isDig c = false := .inl (by omega)
            have Hend := Lib.hid hend
            clear hend
            by_cases hk0 : k = 0
            · subst hk0
              by_cases hj1 : j = 1
              · subst hj1
                go_wp2
                go_ret3
                obtain ⟨e1, e2, e3⟩ := fin3 (l := s.data.toList) (by rw [hat.out, h46.out]) (by rw [Hlen.out]; omega) (by rw [Hlen.out]; exact Hend.out)
                exact ⟨ret_iii e1.symm e2.symm e3.symm, rfl⟩
              · have hjb : ((j : Int) == 0 + 1) = false := beq_eq_false_iff_ne.2 (by omega)
                have hjb2 : ((j : Int) == 1) = false := beq_eq_false_iff_ne.2 (by omega)
                go_wp2_with (fail)
                refine (refDecimals_any _ _ (by rw [ByteArray.size_extract]; omega)).mono ?_
                rintro e w2 ⟨rfl, rfl⟩
                go_wp2
                go_ret3
                obtain ⟨e1, e2, e3⟩ := fin4 (l := s.data.toList) (k := 0) (j := j) hall.out (by rw [hat.out, h46.out]) (by omega) (by rw [Hlen.out]; omega) hB.out (by rw [Hlen.out]; exact Hend.out) (by omega)
                exact ⟨ret_iii e1.symm (by rw [e2]; exact decV_same (by first | rfl | simp) hB.out) e3.symm, rfl⟩
            · have hkb : ((k : Int) == 0) = false := beq_eq_false_iff_ne.2 (by omega)
              go_wp2_with (fail)
              refine (refDecimals_any _ _ (by rw [ByteArray.size_extract]; omega)).mono ?_
              rintro e w2 ⟨rfl, rfl⟩
              go_wp2
              go_ret3
              obtain ⟨e1, e2, e3⟩ := fin4 (l := s.data.toList) (k := k) (j := j) hall.out (by rw [hat.out, h46.out]) (by omega) (by rw [Hlen.out]; omega) hB.out (by rw [Hlen.out]; exact Hend.out) (by omega)
              exact ⟨ret_iii e1.symm (by rw [e2]; exact decV_same (by first | rfl | simp) hB.out) e3.symm, rfl⟩

        · have hn46 : (((s[k]'hlt).toNat : Int) != 46) = true := by
            rw [bne_iff_ne]; exact fun e => h46 (byte_46 e)
          have hks : ((k : Int) == (s.size : Int)) = false := beq_eq_false_iff_ne.2 (by omega)
          have hc : isDig (s[k]'hlt) = false := by simp only [isDig, decide_eq_false_iff_not]; omega
          obtain ⟨e1, e2, e3⟩ := fin2 hall.out hat.out hc (by rw [beq_eq_false_iff_ne]; exact h46)
          have E1 := Lib.hid e1
          have E2 := Lib.hid e2
          have E3 := Lib.hid e3
          have hd' : ((s[k]'hlt).toNat : Int) < 48 ∨ (48 ≤ ((s[k]'hlt).toNat : Int) ∧ 57 < ((s[k]'hlt).toNat : Int)) := by omega
          clear e1 e2 e3 hd hc
          rcases hd' with hd | ⟨hd, hd2⟩
          all_goals
            go_wp2
            go_ret3
            exact ⟨ret_iii E1.out.symm E2.out.symm E3.out.symm, rfl⟩
    · obtain rfl : k = s.size := by omega
      have hfull : s.data.toList.take s.size = s.data.toList := List.take_of_length_le (by rw [← Lib.size_eq]; omega)
      have hall' := hall.out
      rw [hfull] at hall'
      obtain ⟨e1, e2, e3⟩ := fin1 hall'
      replace e1 : refDw s.data.toList = whole40 (s.data.toList.take s.size) := by rw [hfull]; exact e1
      rw [Hlen.out] at e3
      have E1 := Lib.hid e1
      have E2 := Lib.hid e2
      have E3 := Lib.hid e3
      clear e1 e2 e3 hall' hfull
      go_wp2
      go_ret3
      exact ⟨ret_iii E1.out.symm E2.out.symm E3.out.symm, rfl⟩
end Go.Proofs.YtcdblgfaojejnaaDoor
