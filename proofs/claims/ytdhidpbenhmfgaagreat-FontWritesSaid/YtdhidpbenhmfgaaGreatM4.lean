/- CMetric CFix. -/
import Derived.Test.YtdhidpbenhmfgaaGreatFDefs
namespace Go.Proofs.YtdhidpbenhmfgaaGreat
open Go.RowKit

abbrev metA (m : Met) : Value := .agg #[.int .i64 m.w, .int .i64 m.h, .int .i64 m.d, .int .i64 m.it, .int .i64 m.tag, .int .i64 m.rest]

set_option maxHeartbeats 1000000 in
theorem cm_neg (F : Fnt) (a : FAddr) (c i : Int) (w : World) (hc : 0 ≤ c ∧ c ≤ 255) (hi : wrap64 (c - F.first) = i) (h0 : i < 0) :
    Calls Tryz.prog 13 #[fontV F a, .int .u8 c] w fun e w' => e = .returned (.tuple #[metA ⟨0, 0, 0, 0, 0, 0⟩, .bool false]) ∧ Kept w w' := by
  obtain ⟨A0, n0, A1, n1, A2, n2, A3, n3, A4, n4⟩ := a
  have hlt : decide (i < 0) = true := decide_eq_true h0
  go_enter Tryz.func13, Tryz.ntmps13
  go_wp2
  exact bodyPost_ret (v := .tuple #[metA ⟨0, 0, 0, 0, 0, 0⟩, .bool false]) (by simp [results, Tryz.results13, go_sem]) rfl ⟨rfl, (by repeat (first | exact Kept.refl _ | assumption | refine kalloc ?_ _ | refine Below.setCell ?_ (by simp; try omega) _ | refine below_drewN ?_ _ | refine Below.drew ?_))⟩

set_option maxHeartbeats 1000000 in
theorem cm_far (F : Fnt) (a : FAddr) (c i : Int) (w : World) (hc : 0 ≤ c ∧ c ≤ 255) (hi : wrap64 (c - F.first) = i) (h0 : 0 ≤ i) (h1 : (F.chars.length : Int) ≤ i) :
    Calls Tryz.prog 13 #[fontV F a, .int .u8 c] w fun e w' => e = .returned (.tuple #[metA ⟨0, 0, 0, 0, 0, 0⟩, .bool false]) ∧ Kept w w' := by
  obtain ⟨A0, n0, A1, n1, A2, n2, A3, n3, A4, n4⟩ := a
  have hlt : decide (i < 0) = false := decide_eq_false (by omega)
  have hge : decide ((F.chars.length : Int) ≤ i) = true := decide_eq_true h1
  go_enter Tryz.func13, Tryz.ntmps13
  go_wp2
  exact bodyPost_ret (v := .tuple #[metA ⟨0, 0, 0, 0, 0, 0⟩, .bool false]) (by simp [results, Tryz.results13, go_sem]) rfl ⟨rfl, (by repeat (first | exact Kept.refl _ | assumption | refine kalloc ?_ _ | refine Below.setCell ?_ (by simp; try omega) _ | refine below_drewN ?_ _ | refine Below.drew ?_))⟩

set_option maxHeartbeats 1000000 in
theorem cm_t1 (F : Fnt) (a : FAddr) (c i : Int) (w : World) (hc : 0 ≤ c ∧ c ≤ 255) (hi : wrap64 (c - F.first) = i) (k : Nat) (hik : i = k) (hF : FontAt w F a w.heap.size) (hk : k < F.chars.length) (ht : F.chars[k].tag < 0) :
    Calls Tryz.prog 13 #[fontV F a, .int .u8 c] w fun e w' => e = .returned (.tuple #[metA ⟨0, 0, 0, 0, 0, 0⟩, .bool false]) ∧ Kept w w' := by
  obtain ⟨A0, n0, A1, n1, A2, n2, A3, n3, A4, n4⟩ := a
  subst hik
  obtain ⟨b, o, hA, hb, hcc⟩ := hF.m (by omega)
  obtain ⟨c0, c1, c2, c3, c4, c5⟩ := hcc k hk
  obtain rfl : A0 = some ⟨b, o, none⟩ := hA
  clear hcc
  have hlt : decide ((k : Int) < 0) = false := decide_eq_false (by omega)
  have hge : decide (F.chars.length ≤ k) = false := decide_eq_false (by omega)
  generalize F.chars[k] = m at *
  obtain ⟨mw, mh, md, mi, mt, mr⟩ := m
  dsimp only at *
  clear hF
  have hm : decide (mt < 0) = true := decide_eq_true ht
  go_enter Tryz.func13, Tryz.ntmps13
  go_wp2
  exact bodyPost_ret (v := .tuple #[metA ⟨0, 0, 0, 0, 0, 0⟩, .bool false]) (by simp [results, Tryz.results13, go_sem]) rfl ⟨rfl, (by repeat (first | exact Kept.refl _ | assumption | refine kalloc ?_ _ | refine Below.setCell ?_ (by simp; try omega) _ | refine below_drewN ?_ _ | refine Below.drew ?_))⟩

set_option maxHeartbeats 1000000 in
theorem cm_t2 (F : Fnt) (a : FAddr) (c i : Int) (w : World) (hc : 0 ≤ c ∧ c ≤ 255) (hi : wrap64 (c - F.first) = i) (k : Nat) (hik : i = k) (hF : FontAt w F a w.heap.size) (hk : k < F.chars.length) (ht : 3 < F.chars[k].tag) :
    Calls Tryz.prog 13 #[fontV F a, .int .u8 c] w fun e w' => e = .returned (.tuple #[metA ⟨0, 0, 0, 0, 0, 0⟩, .bool false]) ∧ Kept w w' := by
  obtain ⟨A0, n0, A1, n1, A2, n2, A3, n3, A4, n4⟩ := a
  subst hik
  obtain ⟨b, o, hA, hb, hcc⟩ := hF.m (by omega)
  obtain ⟨c0, c1, c2, c3, c4, c5⟩ := hcc k hk
  obtain rfl : A0 = some ⟨b, o, none⟩ := hA
  clear hcc
  have hlt : decide ((k : Int) < 0) = false := decide_eq_false (by omega)
  have hge : decide (F.chars.length ≤ k) = false := decide_eq_false (by omega)
  generalize F.chars[k] = m at *
  obtain ⟨mw, mh, md, mi, mt, mr⟩ := m
  dsimp only at *
  clear hF
  have hm : decide (mt < 0) = false := decide_eq_false (by omega)
  have hn : decide (3 < mt) = true := decide_eq_true ht
  go_enter Tryz.func13, Tryz.ntmps13
  go_wp2
  exact bodyPost_ret (v := .tuple #[metA ⟨0, 0, 0, 0, 0, 0⟩, .bool false]) (by simp [results, Tryz.results13, go_sem]) rfl ⟨rfl, (by repeat (first | exact Kept.refl _ | assumption | refine kalloc ?_ _ | refine Below.setCell ?_ (by simp; try omega) _ | refine below_drewN ?_ _ | refine Below.drew ?_))⟩

set_option maxHeartbeats 1000000 in
theorem cm_ok (F : Fnt) (a : FAddr) (c i : Int) (w : World) (hc : 0 ≤ c ∧ c ≤ 255) (hi : wrap64 (c - F.first) = i) (k : Nat) (hik : i = k) (hF : FontAt w F a w.heap.size) (hk : k < F.chars.length) (h0 : 0 ≤ F.chars[k].tag) (ht : F.chars[k].tag ≤ 3) :
    Calls Tryz.prog 13 #[fontV F a, .int .u8 c] w fun e w' => e = .returned (.tuple #[metA F.chars[k], .bool true]) ∧ Kept w w' := by
  obtain ⟨A0, n0, A1, n1, A2, n2, A3, n3, A4, n4⟩ := a
  subst hik
  obtain ⟨b, o, hA, hb, hcc⟩ := hF.m (by omega)
  obtain ⟨c0, c1, c2, c3, c4, c5⟩ := hcc k hk
  obtain rfl : A0 = some ⟨b, o, none⟩ := hA
  clear hcc
  have hlt : decide ((k : Int) < 0) = false := decide_eq_false (by omega)
  have hge : decide (F.chars.length ≤ k) = false := decide_eq_false (by omega)
  generalize F.chars[k] = m at *
  obtain ⟨mw, mh, md, mi, mt, mr⟩ := m
  dsimp only at *
  clear hF
  have hm : decide (mt < 0) = false := decide_eq_false (by omega)
  have hn : decide (3 < mt) = false := decide_eq_false (by omega)
  go_enter Tryz.func13, Tryz.ntmps13
  go_wp2
  trace "OK"
  exact bodyPost_ret (v := .tuple #[metA ⟨mw, mh, md, mi, mt, mr⟩, .bool true]) (by simp [results, Tryz.results13, go_sem]) rfl ⟨rfl, (by repeat (first | exact Kept.refl _ | assumption | refine kalloc ?_ _ | refine Below.setCell ?_ (by simp; try omega) _ | refine below_drewN ?_ _ | refine Below.drew ?_))⟩

theorem cmetric_any (F : Fnt) (a : FAddr) (c : Int) (w : World) (hF : FontAt w F a w.heap.size) (hw : F.wf) (hc : 0 ≤ c ∧ c ≤ 255) :
    Calls Tryz.prog 13 #[fontV F a, .int .u8 c] w fun e w' => e = .returned (.tuple #[metA (metV F c), .bool (thB F c)]) ∧ Kept w w' := by
  have hf := hw.first
  have hl : F.chars.length ≤ 9223372036854775807 := hw.l0
  unfold i64B at hf
  have none_case : thereAt F c = none → metV F c = ⟨0, 0, 0, 0, 0, 0⟩ ∧ thB F c = false := fun h => ⟨by unfold metV; rw [h], (there_no h).2⟩
  by_cases h0 : wrap64 (c - F.first) < 0
  · obtain ⟨e1, e2⟩ := none_case (by unfold thereAt; rw [if_neg]; unfold wrap64 at h0; omega)
    rw [e1, e2]
    exact cm_neg F a c _ w hc rfl h0
  · by_cases h1 : (F.chars.length : Int) ≤ wrap64 (c - F.first)
    · obtain ⟨e1, e2⟩ := none_case (by unfold thereAt; rw [if_neg]; unfold wrap64 at h0 h1; omega)
      rw [e1, e2]
      exact cm_far F a c _ w hc rfl (by omega) h1
    · have hin : wrap64 (c - F.first) = c - F.first ∧ F.first ≤ c ∧ c - F.first < F.chars.length := by
        unfold wrap64 at h0 h1 ⊢
        omega
      obtain ⟨e0, h2, h3⟩ := hin
      obtain ⟨k, hk⟩ : ∃ k : Nat, c - F.first = k := ⟨(c - F.first).toNat, by omega⟩
      have hkl : k < F.chars.length := by omega
      have hta : thereAt F c = if 0 ≤ F.chars[k].tag ∧ F.chars[k].tag ≤ 3 then some k else none := by
        unfold thereAt
        rw [if_pos ⟨h2, h3⟩, hk, show ((k : Int)).toNat = k from rfl, List.getElem?_eq_getElem hkl]
      by_cases t0 : F.chars[k].tag < 0
      · obtain ⟨e1, e2⟩ := none_case (by rw [hta, if_neg (by omega)])
        rw [e1, e2]
        exact cm_t1 F a c _ w hc rfl k (by rw [e0, hk]) hF hkl t0
      · by_cases t1 : 3 < F.chars[k].tag
        · obtain ⟨e1, e2⟩ := none_case (by rw [hta, if_neg (by omega)])
          rw [e1, e2]
          exact cm_t2 F a c _ w hc rfl k (by rw [e0, hk]) hF hkl t1
        · have hs : thereAt F c = some k := by rw [hta, if_pos (by omega)]
          have e1 : metV F c = F.chars[k] := by unfold metV; rw [hs]; simp only [List.getElem?_eq_getElem hkl]; rfl
          rw [e1, (there_yes hs).2]
          exact cm_ok F a c _ w hc rfl k (by rw [e0, hk]) hF hkl (by omega) (by omega)

set_option maxHeartbeats 1000000 in
theorem cthere_any (F : Fnt) (a : FAddr) (c : Int) (w : World) (hF : FontAt w F a w.heap.size) (hw : F.wf) (hc : 0 ≤ c ∧ c ≤ 255) :
    Calls Tryz.prog 60 #[fontV F a, .int .u8 c] w fun e w' => e = .returned (.bool (thB F c)) ∧ Kept w w' := by
  have h := fun w' (hk : Kept w w') => Lib.hid (cmetric_any F a c w' ((hF.kept hk).more hk.size) hw hc)
  clear hF hw
  obtain ⟨A0, n0, A1, n1, A2, n2, A3, n3, A4, n4⟩ := a
  generalize metV F c = m at *
  generalize thB F c = t at *
  go_enter Tryz.func60, Tryz.ntmps60
  go_wp2_with (fail)
  refine (h _ (walloc _ _)).out.mono ?_
  rintro e w1 ⟨rfl, k1⟩
  have k0 : Kept w w1 := (walloc _ _).trans k1
  go_wp2_with (fail)
  go_ret
  exact ⟨rfl, (by repeat (first | exact Kept.refl _ | assumption | refine kalloc ?_ _ | refine Below.setCell ?_ (by simp; try omega) _ | refine below_drewN ?_ _ | refine Below.drew ?_))⟩
end Go.Proofs.YtdhidpbenhmfgaaGreat
namespace Go.Proofs.YtdhidpbenhmfgaaGreat
open Go.RowKit

def FixAt (xs : List Int) (w : World) (i : Value) (wr : World) : Prop := ∃ k : Nat, k ≤ xs.length ∧ i = .int .i64 k ∧ (∀ j, ∀ h : j < k, ∀ h' : j < xs.length, fixB xs[j] = true) ∧ Kept w wr

set_option maxHeartbeats 1000000 in
theorem cfix_any (A : Option Addr) (xs : List Int) (c : Nat) (w : World) (hl : xs.length ≤ 9223372036854775807) (hx : NumsAt w A xs w.heap.size) :
    Calls Tryz.prog 50 #[.slice A xs.length c] w fun e w' => e = .returned (.bool (xs.all fixB)) ∧ Kept w w' := by
  have HX := Lib.hid hx
  clear hx
  go_enter Tryz.func50, Tryz.ntmps50
  go_wp2
  go_loopw [7] (fun i wr => FixAt xs w i wr) (fun i _ => xs.length - (intOf i).toNat)
  case atStart => exact ⟨0, Nat.zero_le _, rfl, fun j h => absurd h (Nat.not_lt_zero _), Kept.refl _⟩
  case round =>
    obtain ⟨k, hk, rfl, hall, hkept⟩ := hrel
    have Hall := Lib.hid hall
    clear hall
    by_cases hlt : k < xs.length
    · obtain ⟨b, o, rfl, hb, hc⟩ := (HX.out.kept hkept) (by omega)
      have c0 := hc k hlt
      clear hc
      have Hyes : Hid (fixB xs[k] = true → ∀ j, ∀ h : j < k + 1, ∀ h' : j < xs.length, fixB xs[j] = true) := fun hy j h h' => by
        rcases Nat.lt_or_ge j k with hj | hj
        · exact Hall.out j hj h'
        · obtain rfl : j = k := by omega
          exact hy
      have Hno : Hid (fixB xs[k] = false → xs.all fixB = false) := fun hn => by
        rw [List.all_eq_false]; exact ⟨_, List.getElem_mem hlt, by simp [hn]⟩
      clear Hall
      generalize xs[k] = x at *
      have d0 : decide ((k : Int) < xs.length) = true := decide_eq_true (by omega)
      by_cases h1 : x < -16777216
      · have f1 : decide (x < -16777216) = true := decide_eq_true h1
        have Hr := Lib.hid (Hno.out (by unfold fixB; exact decide_eq_false (by omega)))
        clear Hno Hyes
        go_wp2
        go_ret
        exact ⟨ret_bool Hr.out.symm, by first | exact hkept | exact below_drewN hkept _⟩
      · have f1 : decide (x < -16777216) = false := decide_eq_false h1
        by_cases h2 : 16777215 < x
        · have f2 : decide (16777215 < x) = true := decide_eq_true h2
          have Hr := Lib.hid (Hno.out (by unfold fixB; exact decide_eq_false (by omega)))
          clear Hno Hyes
          go_wp2
          go_ret
          exact ⟨ret_bool Hr.out.symm, by first | exact hkept | exact below_drewN hkept _⟩
        · have f2 : decide (16777215 < x) = false := decide_eq_false h2
          have Hr := Lib.hid (Hyes.out (by unfold fixB; exact decide_eq_true (by omega)))
          clear Hno Hyes
          go_wp2
          go_roundw
          case rel => exact ⟨k + 1, by omega, by go_num, Hr.out, by first | exact hkept | exact below_drewN hkept _⟩
          case measure => simp [intOf]; omega
    · have Hr : Hid (xs.all fixB = true) := by
        unfold Hid
        rw [List.all_eq_true]
        intro z hz
        obtain ⟨j, hj, rfl⟩ := List.mem_iff_getElem.1 hz
        exact Hall.out j (by omega) hj
      clear Hall
      go_wp2
      go_ret
      exact ⟨ret_bool Hr.out.symm, hkept⟩

theorem sized_any (n : Int) (w : World) :
    Calls Tryz.prog 49 #[.int .i64 n] w fun e w' => e = .returned (.bool (decide (1 ≤ n ∧ n < 134217728))) ∧ w = w' := by
  by_cases h0 : 1 ≤ n
  · have f0 : decide (1 ≤ n) = true := decide_eq_true h0
    by_cases h1 : n ≤ 134217727
    · have f1 : decide (n ≤ 134217727) = true := decide_eq_true h1
      rw [decide_eq_true (by omega : 1 ≤ n ∧ n < 134217728)]
      go_enter Tryz.func49, Tryz.ntmps49
      go_wp2
      go_ret
      exact ⟨rfl, rfl⟩
    · have f1 : decide (n ≤ 134217727) = false := decide_eq_false h1
      rw [decide_eq_false (by omega : ¬ (1 ≤ n ∧ n < 134217728))]
      go_enter Tryz.func49, Tryz.ntmps49
      go_wp2
      go_ret
      exact ⟨rfl, rfl⟩
  · have f0 : decide (1 ≤ n) = false := decide_eq_false h0
    rw [decide_eq_false (by omega : ¬ (1 ≤ n ∧ n < 134217728))]
    go_enter Tryz.func49, Tryz.ntmps49
    go_wp2
    go_ret
    exact ⟨rfl, rfl⟩
end Go.Proofs.YtdhidpbenhmfgaaGreat
