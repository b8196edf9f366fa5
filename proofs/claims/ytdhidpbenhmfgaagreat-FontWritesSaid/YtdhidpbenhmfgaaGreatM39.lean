/- FThere FChain. -/
import Derived.Test.YtdhidpbenhmfgaaGreatFDefs
import Derived.Deep.RegionHeld3
import Derived.Outline
namespace Go.Proofs.YtdhidpbenhmfgaaGreat
open Go.RowKit

set_option maxHeartbeats 1000000 in
theorem th_neg (F : Fnt) (a : FAddr) (c i : Int) (w : World) (hi : wrap64 (c - F.first) = i) (h0 : i < 0) :
    Calls Tryz.prog 48 #[fontV F a, .int .i64 c] w fun e w' => e = .returned (.tuple #[.int .i64 0, .bool false]) ∧ Kept w w' := by
  obtain ⟨A0, n0, A1, n1, A2, n2, A3, n3, A4, n4⟩ := a
  have hlt : decide (i < 0) = true := decide_eq_true h0
  go_enter Tryz.func48, Tryz.ntmps48
  go_wp2
  go_ret2
  exact ⟨rfl, walloc _ _⟩

set_option maxHeartbeats 1000000 in
theorem th_far (F : Fnt) (a : FAddr) (c i : Int) (w : World) (hi : wrap64 (c - F.first) = i) (h0 : 0 ≤ i) (h1 : (F.chars.length : Int) ≤ i) :
    Calls Tryz.prog 48 #[fontV F a, .int .i64 c] w fun e w' => e = .returned (.tuple #[.int .i64 0, .bool false]) ∧ Kept w w' := by
  obtain ⟨A0, n0, A1, n1, A2, n2, A3, n3, A4, n4⟩ := a
  have hlt : decide (i < 0) = false := decide_eq_false (by omega)
  have hge : decide ((F.chars.length : Int) ≤ i) = true := decide_eq_true h1
  go_enter Tryz.func48, Tryz.ntmps48
  go_wp2
  go_ret2
  exact ⟨rfl, walloc _ _⟩


set_option maxHeartbeats 1000000 in
theorem th_t1 (F : Fnt) (a : FAddr) (c : Int) (k : Nat) (w : World) (hF : FontAt w F a w.heap.size) (hi : wrap64 (c - F.first) = k) (hk : k < F.chars.length) (ht : F.chars[k].tag < 0) :
    Calls Tryz.prog 48 #[fontV F a, .int .i64 c] w fun e w' => e = .returned (.tuple #[.int .i64 0, .bool false]) ∧ Kept w w' := by
  obtain ⟨A0, n0, A1, n1, A2, n2, A3, n3, A4, n4⟩ := a
  obtain ⟨b, o, hA, hb, hc⟩ := hF.m (by omega)
  obtain ⟨c0, c1, c2, c3, c4, c5⟩ := hc k hk
  obtain rfl : A0 = some ⟨b, o, none⟩ := hA
  clear hc
  have hlt : decide ((k : Int) < 0) = false := decide_eq_false (by omega)
  have hge : decide (F.chars.length ≤ k) = false := decide_eq_false (by omega)
  generalize F.chars[k].tag = tg at *
  have hm : decide (tg < 0) = true := decide_eq_true ht
  clear hF
  go_enter Tryz.func48, Tryz.ntmps48
  go_wp2
  go_ret2
  exact ⟨rfl, walloc _ _⟩


set_option maxHeartbeats 1000000 in
theorem th_t2 (F : Fnt) (a : FAddr) (c : Int) (k : Nat) (w : World) (hF : FontAt w F a w.heap.size) (hi : wrap64 (c - F.first) = k) (hk : k < F.chars.length) (_h0 : 0 ≤ F.chars[k].tag) (ht : 3 < F.chars[k].tag) :
    Calls Tryz.prog 48 #[fontV F a, .int .i64 c] w fun e w' => e = .returned (.tuple #[.int .i64 0, .bool false]) ∧ Kept w w' := by
  obtain ⟨A0, n0, A1, n1, A2, n2, A3, n3, A4, n4⟩ := a
  obtain ⟨b, o, hA, hb, hc⟩ := hF.m (by omega)
  obtain ⟨c0, c1, c2, c3, c4, c5⟩ := hc k hk
  obtain rfl : A0 = some ⟨b, o, none⟩ := hA
  clear hc
  have hlt : decide ((k : Int) < 0) = false := decide_eq_false (by omega)
  have hge : decide (F.chars.length ≤ k) = false := decide_eq_false (by omega)
  generalize F.chars[k].tag = tg at *
  have hm : decide (tg < 0) = false := decide_eq_false (by omega)
  have hn : decide (3 < tg) = true := decide_eq_true ht
  clear hF
  go_enter Tryz.func48, Tryz.ntmps48
  go_wp2
  go_ret2
  exact ⟨rfl, walloc _ _⟩


set_option maxHeartbeats 1000000 in
theorem th_ok (F : Fnt) (a : FAddr) (c : Int) (k : Nat) (w : World) (hF : FontAt w F a w.heap.size) (hi : wrap64 (c - F.first) = k) (hk : k < F.chars.length) (h0 : 0 ≤ F.chars[k].tag) (ht : F.chars[k].tag ≤ 3) :
    Calls Tryz.prog 48 #[fontV F a, .int .i64 c] w fun e w' => e = .returned (.tuple #[.int .i64 k, .bool true]) ∧ Kept w w' := by
  obtain ⟨A0, n0, A1, n1, A2, n2, A3, n3, A4, n4⟩ := a
  obtain ⟨b, o, hA, hb, hc⟩ := hF.m (by omega)
  obtain ⟨c0, c1, c2, c3, c4, c5⟩ := hc k hk
  obtain rfl : A0 = some ⟨b, o, none⟩ := hA
  clear hc
  have hlt : decide ((k : Int) < 0) = false := decide_eq_false (by omega)
  have hge : decide (F.chars.length ≤ k) = false := decide_eq_false (by omega)
  generalize F.chars[k].tag = tg at *
  have hm : decide (tg < 0) = false := decide_eq_false (by omega)
  have hn : decide (3 < tg) = false := decide_eq_false (by omega)
  clear hF
  go_enter Tryz.func48, Tryz.ntmps48
  go_wp2
  go_ret2
  exact ⟨congrArg (fun z => Ending.returned (.tuple #[.int .i64 z, .bool true])) hi, walloc _ _⟩


theorem there_any (F : Fnt) (a : FAddr) (c : Int) (w : World) (hF : FontAt w F a w.heap.size) (hok : ThOk F c) :
    Calls Tryz.prog 48 #[fontV F a, .int .i64 c] w fun e w' => e = .returned (.tuple #[.int .i64 (thV F c), .bool (thB F c)]) ∧ Kept w w' := by
  obtain ⟨⟨c0, c1⟩, ⟨f0, f1⟩, hl, hw⟩ := hok
  by_cases h0 : wrap64 (c - F.first) < 0
  · have hn : thereAt F c = none := by
      unfold thereAt
      rw [if_neg]
      unfold wrap64 at h0
      omega
    obtain ⟨e1, e2⟩ := there_no hn
    rw [e1, e2]
    exact th_neg F a c _ w rfl h0
  · by_cases h1 : (F.chars.length : Int) ≤ wrap64 (c - F.first)
    · have hn : thereAt F c = none := by
        unfold thereAt
        rw [if_neg]
        unfold wrap64 at h0 h1
        omega
      obtain ⟨e1, e2⟩ := there_no hn
      rw [e1, e2]
      exact th_far F a c _ w rfl (by omega) h1
    · have hin : wrap64 (c - F.first) = c - F.first ∧ F.first ≤ c ∧ c - F.first < F.chars.length := by
        unfold wrap64 at h0 h1 ⊢
        omega
      obtain ⟨e0, h2, h3⟩ := hin
      obtain ⟨k, hk⟩ : ∃ k : Nat, c - F.first = k := ⟨(c - F.first).toNat, by omega⟩
      have hkl : k < F.chars.length := by omega
      have hta : thereAt F c = if 0 ≤ F.chars[k].tag ∧ F.chars[k].tag ≤ 3 then some k else none := by
        unfold thereAt
        rw [if_pos ⟨h2, h3⟩, hk, show ((k : Int)).toNat = k from rfl, List.getElem?_eq_getElem hkl]
      rw [e0] at h0 h1
      by_cases t0 : F.chars[k].tag < 0
      · obtain ⟨e1, e2⟩ := there_no (by rw [hta, if_neg (by omega)] : thereAt F c = none)
        rw [e1, e2]
        exact th_t1 F a c k w hF (by rw [e0, hk]) hkl t0
      · by_cases t1 : 3 < F.chars[k].tag
        · obtain ⟨e1, e2⟩ := there_no (by rw [hta, if_neg (by omega)] : thereAt F c = none)
          rw [e1, e2]
          exact th_t2 F a c k w hF (by rw [e0, hk]) hkl (by omega) t1
        · obtain ⟨e1, e2⟩ := there_yes (by rw [hta, if_pos (by omega)] : thereAt F c = some k)
          rw [e1, e2]
          exact th_ok F a c k w hF (by rw [e0, hk]) hkl (by omega) (by omega)
end Go.Proofs.YtdhidpbenhmfgaaGreat
namespace Go.Proofs.YtdhidpbenhmfgaaGreat
open Go.RowKit

def ChAtK (F : Fnt) (i0 : Nat) (W : World) (s1 s5 : Value) (wr : World) : Prop :=
  ∃ i k : Nat, i < F.chars.length ∧ k ≤ F.chars.length + 1 ∧ s1 = .int .i64 i ∧ s5 = .int .i64 k ∧ chainB F (F.chars.length + 1) i0 = chainB F (F.chars.length + 1 - k) i ∧ Kept W wr

set_option maxRecDepth 100000 in
set_option maxHeartbeats 4000000 in
theorem chained_any (F : Fnt) (a : FAddr) (i0 : Nat) (w : World) (hF : FontAt w F a w.heap.size) (hw : F.wf) (h0 : 0 ≤ F.first ∧ F.first ≤ 255) (hl : F.chars.length ≤ 256) (hi : i0 < F.chars.length) :
    Calls Tryz.prog 61 #[fontV F a, .int .i64 i0] w fun e w' => e = .returned (.bool (chainB F (F.chars.length + 1) i0)) ∧ Kept w w' := by
  obtain ⟨W, hW⟩ : ∃ W, W = w.alloc (.cells #[.int .u32 F.check, .int .i64 F.design, .int .i64 F.first, .slice a.A0 F.chars.length a.c0, .slice a.A1 F.steps.length a.c1, .slice a.A2 F.kerns.length a.c2, .slice a.A3 F.pieces.length a.c3, .slice a.A4 F.params.length a.c4] 28) := ⟨_, rfl⟩
  have hk0 : Kept w W := by rw [hW]; exact walloc _ _
  have hB : FBox W w.heap.size F a := FBox.of_obj (by rw [hW]; exact mkobj _ _)
  obtain ⟨b, o, hA, hb, hc⟩ := hF.m (by omega)
  have hth := fun (m : Met) (hm : m ∈ F.chars) w' (hk : Kept W w') => Lib.hid (there_any F a m.rest w' ((hF.kept (hk0.trans hk)).more (hk0.trans hk).size) ⟨(hw.chars m hm).rest, hw.first, by omega, .inr ⟨h0.1, h0.2, hl⟩⟩)
  have HW := Lib.hid hW
  have Hc := Lib.hid hc
  obtain ⟨n, hn⟩ : ∃ n, F.chars.length = n := ⟨_, rfl⟩
  obtain ⟨A0, c0, A1, c1, A2, c2, A3, c3, A4, c4⟩ := a
  obtain rfl : A0 = some ⟨b, o, none⟩ := hA
  clear hW hc hw
  have hn' := Lib.hid hn
  clear hn h0
  go_enter Tryz.func61, Tryz.ntmps61
  go_wp2_with (fail)
  rw [← HW.out]
  go_loopw [1, 5] (fun s1 s5 wr => ChAtK F i0 W s1 s5 wr) (fun _ s5 _ => F.chars.length + 1 - (intOf s5).toNat)
  case atStart => exact ⟨i0, 0, hi, by omega, rfl, rfl, rfl, Kept.refl _⟩
  case round =>
    obtain ⟨i, k, hi, hk, rfl, rfl, he, hkept⟩ := hrel
    have He := Lib.hid he
    clear he
    obtain ⟨b0, b1, b2, b3, b4, b5, b6, b7, bl⟩ := hB.kept hkept
    have hq : ∀ w', Kept W w' → ∀ k, w'.cell? ⟨b, k, none⟩ = w.cell? ⟨b, k, none⟩ := fun w' hk k => (hk0.trans hk).cell (p := ⟨b, k, none⟩) hb
    obtain ⟨_, _, _, _, q4, q5⟩ := Hc.out i hi
    have p4 := (hq _ hkept (o + i * 6 + 4)).trans q4
    have hrest := fun w' hk => (hq w' hk (o + i * 6 + 5)).trans q5
    have hcall := hth F.chars[i] (List.getElem_mem hi)
    clear hq q4 q5
    by_cases hkl : k ≤ F.chars.length
    · have d0 : decide (k ≤ F.chars.length) = true := decide_eq_true hkl
      obtain ⟨m, hm⟩ : ∃ m, F.chars.length + 1 - k = m + 1 := ⟨F.chars.length - k, by omega⟩
      have hm' : F.chars.length + 1 - (k + 1) = m := by omega
      by_cases htag : F.chars[i].tag = 2
      · rw [htag] at p4
        have htag := Lib.hid htag
        have hz : ∃ rs, F.chars[i].rest = rs := ⟨_, rfl⟩
        obtain ⟨rs, hrs⟩ := hz
        rw [hrs] at hrest hcall
        have hS : ∀ w', Kept W w' → Hid (w'.cell? ⟨w.heap.size, 0, none⟩ = some (.int .u32 F.check) ∧ w'.cell? ⟨w.heap.size, 1, none⟩ = some (.int .i64 F.design) ∧ w'.cell? ⟨w.heap.size, 2, none⟩ = some (.int .i64 F.first) ∧ w'.cell? ⟨w.heap.size, 3, none⟩ = some (.slice (some ⟨b, o, none⟩) F.chars.length c0) ∧ w'.cell? ⟨w.heap.size, 4, none⟩ = some (.slice A1 F.steps.length c1) ∧ w'.cell? ⟨w.heap.size, 5, none⟩ = some (.slice A2 F.kerns.length c2) ∧ w'.cell? ⟨w.heap.size, 6, none⟩ = some (.slice A3 F.pieces.length c3) ∧ w'.cell? ⟨w.heap.size, 7, none⟩ = some (.slice A4 F.params.length c4) ∧ w'.cell? ⟨b, o + i * 6 + 5, none⟩ = some (.int .i64 rs) ∧ Kept W w') := fun w' hk => by
          obtain ⟨y0, y1, y2, y3, y4, y5, y6, y7, _⟩ := hB.kept hk
          exact Lib.hid ⟨y0, y1, y2, y3, y4, y5, y6, y7, hrest w' hk, hk⟩
        clear hrest
        cases ht : thereAt F rs with
        | none =>
          obtain ⟨e1, e2⟩ := there_no ht
          rw [e1, e2] at hcall
          have HE : Hid (chainB F (F.chars.length + 1) i0 = false) := Lib.hid (by rw [He.out, hm]; exact chain_none hi htag.out (by rw [hrs]; exact ht))
          clear e1 e2 ht hrs hm hm'
          go_wp2_with (fail)
          go_region_held3 (fun w' => w'.cell? ⟨w.heap.size, 0, none⟩ = some (.int .u32 F.check) ∧ w'.cell? ⟨w.heap.size, 1, none⟩ = some (.int .i64 F.design) ∧ w'.cell? ⟨w.heap.size, 2, none⟩ = some (.int .i64 F.first) ∧ w'.cell? ⟨w.heap.size, 3, none⟩ = some (.slice (some ⟨b, o, none⟩) F.chars.length c0) ∧ w'.cell? ⟨w.heap.size, 4, none⟩ = some (.slice A1 F.steps.length c1) ∧ w'.cell? ⟨w.heap.size, 5, none⟩ = some (.slice A2 F.kerns.length c2) ∧ w'.cell? ⟨w.heap.size, 6, none⟩ = some (.slice A3 F.pieces.length c3) ∧ w'.cell? ⟨w.heap.size, 7, none⟩ = some (.slice A4 F.params.length c4) ∧ w'.cell? ⟨b, o + i * 6 + 5, none⟩ = some (.int .i64 rs) ∧ Kept W w') (first | exact (hS _ (by first | assumption | exact Below.drew (by assumption))).out) (first | (go_at_call 48; refine (hcall _ (Below.drew hkept)).out.mono ?_; rintro e w4 ⟨rfl, k4⟩; have kb : Kept W w4 := Kept.trans (Below.drew hkept) k4))
          all_goals go_wp2_with (fail)
          all_goals go_ret
          all_goals exact ⟨ret_bool HE.out.symm, hk0.trans kb⟩
        | some j =>
          obtain ⟨e1, e2⟩ := there_yes ht
          rw [e1, e2] at hcall
          have hj := there_lt ht
          have HE : Hid (chainB F (F.chars.length + 1) i0 = chainB F (F.chars.length + 1 - (k + 1)) j) := Lib.hid (by rw [He.out, hm, hm']; exact chain_some hi htag.out (by rw [hrs]; exact ht))
          clear e1 e2 ht hrs hm hm'
          go_wp2_with (fail)
          go_region_held3 (fun w' => w'.cell? ⟨w.heap.size, 0, none⟩ = some (.int .u32 F.check) ∧ w'.cell? ⟨w.heap.size, 1, none⟩ = some (.int .i64 F.design) ∧ w'.cell? ⟨w.heap.size, 2, none⟩ = some (.int .i64 F.first) ∧ w'.cell? ⟨w.heap.size, 3, none⟩ = some (.slice (some ⟨b, o, none⟩) F.chars.length c0) ∧ w'.cell? ⟨w.heap.size, 4, none⟩ = some (.slice A1 F.steps.length c1) ∧ w'.cell? ⟨w.heap.size, 5, none⟩ = some (.slice A2 F.kerns.length c2) ∧ w'.cell? ⟨w.heap.size, 6, none⟩ = some (.slice A3 F.pieces.length c3) ∧ w'.cell? ⟨w.heap.size, 7, none⟩ = some (.slice A4 F.params.length c4) ∧ w'.cell? ⟨b, o + i * 6 + 5, none⟩ = some (.int .i64 rs) ∧ Kept W w') (first | exact (hS _ (by first | assumption | exact Below.drew (by assumption))).out) (first | (go_at_call 48; refine (hcall _ (Below.drew hkept)).out.mono ?_; rintro e w4 ⟨rfl, k4⟩; have kb : Kept W w4 := Kept.trans (Below.drew hkept) k4))
          all_goals go_wp2_with (fail)
          all_goals go_roundw
          case rel => exact ⟨j, k + 1, hj, by omega, rfl, by go_num, HE.out, kb⟩
          case measure => simp [intOf]; omega
      · have z : (F.chars[i].tag != 2) = true := by simpa using htag
        have HE : Hid (chainB F (F.chars.length + 1) i0 = true) := Lib.hid (by rw [He.out, hm]; exact chain_stop hi htag)
        clear hm hm' htag hcall
        go_wp2_with (fail)
        go_ret
        exact ⟨ret_bool HE.out.symm, hk0.trans hkept⟩
    · have d0 : decide (k ≤ F.chars.length) = false := decide_eq_false hkl
      have HE : Hid (chainB F (F.chars.length + 1) i0 = false) := Lib.hid (by rw [He.out, show F.chars.length + 1 - k = 0 by omega]; rfl)
      clear hcall
      go_wp2_with (fail)
      go_ret
      exact ⟨ret_bool HE.out.symm, hk0.trans hkept⟩
end Go.Proofs.YtdhidpbenhmfgaaGreat
