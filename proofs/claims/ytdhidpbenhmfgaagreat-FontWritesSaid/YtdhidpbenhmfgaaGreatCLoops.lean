/- font.charsRight, stepsRight. -/
import Derived.Test.YtdhidpbenhmfgaaGreatCStep
import Derived.Test.YtdhidpbenhmfgaaGreatCChar
namespace Go.Proofs.YtdhidpbenhmfgaaGreat
open Go.RowKit

def CLoop (n : Nat) (f : Nat → Bool) (W : World) (s : Value) (wr : World) : Prop := ∃ k : Nat, k ≤ n ∧ s = .int .i64 k ∧ (∀ j < k, f j = true) ∧ Kept W wr
def charsAll (F : Fnt) : Bool := F.chars.all (charRB F)
def charsRB (F : Fnt) : Bool := match F.chars[0]?, F.chars[F.chars.length - 1]? with
  | some m, some l => decide (¬ m.tag = -1 ∧ ¬ l.tag = -1) && charsAll F
  | _, _ => F.first == 0

set_option maxHeartbeats 2000000 in
theorem stepsR_any (F : Fnt) (a : FAddr) (w : World) (hF : FontAt w F a w.heap.size) (hw : F.wf) (hl : F.steps.length ≤ 32510) :
    Calls Tryz.prog 39 #[fontV F a] w fun e w' => e = .returned (.bool (stepsB F)) ∧ Kept w w' := by
  obtain ⟨W, hW⟩ : ∃ W, W = w.alloc (.cells #[.int .u32 F.check, .int .i64 F.design, .int .i64 F.first, .slice a.A0 F.chars.length a.c0, .slice a.A1 F.steps.length a.c1, .slice a.A2 F.kerns.length a.c2, .slice a.A3 F.pieces.length a.c3, .slice a.A4 F.params.length a.c4] 28) := ⟨_, rfl⟩
  have hk0 : Kept w W := by rw [hW]; exact walloc _ _
  have hB : FBox W w.heap.size F a := FBox.of_obj (by rw [hW]; exact mkobj _ _)
  have HW := Lib.hid hW
  have hs := fun (i : Nat) (hi : i < F.steps.length) w' (hk : Kept W w') => Lib.hid (cstep_any F a i w' ((hF.kept (hk0.trans hk)).more (hk0.trans hk).size) hw hl hi)
  clear hW hF hw
  go_enter Tryz.func39, Tryz.ntmps39
  go_wp2_with (fail)
  rw [← HW.out]
  go_loopw [7] (fun i wr => CLoop F.steps.length (stepB F) W i wr) (fun i _ => F.steps.length - (intOf i).toNat)
  case atStart => exact ⟨0, Nat.zero_le _, rfl, fun j h => absurd h (Nat.not_lt_zero _), Kept.refl _⟩
  case round =>
    obtain ⟨k, hk, rfl, hall, hkept⟩ := hrel
    have Hall := Lib.hid hall
    clear hall
    obtain ⟨b0, b1, b2, b3, b4, b5, b6, b7, bl⟩ := hB.kept hkept
    by_cases hlt : k < F.steps.length
    · have hc := hs k hlt wr hkept
      have d0 : decide ((k : Int) < F.steps.length) = true := decide_eq_true (by omega)
      cases ht : stepB F k with
      | false =>
        rw [ht] at hc
        have Hr : Hid (stepsB F = false) := Lib.hid (range_no hlt ht)
        clear ht Hall
        go_wp2_with (fail)
        refine hc.out.mono ?_
        rintro e w1 ⟨rfl, k1⟩
        go_wp2_with (fail)
        go_ret
        exact ⟨ret_bool Hr.out.symm, hk0.trans (hkept.trans k1)⟩
      | true =>
        rw [ht] at hc
        have Hr : Hid (∀ j < k + 1, stepB F j = true) := Lib.hid (all_next Hall.out ht)
        clear ht Hall
        go_wp2_with (fail)
        refine hc.out.mono ?_
        rintro e w1 ⟨rfl, k1⟩
        go_wp2_with (fail)
        go_roundw
        case rel => exact ⟨k + 1, by omega, by go_num, Hr.out, hkept.trans k1⟩
        case measure => simp [intOf]; omega
    · have d0 : decide ((k : Int) < F.steps.length) = false := decide_eq_false (by omega)
      have Hr : Hid (stepsB F = true) := Lib.hid (range_yes fun j hj => Hall.out j (by omega))
      clear Hall
      go_wp2_with (fail)
      go_ret
      exact ⟨ret_bool Hr.out.symm, hk0.trans hkept⟩

theorem charsR_nil {F : Fnt} (h : F.chars.length = 0) : charsRB F = (F.first == 0) := by
  unfold charsRB; rw [List.getElem?_eq_none (by omega)]
theorem charsR_cons {F : Fnt} (h : 0 < F.chars.length) : charsRB F = (decide (¬ F.chars[0].tag = -1 ∧ ¬ (F.chars[F.chars.length - 1]'(by omega)).tag = -1) && charsAll F) := by
  unfold charsRB; rw [List.getElem?_eq_getElem h, List.getElem?_eq_getElem (show F.chars.length - 1 < F.chars.length by omega)]

set_option maxHeartbeats 2000000 in
theorem charsR_0 (F : Fnt) (a : FAddr) (w : World) (h : F.chars.length = 0) :
    Calls Tryz.prog 37 #[fontV F a] w fun e w' => e = .returned (.bool (F.first == 0)) ∧ Kept w w' := by
  have z : ((F.chars.length : Int) == 0) = true := by simp [h]
  clear h
  obtain ⟨A0, n0, A1, n1, A2, n2, A3, n3, A4, n4⟩ := a
  go_enter Tryz.func37, Tryz.ntmps37
  go_wp2_with (fail)
  go_ret
  exact ⟨rfl, walloc _ _⟩

set_option maxHeartbeats 2000000 in
theorem charsR_1 (F : Fnt) (a : FAddr) (w : World) (hF : FontAt w F a w.heap.size) (h : 0 < F.chars.length) (h0 : F.chars[0].tag = -1) :
    Calls Tryz.prog 37 #[fontV F a] w fun e w' => e = .returned (.bool false) ∧ Kept w w' := by
  have z : ((F.chars.length : Int) == 0) = false := beq_eq_false_iff_ne.2 (by omega)
  obtain ⟨b, o, hA, hbl, hcell⟩ := hF.m h
  obtain ⟨_, _, _, _, q4, _⟩ := hcell 0 h
  obtain ⟨_, _, _, _, r4, _⟩ := hcell (F.chars.length - 1) (by omega)
  simp only [Nat.zero_mul, Nat.add_zero] at q4
  rw [h0] at q4
  clear hcell hF r4 h0
  obtain ⟨A0, n0, A1, n1, A2, n2, A3, n3, A4, n4⟩ := a
  obtain rfl : A0 = some ⟨b, o, none⟩ := hA
  go_enter Tryz.func37, Tryz.ntmps37
  go_wp2_with (fail)
  go_ret
  exact ⟨rfl, walloc _ _⟩

set_option maxHeartbeats 2000000 in
theorem charsR_2 (F : Fnt) (a : FAddr) (w : World) (hF : FontAt w F a w.heap.size) (hm : F.chars.length ≤ 256) (h : 0 < F.chars.length) (h0 : ¬ F.chars[0].tag = -1) (h1 : F.chars[F.chars.length - 1].tag = -1) :
    Calls Tryz.prog 37 #[fontV F a] w fun e w' => e = .returned (.bool false) ∧ Kept w w' := by
  have z : ((F.chars.length : Int) == 0) = false := beq_eq_false_iff_ne.2 (by omega)
  obtain ⟨b, o, hA, hbl, hcell⟩ := hF.m h
  obtain ⟨_, _, _, _, q4, _⟩ := hcell 0 h
  obtain ⟨_, _, _, _, r4, _⟩ := hcell (F.chars.length - 1) (by omega)
  simp only [Nat.zero_mul, Nat.add_zero] at q4
  rw [h1] at r4
  have z0 : (F.chars[0].tag == -1) = false := by simpa using h0
  clear hcell hF h0 h1
  generalize F.chars[0].tag = t0 at *
  obtain ⟨A0, n0, A1, n1, A2, n2, A3, n3, A4, n4⟩ := a
  obtain rfl : A0 = some ⟨b, o, none⟩ := hA
  go_enter Tryz.func37, Tryz.ntmps37
  go_wp2_with (fail)
  go_ret
  exact ⟨rfl, walloc _ _⟩

set_option maxHeartbeats 4000000 in
theorem charsR_3 (F : Fnt) (a : FAddr) (w : World) (hF : FontAt w F a w.heap.size) (hw : F.wf) (hm : F.chars.length ≤ 256) (h : 0 < F.chars.length) (h0 : ¬ F.chars[0].tag = -1) (h1 : ¬ F.chars[F.chars.length - 1].tag = -1) :
    Calls Tryz.prog 37 #[fontV F a] w fun e w' => e = .returned (.bool (charsAll F)) ∧ Kept w w' := by
  have z : ((F.chars.length : Int) == 0) = false := beq_eq_false_iff_ne.2 (by omega)
  obtain ⟨b, o, hA, hbl, hcell⟩ := hF.m h
  obtain ⟨_, _, _, _, q4, _⟩ := hcell 0 h
  obtain ⟨_, _, _, _, r4, _⟩ := hcell (F.chars.length - 1) (by omega)
  simp only [Nat.zero_mul, Nat.add_zero] at q4
  have z0 : (F.chars[0].tag == -1) = false := by simpa using h0
  have z1 : (F.chars[F.chars.length - 1].tag == -1) = false := by simpa using h1
  obtain ⟨W, hW⟩ : ∃ W, W = w.alloc (.cells #[.int .u32 F.check, .int .i64 F.design, .int .i64 F.first, .slice a.A0 F.chars.length a.c0, .slice a.A1 F.steps.length a.c1, .slice a.A2 F.kerns.length a.c2, .slice a.A3 F.pieces.length a.c3, .slice a.A4 F.params.length a.c4] 28) := ⟨_, rfl⟩
  have hk0 : Kept w W := by rw [hW]; exact walloc _ _
  have hB : FBox W w.heap.size F a := FBox.of_obj (by rw [hW]; exact mkobj _ _)
  have HW := Lib.hid hW
  have hs := fun (m : Met) w' (hk : Kept W w') => Lib.hid (charR_any F a m w' ((hF.kept (hk0.trans hk)).more (hk0.trans hk).size) hw)
  have HC := Lib.hid hcell
  clear hW hF hw h0 h1 hcell
  generalize F.chars[0].tag = t0 at *
  generalize F.chars[F.chars.length - 1].tag = t1 at *
  obtain ⟨A0, n0, A1, n1, A2, n2, A3, n3, A4, n4⟩ := a
  obtain rfl : A0 = some ⟨b, o, none⟩ := hA
  go_enter Tryz.func37, Tryz.ntmps37
  go_wp2_with (fail)
  rw [← HW.out]
  clear z z0 z1 q4 r4
  go_loopw [33] (fun i wr => CLoop F.chars.length (fun j => charRB F (F.chars[j]?.getD ⟨0, 0, 0, 0, 0, 0⟩)) W i wr) (fun i _ => F.chars.length - (intOf i).toNat)
  case atStart => exact ⟨0, Nat.zero_le _, rfl, fun j h => absurd h (Nat.not_lt_zero _), Kept.refl _⟩
  case round =>
    obtain ⟨k, hk, rfl, hall, hkept⟩ := hrel
    have Hall := Lib.hid hall
    clear hall
    by_cases hlt : k < F.chars.length
    · have hgd : F.chars[k]?.getD ⟨0, 0, 0, 0, 0, 0⟩ = F.chars[k] := by rw [List.getElem?_eq_getElem hlt]; rfl
      obtain ⟨c0, c1, c2, c3, c4, c5⟩ := HC.out k hlt
      have hq : ∀ j, wr.cell? ⟨b, j, none⟩ = w.cell? ⟨b, j, none⟩ := fun j => (hk0.trans hkept).cell (p := ⟨b, j, none⟩) hbl
      have d0 := (hq _).trans c0
      have d1 := (hq _).trans c1
      have d2 := (hq _).trans c2
      have d3 := (hq _).trans c3
      have d4 := (hq _).trans c4
      have d5 := (hq _).trans c5
      clear hq c0 c1 c2 c3 c4 c5
      have Hno : Hid (charRB F F.chars[k] = false → charsAll F = false) := fun hn => by
        unfold charsAll; rw [List.all_eq_false]; exact ⟨_, List.getElem_mem hlt, by simp [hn]⟩
      have Hyes : Hid (charRB F F.chars[k] = true → ∀ j < k + 1, charRB F (F.chars[j]?.getD ⟨0, 0, 0, 0, 0, 0⟩) = true) := fun hy => all_next Hall.out (by rw [hgd]; exact hy)
      clear hgd Hall
      generalize F.chars[k] = m at *
      obtain ⟨W2, hW2⟩ : ∃ W2, W2 = wr.alloc (.cells #[.int .i64 m.w, .int .i64 m.h, .int .i64 m.d, .int .i64 m.it, .int .i64 m.tag, .int .i64 m.rest] 43) := ⟨_, rfl⟩
      have kW2 : Kept W W2 := by rw [hW2]; exact kalloc hkept _
      have hM := fun w' (hk : Kept W2 w') => Lib.hid (mbox ((hk.block wr.heap.size (by rw [hW2]; simp)).trans (by rw [hW2]; exact mkobj _ _)))
      obtain ⟨b0, b1, b2, b3, b4, b5, b6, b7, bl⟩ := hB.kept kW2
      obtain ⟨b0', b1', b2', b3', b4', b5', b6', b7', bl'⟩ := hB.kept hkept
      obtain ⟨t0, t1, t2, t3, t4, t5, tf, tl⟩ := (hM W2 (Kept.refl _)).out
      have HW2 := Lib.hid hW2
      have hc := hs m W2 kW2
      obtain ⟨mw, mh, md, mi, mt, mr⟩ := m
      dsimp only at *
      clear hM
      have dk : decide ((k : Int) < F.chars.length) = true := decide_eq_true (by omega)
      cases ht : charRB F ⟨mw, mh, md, mi, mt, mr⟩ with
      | false =>
        rw [ht] at hc
        have Hr := Lib.hid (Hno.out ht)
        clear ht Hno Hyes hW2
        go_wp2_with (fail)
        refine Calls.mono (by first | exact hc.out | (rw [← HW2.out]; exact hc.out)) ?_
        rintro e w1 ⟨rfl, k1⟩
        go_wp2_with (fail)
        go_ret
        exact ⟨ret_bool Hr.out.symm, hk0.trans (kW2.trans k1)⟩
      | true =>
        rw [ht] at hc
        have Hr := Lib.hid (Hyes.out ht)
        clear ht Hno Hyes hW2
        go_wp2_with (fail)
        refine Calls.mono (by first | exact hc.out | (rw [← HW2.out]; exact hc.out)) ?_
        rintro e w1 ⟨rfl, k1⟩
        go_wp2_with (fail)
        go_roundw
        case rel => exact ⟨k + 1, by omega, by go_num, Hr.out, kW2.trans k1⟩
        case measure => simp [intOf]; omega
    · have d0 : decide ((k : Int) < F.chars.length) = false := decide_eq_false (by omega)
      have Hr : Hid (charsAll F = true) := by
        unfold Hid charsAll
        rw [List.all_eq_true]
        intro m hm
        obtain ⟨j, hj, rfl⟩ := List.mem_iff_getElem.1 hm
        have := Hall.out j (by omega)
        simpa only [List.getElem?_eq_getElem hj, Option.getD_some] using this
      clear Hall
      go_wp2_with (fail)
      go_ret
      exact ⟨ret_bool Hr.out.symm, hk0.trans hkept⟩

theorem charsR_any (F : Fnt) (a : FAddr) (w : World) (hF : FontAt w F a w.heap.size) (hw : F.wf) (hm : F.chars.length ≤ 256) :
    Calls Tryz.prog 37 #[fontV F a] w fun e w' => e = .returned (.bool (charsRB F)) ∧ Kept w w' := by
  by_cases h : F.chars.length = 0
  · rw [charsR_nil h]; exact charsR_0 F a w h
  · have h : 0 < F.chars.length := by omega
    rw [charsR_cons h]
    by_cases h0 : F.chars[0].tag = -1
    · rw [decide_eq_false (by omega), Bool.false_and]; exact charsR_1 F a w hF h h0
    · by_cases h1 : F.chars[F.chars.length - 1].tag = -1
      · rw [decide_eq_false (by omega), Bool.false_and]; exact charsR_2 F a w hF hm h h0 h1
      · rw [decide_eq_true (by omega), Bool.true_and]; exact charsR_3 F a w hF hw hm h h0 h1
end Go.Proofs.YtdhidpbenhmfgaaGreat
