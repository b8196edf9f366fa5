/- font.Check. -/
import Derived.Test.YtdhidpbenhmfgaaGreatCChain
import Derived.Test.YtdhidpbenhmfgaaGreatCPieces
namespace Go.Proofs.YtdhidpbenhmfgaaGreat
open Go.RowKit

def cfontB (F : Fnt) : Bool := boundedB F && (numberedB F && (charsRB F && (chainsB F && (stepsB F && piecesB F))))

theorem fixB_yes {x : Int} (h : fixB x = true) : -16777216 ≤ x ∧ x < 16777216 := of_decide_eq_true h
theorem parsB_eq (F : Fnt) : parsB F = true ↔ cparsB F.params = true := by
  unfold parsB
  rw [List.all_eq_true]
  cases hp : F.params with
  | nil => simp [cparsB]
  | cons p ps =>
    show _ ↔ (decide (-2147483648 ≤ p ∧ p ≤ 2147483647) && ps.all fixB) = true
    rw [Bool.and_eq_true, decide_eq_true_eq, List.all_eq_true]
    constructor
    · intro h
      have h0 := h 0 (by simp)
      simp [parB] at h0
      refine ⟨by omega, fun z hz => ?_⟩
      obtain ⟨j, hj, rfl⟩ := List.mem_iff_getElem.1 hz
      have h1 := h (j + 1) (by simp; omega)
      simp only [List.getElem?_cons_succ, List.getElem?_eq_getElem hj, Option.getD_some, parB] at h1
      simp at h1
      exact h1.1
    · rintro ⟨h0, h1⟩ k hk
      cases k with
      | zero => simp [parB]; omega
      | succ k =>
        have hk' : k < ps.length := by simpa using hk
        have h2 := h1 _ (List.getElem_mem hk')
        simp only [List.getElem?_cons_succ, List.getElem?_eq_getElem hk', Option.getD_some, parB]
        rw [h2]
        have := fixB_yes h2
        simp
        omega

theorem char_same (F : Fnt) (_h1 : F.chars.length ≤ 256) (h3 : F.pieces.length ≤ 256) : charsB F = true ↔ (charsAll F = true ∧ chainsB F = true) := by
  unfold charsB charsAll chainsB
  rw [List.all_eq_true, List.all_eq_true, List.all_eq_true]
  have key : ∀ i, ∀ hi : i < F.chars.length, (charB F i = true ↔ (charRB F F.chars[i] = true ∧ chainB F (F.chars.length + 1) i = true)) := by
    intro i hi
    rw [charB_of hi]
    unfold charRB
    have hst : ¬ F.chars[i].tag = 2 → chainB F (F.chars.length + 1) i = true := fun h => chain_stop hi h
    by_cases ht : F.chars[i].tag = -1
    · rw [metB_neg ht, if_pos ht, chain_stop hi (by omega)]
      generalize F.chars[i] = m at *
      obtain ⟨m0, m1, m2, m3, m4, m5⟩ := m
      simp only [decide_eq_true_eq, Met.mk.injEq, and_true] at *
      constructor
      · rintro ⟨a, b, c, d, e⟩; exact ⟨a, b, c, d, ht, e⟩
      · rintro ⟨a, b, c, d, _, e⟩; exact ⟨a, b, c, d, e⟩
    · rw [if_neg ht]
      unfold metB restB
      rw [if_neg ht]
      by_cases t0 : F.chars[i].tag = 0
      · rw [hst (by rw [t0]; decide)]
        simp only [if_pos t0, List.all_cons, List.all_nil, Bool.and_eq_true, decide_eq_true_eq, beq_iff_eq, and_true]
        constructor
        · rintro ⟨a, b, c, d, e⟩; exact ⟨⟨a, b, c, d⟩, by omega, e⟩
        · rintro ⟨⟨a, b, c, d⟩, _, e⟩; exact ⟨a, b, c, d, e⟩
      · simp only [if_neg t0]
        by_cases t1 : F.chars[i].tag = 1
        · rw [hst (by rw [t1]; decide)]
          simp only [if_pos t1, List.all_cons, List.all_nil, Bool.and_eq_true, decide_eq_true_eq, and_true]
          constructor
          · rintro ⟨a, b, c, d, e⟩; exact ⟨⟨a, b, c, d⟩, by omega, by omega⟩
          · rintro ⟨⟨a, b, c, d⟩, _, e⟩; exact ⟨a, b, c, d, by omega⟩
        · simp only [if_neg t1]
          by_cases t2 : F.chars[i].tag = 2
          · simp only [if_pos t2, List.all_cons, List.all_nil, Bool.and_eq_true, decide_eq_true_eq, and_true]
            constructor
            · rintro ⟨a, b, c, d, e, f⟩
              refine ⟨⟨⟨a, b, c, d⟩, e, ?_⟩, f⟩
              unfold thB
              cases hth : thereAt F F.chars[i].rest with
              | none => rw [chain_none hi t2 hth] at f; cases f
              | some k => rfl
            · rintro ⟨⟨⟨a, b, c, d⟩, e, _⟩, f⟩; exact ⟨a, b, c, d, e, f⟩
          · rw [chain_stop hi t2]
            simp only [if_neg t2]
            by_cases t3 : F.chars[i].tag = 3
            · simp only [if_pos t3, List.all_cons, List.all_nil, Bool.and_eq_true, decide_eq_true_eq, and_true]
              constructor
              · rintro ⟨a, b, c, d, e⟩; exact ⟨⟨a, b, c, d⟩, by omega, by omega⟩
              · rintro ⟨⟨a, b, c, d⟩, _, e⟩; exact ⟨a, b, c, d, by omega⟩
            · simp only [if_neg t3]
              simp
  constructor
  · intro h
    refine ⟨fun m hm => ?_, fun i hi => ?_⟩
    · obtain ⟨i, hi, rfl⟩ := List.mem_iff_getElem.1 hm
      exact ((key i hi).1 (h i (List.mem_range.2 hi))).1
    · have hi' := List.mem_range.1 hi
      exact ((key i hi').1 (h i hi)).2
  · rintro ⟨h, k⟩ i hi
    have hi' := List.mem_range.1 hi
    exact (key i hi').2 ⟨h _ (List.getElem_mem hi'), k i hi⟩

theorem tags_ok {F : Fnt} (h : charsAll F = true) {m : Met} (hm : m ∈ F.chars) : -1 ≤ m.tag := by
  have := List.all_eq_true.1 h m hm
  unfold charRB at this
  split at this
  · omega
  · rw [Bool.and_eq_true] at this
    have h2 := this.2
    unfold restB at h2
    rw [Bool.and_eq_true] at h2
    have h3 := h2.2
    split at h3
    · omega
    · split at h3
      · omega
      · split at h3
        · omega
        · split at h3
          · omega
          · cases h3

theorem charsR_all {F : Fnt} (h : charsRB F = true) : charsAll F = true := by
  by_cases h0 : F.chars.length = 0
  · unfold charsAll; rw [List.length_eq_zero_iff.1 h0]; rfl
  · rw [charsR_cons (by omega), Bool.and_eq_true] at h; exact h.2
theorem fontB_eq (F : Fnt) : fontB F = cfontB F := by
  rw [Bool.eq_iff_iff]
  unfold fontB cfontB shapeB headB boundedB numberedB
  simp only [Bool.and_eq_true, decide_eq_true_eq]
  constructor
  · rintro ⟨⟨⟨⟨a1, a2, a3, a4, a5⟩, a6, a7, a8, a9, a10⟩, b1, b2⟩, c1, c2, c3⟩
    obtain ⟨d1, d2⟩ := (char_same F (by omega) a9).1 c1
    refine ⟨by omega, ⟨⟨a1, a2⟩, b1, (parsB_eq F).1 b2⟩, ?_, d2, c2, c3⟩
    by_cases h : F.chars.length = 0
    · rw [ends_nil h] at a6; rw [charsR_nil h]; exact a6
    · have h : 0 < F.chars.length := by omega
      rw [ends_cons h, decide_eq_true_eq] at a6
      rw [charsR_cons h, d1, decide_eq_true (by omega)]; rfl
  · rintro ⟨⟨a1, a2, a3, a4, a5, a6, a7⟩, ⟨⟨b1, b2⟩, b3, b4⟩, c1, c2, c3, c4⟩
    have hall : charsAll F = true ∧ endsB F = true := by
      by_cases h : F.chars.length = 0
      · rw [charsR_nil h] at c1
        refine ⟨?_, by rw [ends_nil h]; exact c1⟩
        unfold charsAll
        rw [List.length_eq_zero_iff.1 h]; rfl
      · have h : 0 < F.chars.length := by omega
        rw [charsR_cons h, Bool.and_eq_true, decide_eq_true_eq] at c1
        refine ⟨c1.2, ?_⟩
        rw [ends_cons h, decide_eq_true_eq]
        have t0 := tags_ok c1.2 (List.getElem_mem h)
        have t1 := tags_ok c1.2 (List.getElem_mem (show F.chars.length - 1 < F.chars.length by omega))
        omega
    exact ⟨⟨⟨by omega, hall.2, by omega, by omega, by omega, by omega⟩, b3, (parsB_eq F).2 b4⟩, (char_same F (by omega) (by omega)).2 ⟨hall.1, c2⟩, c3, c4⟩

set_option maxRecDepth 100000 in
set_option maxHeartbeats 2000000 in
theorem ccheck_0 (F : Fnt) (a : FAddr) (w : World) (hF : FontAt w F a w.heap.size) (_hw : F.wf) (h0 : boundedB F = false) :
    Calls Tryz.prog 9 #[fontV F a] w fun e w' => e = .returned (.int .i64 40) ∧ Kept w w' := by
  obtain ⟨W, hW⟩ : ∃ W, W = w.alloc (.cells #[.int .u32 F.check, .int .i64 F.design, .int .i64 F.first, .slice a.A0 F.chars.length a.c0, .slice a.A1 F.steps.length a.c1, .slice a.A2 F.kerns.length a.c2, .slice a.A3 F.pieces.length a.c3, .slice a.A4 F.params.length a.c4] 28) := ⟨_, rfl⟩
  have hk0 : Kept w W := by rw [hW]; exact walloc _ _
  have hB : FBox W w.heap.size F a := FBox.of_obj (by rw [hW]; exact mkobj _ _)
  have hF' := fun w' (hk : Kept w w') => (hF.kept hk).more hk.size
  have k0 := fun w' (_ : Kept w w') => Lib.hid (bounded_any F a w')
  rw [h0] at k0
  have HW := Lib.hid hW
  clear hW hF hF' h0
  go_enter Tryz.func9, Tryz.ntmps9
  go_wp2_with (fail)
  rw [← HW.out]
  refine (k0 _ hk0).out.mono ?_
  rintro e w0 ⟨rfl, q0⟩
  have kW0 : Kept W w0 := q0
  have kw0 : Kept w w0 := hk0.trans kW0
  obtain ⟨x00, x01, x02, x03, x04, x05, x06, x07, x0l⟩ := hB.kept kW0
  go_wp2_with (fail)
  go_ret
  exact ⟨rfl, kw0⟩

set_option maxRecDepth 100000 in
set_option maxHeartbeats 2000000 in
theorem ccheck_1 (F : Fnt) (a : FAddr) (w : World) (hF : FontAt w F a w.heap.size) (hw : F.wf) (h0 : boundedB F = true) (h1 : numberedB F = false) :
    Calls Tryz.prog 9 #[fontV F a] w fun e w' => e = .returned (.int .i64 40) ∧ Kept w w' := by
  obtain ⟨W, hW⟩ : ∃ W, W = w.alloc (.cells #[.int .u32 F.check, .int .i64 F.design, .int .i64 F.first, .slice a.A0 F.chars.length a.c0, .slice a.A1 F.steps.length a.c1, .slice a.A2 F.kerns.length a.c2, .slice a.A3 F.pieces.length a.c3, .slice a.A4 F.params.length a.c4] 28) := ⟨_, rfl⟩
  have hk0 : Kept w W := by rw [hW]; exact walloc _ _
  have hB : FBox W w.heap.size F a := FBox.of_obj (by rw [hW]; exact mkobj _ _)
  have hF' := fun w' (hk : Kept w w') => (hF.kept hk).more hk.size
  have hbd := h0
  unfold boundedB at hbd
  rw [decide_eq_true_eq] at hbd
  have k0 := fun w' (_ : Kept w w') => Lib.hid (bounded_any F a w')
  rw [h0] at k0
  have k1 := fun w' (hk : Kept w w') => Lib.hid (numbered_any F a w' (hF' w' hk) hw)
  rw [h1] at k1
  clear hbd
  have HW := Lib.hid hW
  clear hW hF hw hF' h0 h1
  go_enter Tryz.func9, Tryz.ntmps9
  go_wp2_with (fail)
  rw [← HW.out]
  refine (k0 _ hk0).out.mono ?_
  rintro e w0 ⟨rfl, q0⟩
  have kW0 : Kept W w0 := q0
  have kw0 : Kept w w0 := hk0.trans kW0
  obtain ⟨x00, x01, x02, x03, x04, x05, x06, x07, x0l⟩ := hB.kept kW0
  go_wp2_with (fail)
  refine (k1 _ kw0).out.mono ?_
  rintro e w1 ⟨rfl, q1⟩
  have kW1 : Kept W w1 := kW0.trans q1
  have kw1 : Kept w w1 := hk0.trans kW1
  obtain ⟨x10, x11, x12, x13, x14, x15, x16, x17, x1l⟩ := hB.kept kW1
  go_wp2_with (fail)
  go_ret
  exact ⟨rfl, kw1⟩

set_option maxRecDepth 100000 in
set_option maxHeartbeats 2000000 in
theorem ccheck_2 (F : Fnt) (a : FAddr) (w : World) (hF : FontAt w F a w.heap.size) (hw : F.wf) (h0 : boundedB F = true) (h1 : numberedB F = true) (h2 : charsRB F = false) :
    Calls Tryz.prog 9 #[fontV F a] w fun e w' => e = .returned (.int .i64 40) ∧ Kept w w' := by
  obtain ⟨W, hW⟩ : ∃ W, W = w.alloc (.cells #[.int .u32 F.check, .int .i64 F.design, .int .i64 F.first, .slice a.A0 F.chars.length a.c0, .slice a.A1 F.steps.length a.c1, .slice a.A2 F.kerns.length a.c2, .slice a.A3 F.pieces.length a.c3, .slice a.A4 F.params.length a.c4] 28) := ⟨_, rfl⟩
  have hk0 : Kept w W := by rw [hW]; exact walloc _ _
  have hB : FBox W w.heap.size F a := FBox.of_obj (by rw [hW]; exact mkobj _ _)
  have hF' := fun w' (hk : Kept w w') => (hF.kept hk).more hk.size
  have hbd := h0
  unfold boundedB at hbd
  rw [decide_eq_true_eq] at hbd
  have k0 := fun w' (_ : Kept w w') => Lib.hid (bounded_any F a w')
  rw [h0] at k0
  have k1 := fun w' (hk : Kept w w') => Lib.hid (numbered_any F a w' (hF' w' hk) hw)
  rw [h1] at k1
  have k2 := fun w' (hk : Kept w w') => Lib.hid (charsR_any F a w' (hF' w' hk) hw (by omega))
  rw [h2] at k2
  clear hbd
  have HW := Lib.hid hW
  clear hW hF hw hF' h0 h1 h2
  go_enter Tryz.func9, Tryz.ntmps9
  go_wp2_with (fail)
  rw [← HW.out]
  refine (k0 _ hk0).out.mono ?_
  rintro e w0 ⟨rfl, q0⟩
  have kW0 : Kept W w0 := q0
  have kw0 : Kept w w0 := hk0.trans kW0
  obtain ⟨x00, x01, x02, x03, x04, x05, x06, x07, x0l⟩ := hB.kept kW0
  go_wp2_with (fail)
  refine (k1 _ kw0).out.mono ?_
  rintro e w1 ⟨rfl, q1⟩
  have kW1 : Kept W w1 := kW0.trans q1
  have kw1 : Kept w w1 := hk0.trans kW1
  obtain ⟨x10, x11, x12, x13, x14, x15, x16, x17, x1l⟩ := hB.kept kW1
  go_wp2_with (fail)
  refine (k2 _ kw1).out.mono ?_
  rintro e w2 ⟨rfl, q2⟩
  have kW2 : Kept W w2 := kW1.trans q2
  have kw2 : Kept w w2 := hk0.trans kW2
  obtain ⟨x20, x21, x22, x23, x24, x25, x26, x27, x2l⟩ := hB.kept kW2
  go_wp2_with (fail)
  go_ret
  exact ⟨rfl, kw2⟩

set_option maxRecDepth 100000 in
set_option maxHeartbeats 2000000 in
theorem ccheck_3 (F : Fnt) (a : FAddr) (w : World) (hF : FontAt w F a w.heap.size) (hw : F.wf) (h0 : boundedB F = true) (h1 : numberedB F = true) (h2 : charsRB F = true) (h3 : chainsB F = false) :
    Calls Tryz.prog 9 #[fontV F a] w fun e w' => e = .returned (.int .i64 40) ∧ Kept w w' := by
  obtain ⟨W, hW⟩ : ∃ W, W = w.alloc (.cells #[.int .u32 F.check, .int .i64 F.design, .int .i64 F.first, .slice a.A0 F.chars.length a.c0, .slice a.A1 F.steps.length a.c1, .slice a.A2 F.kerns.length a.c2, .slice a.A3 F.pieces.length a.c3, .slice a.A4 F.params.length a.c4] 28) := ⟨_, rfl⟩
  have hk0 : Kept w W := by rw [hW]; exact walloc _ _
  have hB : FBox W w.heap.size F a := FBox.of_obj (by rw [hW]; exact mkobj _ _)
  have hF' := fun w' (hk : Kept w w') => (hF.kept hk).more hk.size
  have hbd := h0
  unfold boundedB at hbd
  rw [decide_eq_true_eq] at hbd
  have V : Told F := told_of (charsR_all h2)
  have k0 := fun w' (_ : Kept w w') => Lib.hid (bounded_any F a w')
  rw [h0] at k0
  have k1 := fun w' (hk : Kept w w') => Lib.hid (numbered_any F a w' (hF' w' hk) hw)
  rw [h1] at k1
  have k2 := fun w' (hk : Kept w w') => Lib.hid (charsR_any F a w' (hF' w' hk) hw (by omega))
  rw [h2] at k2
  have k3 := fun w' (hk : Kept w w') => Lib.hid (chainsE_any F a w' (hF' w' hk) (by omega) (by omega) V)
  rw [h3] at k3
  clear hbd
  clear V
  have HW := Lib.hid hW
  clear hW hF hw hF' h0 h1 h2 h3
  go_enter Tryz.func9, Tryz.ntmps9
  go_wp2_with (fail)
  rw [← HW.out]
  refine (k0 _ hk0).out.mono ?_
  rintro e w0 ⟨rfl, q0⟩
  have kW0 : Kept W w0 := q0
  have kw0 : Kept w w0 := hk0.trans kW0
  obtain ⟨x00, x01, x02, x03, x04, x05, x06, x07, x0l⟩ := hB.kept kW0
  go_wp2_with (fail)
  refine (k1 _ kw0).out.mono ?_
  rintro e w1 ⟨rfl, q1⟩
  have kW1 : Kept W w1 := kW0.trans q1
  have kw1 : Kept w w1 := hk0.trans kW1
  obtain ⟨x10, x11, x12, x13, x14, x15, x16, x17, x1l⟩ := hB.kept kW1
  go_wp2_with (fail)
  refine (k2 _ kw1).out.mono ?_
  rintro e w2 ⟨rfl, q2⟩
  have kW2 : Kept W w2 := kW1.trans q2
  have kw2 : Kept w w2 := hk0.trans kW2
  obtain ⟨x20, x21, x22, x23, x24, x25, x26, x27, x2l⟩ := hB.kept kW2
  go_wp2_with (fail)
  refine (k3 _ kw2).out.mono ?_
  rintro e w3 ⟨rfl, q3⟩
  have kW3 : Kept W w3 := kW2.trans q3
  have kw3 : Kept w w3 := hk0.trans kW3
  obtain ⟨x30, x31, x32, x33, x34, x35, x36, x37, x3l⟩ := hB.kept kW3
  go_wp2_with (fail)
  go_ret
  exact ⟨rfl, kw3⟩

set_option maxRecDepth 100000 in
set_option maxHeartbeats 2000000 in
theorem ccheck_4 (F : Fnt) (a : FAddr) (w : World) (hF : FontAt w F a w.heap.size) (hw : F.wf) (h0 : boundedB F = true) (h1 : numberedB F = true) (h2 : charsRB F = true) (h3 : chainsB F = true) (h4 : stepsB F = false) :
    Calls Tryz.prog 9 #[fontV F a] w fun e w' => e = .returned (.int .i64 40) ∧ Kept w w' := by
  obtain ⟨W, hW⟩ : ∃ W, W = w.alloc (.cells #[.int .u32 F.check, .int .i64 F.design, .int .i64 F.first, .slice a.A0 F.chars.length a.c0, .slice a.A1 F.steps.length a.c1, .slice a.A2 F.kerns.length a.c2, .slice a.A3 F.pieces.length a.c3, .slice a.A4 F.params.length a.c4] 28) := ⟨_, rfl⟩
  have hk0 : Kept w W := by rw [hW]; exact walloc _ _
  have hB : FBox W w.heap.size F a := FBox.of_obj (by rw [hW]; exact mkobj _ _)
  have hF' := fun w' (hk : Kept w w') => (hF.kept hk).more hk.size
  have hbd := h0
  unfold boundedB at hbd
  rw [decide_eq_true_eq] at hbd
  have V : Told F := told_of (charsR_all h2)
  have k0 := fun w' (_ : Kept w w') => Lib.hid (bounded_any F a w')
  rw [h0] at k0
  have k1 := fun w' (hk : Kept w w') => Lib.hid (numbered_any F a w' (hF' w' hk) hw)
  rw [h1] at k1
  have k2 := fun w' (hk : Kept w w') => Lib.hid (charsR_any F a w' (hF' w' hk) hw (by omega))
  rw [h2] at k2
  have k3 := fun w' (hk : Kept w w') => Lib.hid (chainsE_any F a w' (hF' w' hk) (by omega) (by omega) V)
  rw [h3] at k3
  have k4 := fun w' (hk : Kept w w') => Lib.hid (stepsR_any F a w' (hF' w' hk) hw (by omega))
  rw [h4] at k4
  clear hbd
  clear V
  have HW := Lib.hid hW
  clear hW hF hw hF' h0 h1 h2 h3 h4
  go_enter Tryz.func9, Tryz.ntmps9
  go_wp2_with (fail)
  rw [← HW.out]
  refine (k0 _ hk0).out.mono ?_
  rintro e w0 ⟨rfl, q0⟩
  have kW0 : Kept W w0 := q0
  have kw0 : Kept w w0 := hk0.trans kW0
  obtain ⟨x00, x01, x02, x03, x04, x05, x06, x07, x0l⟩ := hB.kept kW0
  go_wp2_with (fail)
  refine (k1 _ kw0).out.mono ?_
  rintro e w1 ⟨rfl, q1⟩
  have kW1 : Kept W w1 := kW0.trans q1
  have kw1 : Kept w w1 := hk0.trans kW1
  obtain ⟨x10, x11, x12, x13, x14, x15, x16, x17, x1l⟩ := hB.kept kW1
  go_wp2_with (fail)
  refine (k2 _ kw1).out.mono ?_
  rintro e w2 ⟨rfl, q2⟩
  have kW2 : Kept W w2 := kW1.trans q2
  have kw2 : Kept w w2 := hk0.trans kW2
  obtain ⟨x20, x21, x22, x23, x24, x25, x26, x27, x2l⟩ := hB.kept kW2
  go_wp2_with (fail)
  refine (k3 _ kw2).out.mono ?_
  rintro e w3 ⟨rfl, q3⟩
  have kW3 : Kept W w3 := kW2.trans q3
  have kw3 : Kept w w3 := hk0.trans kW3
  obtain ⟨x30, x31, x32, x33, x34, x35, x36, x37, x3l⟩ := hB.kept kW3
  go_wp2_with (fail)
  refine (k4 _ kw3).out.mono ?_
  rintro e w4 ⟨rfl, q4⟩
  have kW4 : Kept W w4 := kW3.trans q4
  have kw4 : Kept w w4 := hk0.trans kW4
  obtain ⟨x40, x41, x42, x43, x44, x45, x46, x47, x4l⟩ := hB.kept kW4
  go_wp2_with (fail)
  go_ret
  exact ⟨rfl, kw4⟩

set_option maxRecDepth 100000 in
set_option maxHeartbeats 2000000 in
theorem ccheck_5 (F : Fnt) (a : FAddr) (w : World) (hF : FontAt w F a w.heap.size) (hw : F.wf) (h0 : boundedB F = true) (h1 : numberedB F = true) (h2 : charsRB F = true) (h3 : chainsB F = true) (h4 : stepsB F = true) (h5 : piecesB F = false) :
    Calls Tryz.prog 9 #[fontV F a] w fun e w' => e = .returned (.int .i64 40) ∧ Kept w w' := by
  obtain ⟨W, hW⟩ : ∃ W, W = w.alloc (.cells #[.int .u32 F.check, .int .i64 F.design, .int .i64 F.first, .slice a.A0 F.chars.length a.c0, .slice a.A1 F.steps.length a.c1, .slice a.A2 F.kerns.length a.c2, .slice a.A3 F.pieces.length a.c3, .slice a.A4 F.params.length a.c4] 28) := ⟨_, rfl⟩
  have hk0 : Kept w W := by rw [hW]; exact walloc _ _
  have hB : FBox W w.heap.size F a := FBox.of_obj (by rw [hW]; exact mkobj _ _)
  have hF' := fun w' (hk : Kept w w') => (hF.kept hk).more hk.size
  have hbd := h0
  unfold boundedB at hbd
  rw [decide_eq_true_eq] at hbd
  have V : Told F := told_of (charsR_all h2)
  have k0 := fun w' (_ : Kept w w') => Lib.hid (bounded_any F a w')
  rw [h0] at k0
  have k1 := fun w' (hk : Kept w w') => Lib.hid (numbered_any F a w' (hF' w' hk) hw)
  rw [h1] at k1
  have k2 := fun w' (hk : Kept w w') => Lib.hid (charsR_any F a w' (hF' w' hk) hw (by omega))
  rw [h2] at k2
  have k3 := fun w' (hk : Kept w w') => Lib.hid (chainsE_any F a w' (hF' w' hk) (by omega) (by omega) V)
  rw [h3] at k3
  have k4 := fun w' (hk : Kept w w') => Lib.hid (stepsR_any F a w' (hF' w' hk) hw (by omega))
  rw [h4] at k4
  have k5 := fun w' (hk : Kept w w') => Lib.hid (piecesR_any F a w' (hF' w' hk) hw (by omega))
  rw [h5] at k5
  clear hbd
  clear V
  have HW := Lib.hid hW
  clear hW hF hw hF' h0 h1 h2 h3 h4 h5
  go_enter Tryz.func9, Tryz.ntmps9
  go_wp2_with (fail)
  rw [← HW.out]
  refine (k0 _ hk0).out.mono ?_
  rintro e w0 ⟨rfl, q0⟩
  have kW0 : Kept W w0 := q0
  have kw0 : Kept w w0 := hk0.trans kW0
  obtain ⟨x00, x01, x02, x03, x04, x05, x06, x07, x0l⟩ := hB.kept kW0
  go_wp2_with (fail)
  refine (k1 _ kw0).out.mono ?_
  rintro e w1 ⟨rfl, q1⟩
  have kW1 : Kept W w1 := kW0.trans q1
  have kw1 : Kept w w1 := hk0.trans kW1
  obtain ⟨x10, x11, x12, x13, x14, x15, x16, x17, x1l⟩ := hB.kept kW1
  go_wp2_with (fail)
  refine (k2 _ kw1).out.mono ?_
  rintro e w2 ⟨rfl, q2⟩
  have kW2 : Kept W w2 := kW1.trans q2
  have kw2 : Kept w w2 := hk0.trans kW2
  obtain ⟨x20, x21, x22, x23, x24, x25, x26, x27, x2l⟩ := hB.kept kW2
  go_wp2_with (fail)
  refine (k3 _ kw2).out.mono ?_
  rintro e w3 ⟨rfl, q3⟩
  have kW3 : Kept W w3 := kW2.trans q3
  have kw3 : Kept w w3 := hk0.trans kW3
  obtain ⟨x30, x31, x32, x33, x34, x35, x36, x37, x3l⟩ := hB.kept kW3
  go_wp2_with (fail)
  refine (k4 _ kw3).out.mono ?_
  rintro e w4 ⟨rfl, q4⟩
  have kW4 : Kept W w4 := kW3.trans q4
  have kw4 : Kept w w4 := hk0.trans kW4
  obtain ⟨x40, x41, x42, x43, x44, x45, x46, x47, x4l⟩ := hB.kept kW4
  go_wp2_with (fail)
  refine (k5 _ kw4).out.mono ?_
  rintro e w5 ⟨rfl, q5⟩
  have kW5 : Kept W w5 := kW4.trans q5
  have kw5 : Kept w w5 := hk0.trans kW5
  obtain ⟨x50, x51, x52, x53, x54, x55, x56, x57, x5l⟩ := hB.kept kW5
  go_wp2_with (fail)
  go_ret
  exact ⟨rfl, kw5⟩

set_option maxRecDepth 100000 in
set_option maxHeartbeats 2000000 in
theorem ccheck_6 (F : Fnt) (a : FAddr) (w : World) (hF : FontAt w F a w.heap.size) (hw : F.wf) (h0 : boundedB F = true) (h1 : numberedB F = true) (h2 : charsRB F = true) (h3 : chainsB F = true) (h4 : stepsB F = true) (h5 : piecesB F = true) :
    Calls Tryz.prog 9 #[fontV F a] w fun e w' => e = .returned (.int .i64 0) ∧ Kept w w' := by
  obtain ⟨W, hW⟩ : ∃ W, W = w.alloc (.cells #[.int .u32 F.check, .int .i64 F.design, .int .i64 F.first, .slice a.A0 F.chars.length a.c0, .slice a.A1 F.steps.length a.c1, .slice a.A2 F.kerns.length a.c2, .slice a.A3 F.pieces.length a.c3, .slice a.A4 F.params.length a.c4] 28) := ⟨_, rfl⟩
  have hk0 : Kept w W := by rw [hW]; exact walloc _ _
  have hB : FBox W w.heap.size F a := FBox.of_obj (by rw [hW]; exact mkobj _ _)
  have hF' := fun w' (hk : Kept w w') => (hF.kept hk).more hk.size
  have hbd := h0
  unfold boundedB at hbd
  rw [decide_eq_true_eq] at hbd
  have V : Told F := told_of (charsR_all h2)
  have k0 := fun w' (_ : Kept w w') => Lib.hid (bounded_any F a w')
  rw [h0] at k0
  have k1 := fun w' (hk : Kept w w') => Lib.hid (numbered_any F a w' (hF' w' hk) hw)
  rw [h1] at k1
  have k2 := fun w' (hk : Kept w w') => Lib.hid (charsR_any F a w' (hF' w' hk) hw (by omega))
  rw [h2] at k2
  have k3 := fun w' (hk : Kept w w') => Lib.hid (chainsE_any F a w' (hF' w' hk) (by omega) (by omega) V)
  rw [h3] at k3
  have k4 := fun w' (hk : Kept w w') => Lib.hid (stepsR_any F a w' (hF' w' hk) hw (by omega))
  rw [h4] at k4
  have k5 := fun w' (hk : Kept w w') => Lib.hid (piecesR_any F a w' (hF' w' hk) hw (by omega))
  rw [h5] at k5
  clear hbd
  clear V
  have HW := Lib.hid hW
  clear hW hF hw hF' h0 h1 h2 h3 h4 h5
  go_enter Tryz.func9, Tryz.ntmps9
  go_wp2_with (fail)
  rw [← HW.out]
  refine (k0 _ hk0).out.mono ?_
  rintro e w0 ⟨rfl, q0⟩
  have kW0 : Kept W w0 := q0
  have kw0 : Kept w w0 := hk0.trans kW0
  obtain ⟨x00, x01, x02, x03, x04, x05, x06, x07, x0l⟩ := hB.kept kW0
  go_wp2_with (fail)
  refine (k1 _ kw0).out.mono ?_
  rintro e w1 ⟨rfl, q1⟩
  have kW1 : Kept W w1 := kW0.trans q1
  have kw1 : Kept w w1 := hk0.trans kW1
  obtain ⟨x10, x11, x12, x13, x14, x15, x16, x17, x1l⟩ := hB.kept kW1
  go_wp2_with (fail)
  refine (k2 _ kw1).out.mono ?_
  rintro e w2 ⟨rfl, q2⟩
  have kW2 : Kept W w2 := kW1.trans q2
  have kw2 : Kept w w2 := hk0.trans kW2
  obtain ⟨x20, x21, x22, x23, x24, x25, x26, x27, x2l⟩ := hB.kept kW2
  go_wp2_with (fail)
  refine (k3 _ kw2).out.mono ?_
  rintro e w3 ⟨rfl, q3⟩
  have kW3 : Kept W w3 := kW2.trans q3
  have kw3 : Kept w w3 := hk0.trans kW3
  obtain ⟨x30, x31, x32, x33, x34, x35, x36, x37, x3l⟩ := hB.kept kW3
  go_wp2_with (fail)
  refine (k4 _ kw3).out.mono ?_
  rintro e w4 ⟨rfl, q4⟩
  have kW4 : Kept W w4 := kW3.trans q4
  have kw4 : Kept w w4 := hk0.trans kW4
  obtain ⟨x40, x41, x42, x43, x44, x45, x46, x47, x4l⟩ := hB.kept kW4
  go_wp2_with (fail)
  refine (k5 _ kw4).out.mono ?_
  rintro e w5 ⟨rfl, q5⟩
  have kW5 : Kept W w5 := kW4.trans q5
  have kw5 : Kept w w5 := hk0.trans kW5
  obtain ⟨x50, x51, x52, x53, x54, x55, x56, x57, x5l⟩ := hB.kept kW5
  go_wp2_with (fail)
  go_ret
  exact ⟨rfl, kw5⟩

theorem ccheck_any (F : Fnt) (a : FAddr) (w : World) (hF : FontAt w F a w.heap.size) (hw : F.wf) :
    Calls Tryz.prog 9 #[fontV F a] w fun e w' => e = .returned (.int .i64 (fontE F)) ∧ Kept w w' := by
  unfold fontE
  rw [fontB_eq]
  unfold cfontB
  cases h0 : boundedB F with
  | false => simp only [Bool.false_and]; exact ccheck_0 F a w hF hw h0
  | true =>
  cases h1 : numberedB F with
  | false => simp only [Bool.false_and, Bool.true_and]; exact ccheck_1 F a w hF hw h0 h1
  | true =>
  cases h2 : charsRB F with
  | false => simp only [Bool.false_and, Bool.true_and]; exact ccheck_2 F a w hF hw h0 h1 h2
  | true =>
  cases h3 : chainsB F with
  | false => simp only [Bool.false_and, Bool.true_and]; exact ccheck_3 F a w hF hw h0 h1 h2 h3
  | true =>
  cases h4 : stepsB F with
  | false => simp only [Bool.false_and, Bool.true_and]; exact ccheck_4 F a w hF hw h0 h1 h2 h3 h4
  | true =>
  cases h5 : piecesB F with
  | false => simp only [Bool.true_and]; exact ccheck_5 F a w hF hw h0 h1 h2 h3 h4 h5
  | true =>
  simp only [Bool.true_and]; exact ccheck_6 F a w hF hw h0 h1 h2 h3 h4 h5
end Go.Proofs.YtdhidpbenhmfgaaGreat
