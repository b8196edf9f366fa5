/- galleyref03.char, whole; Edge. -/
import Derived.Test.YtdhidpbenhmfgaaGreatFChar
namespace Go.Proofs.YtdhidpbenhmfgaaGreat
open Go.RowKit

theorem char_any (F : Fnt) (a : FAddr) (i : Nat) (w : World) (hF : FontAt w F a w.heap.size) (hi : i < F.chars.length)
    (hch : ∀ w1, Kept w w1 → Calls Tryz.prog 61 #[fontV F a, .int .i64 i] w1 fun e w2 => e = .returned (.bool (chainB F (F.chars.length + 1) i)) ∧ Kept w1 w2) :
    Calls Tryz.prog 42 #[fontV F a, .int .i64 i] w fun e w' => e = .returned (.bool (charB F i)) ∧ Kept w w' := by
  rw [charB_of hi]
  obtain ⟨m, hm⟩ : ∃ m, F.chars[i] = m := ⟨_, rfl⟩
  rw [hm]
  by_cases hn : m.tag = -1
  · rw [metB_neg hn]
    by_cases h0 : m.w = 0
    · by_cases h1 : m.h = 0
      · by_cases h2 : m.d = 0
        · by_cases h3 : m.it = 0
          · by_cases h4 : m.rest = 0
            · rw [decide_eq_true ⟨h0, h1, h2, h3, h4⟩]; exact char_n F a i w hF hi m hm h0 h1 h2 h3 hn h4
            · rw [decide_eq_false (fun h => h4 h.2.2.2.2)]; exact char_nrest F a i w hF hi m hm hn h0 h1 h2 h3 h4
          · rw [decide_eq_false (fun h => h3 h.2.2.2.1)]; exact char_nit F a i w hF hi m hm hn h0 h1 h2 h3
        · rw [decide_eq_false (fun h => h2 h.2.2.1)]; exact char_nd F a i w hF hi m hm hn h0 h1 h2
      · rw [decide_eq_false (fun h => h1 h.2.1)]; exact char_nh F a i w hF hi m hm hn h0 h1
    · rw [decide_eq_false (fun h => h0 h.1)]; exact char_nw F a i w hF hi m hm hn h0
  · cases x0 : fixB m.w
    · rw [show metB F m (chainB F (F.chars.length + 1) i) = false by simp [metB, hn, x0]]; exact char_f0 F a i w hF hi m hm hn x0
    · cases x1 : fixB m.h
      · rw [show metB F m (chainB F (F.chars.length + 1) i) = false by simp [metB, hn, x1]]; exact char_f1 F a i w hF hi m hm hn x0 x1
      · cases x2 : fixB m.d
        · rw [show metB F m (chainB F (F.chars.length + 1) i) = false by simp [metB, hn, x2]]; exact char_f2 F a i w hF hi m hm hn x0 x1 x2
        · cases x3 : fixB m.it
          · rw [show metB F m (chainB F (F.chars.length + 1) i) = false by simp [metB, hn, x3]]; exact char_f3 F a i w hF hi m hm hn x0 x1 x2 x3
          · have em : ∀ c, metB F m c = (if m.tag = 0 then m.rest == 0 else if m.tag = 1 then decide (0 ≤ m.rest ∧ m.rest < F.steps.length ∧ m.rest < 256) else if m.tag = 2 then decide (0 ≤ m.rest ∧ m.rest < 256) && c else if m.tag = 3 then decide (0 ≤ m.rest ∧ m.rest < F.pieces.length) else false) := fun c => by
              unfold metB; rw [if_neg hn, x0, x1, x2, x3]; rfl
            rw [em]
            by_cases t0 : m.tag = 0
            · rw [if_pos t0]; exact char_t0 F a i w hF hi m hm t0 x0 x1 x2 x3
            · rw [if_neg t0]
              by_cases t1 : m.tag = 1
              · rw [if_pos t1]
                by_cases r0 : m.rest < 0
                · rw [decide_eq_false (fun h => by omega)]; exact char_t1a F a i w hF hi m hm t1 x0 x1 x2 x3 r0
                · by_cases r1 : m.rest < F.steps.length
                  · by_cases r2 : m.rest < 256
                    · rw [decide_eq_true ⟨by omega, r1, r2⟩]; exact char_t1d F a i w hF hi m hm t1 x0 x1 x2 x3 (by omega) r1 r2
                    · rw [decide_eq_false (fun h => r2 h.2.2)]; exact char_t1c F a i w hF hi m hm t1 x0 x1 x2 x3 (by omega) r1 (by omega)
                  · rw [decide_eq_false (fun h => r1 h.2.1)]; exact char_t1b F a i w hF hi m hm t1 x0 x1 x2 x3 (by omega) (by omega)
              · rw [if_neg t1]
                by_cases t2 : m.tag = 2
                · rw [if_pos t2]
                  by_cases r0 : m.rest < 0
                  · rw [decide_eq_false (fun h => by omega), Bool.false_and]; exact char_t2a F a i w hF hi m hm t2 x0 x1 x2 x3 r0
                  · by_cases r2 : m.rest < 256
                    · rw [decide_eq_true ⟨by omega, r2⟩, Bool.true_and]; exact char_t2c F a i w hF hi m hm hch t2 x0 x1 x2 x3 (by omega) r2
                    · rw [decide_eq_false (fun h => r2 h.2), Bool.false_and]; exact char_t2b F a i w hF hi m hm t2 x0 x1 x2 x3 (by omega) (by omega)
                · rw [if_neg t2]
                  by_cases t3 : m.tag = 3
                  · rw [if_pos t3]
                    by_cases r0 : m.rest < 0
                    · rw [decide_eq_false (fun h => by omega)]; exact char_t3a F a i w hF hi m hm t3 x0 x1 x2 x3 r0
                    · by_cases r1 : m.rest < F.pieces.length
                      · rw [decide_eq_true ⟨by omega, r1⟩]; exact char_t3c F a i w hF hi m hm t3 x0 x1 x2 x3 (by omega) r1
                      · rw [decide_eq_false (fun h => r1 h.2)]; exact char_t3b F a i w hF hi m hm t3 x0 x1 x2 x3 (by omega) (by omega)
                  · rw [if_neg t3]; exact char_tx F a i w hF hi m hm hn t0 t1 t2 t3 x0 x1 x2 x3

set_option maxHeartbeats 1000000 in
theorem edge_w0 (F : Fnt) (a : FAddr) (w : World) (h : F.steps.length = 0) :
    Calls Tryz.prog 62 #[fontV F a] w fun e w' => e = .returned (.int .i64 (edge F)) ∧ Kept w w' := by
  rw [edge_nil h]
  have hd : decide (0 < F.steps.length) = false := decide_eq_false (by omega)
  clear h
  obtain ⟨A0, n0, A1, n1, A2, n2, A3, n3, A4, n4⟩ := a
  go_enter Tryz.func62, Tryz.ntmps62
  go_wp2
  go_ret
  exact ⟨rfl, walloc _ _⟩


set_option maxHeartbeats 1000000 in
theorem edge_w1 (F : Fnt) (a : FAddr) (w : World) (hF : FontAt w F a w.heap.size) (hw : F.wf) (h : 0 < F.steps.length) (hs : F.steps[0].skip = 255) :
    Calls Tryz.prog 62 #[fontV F a] w fun e w' => e = .returned (.int .i64 (edge F)) ∧ Kept w w' := by
  rw [edge_cons h, if_pos hs]
  obtain ⟨A0, n0, A1, n1, A2, n2, A3, n3, A4, n4⟩ := a
  obtain ⟨b, o, hA, hb, hc⟩ := hF.s h
  obtain ⟨c0, c1, c2, c3⟩ := hc 0 h
  obtain rfl : A1 = some ⟨b, o, none⟩ := hA
  rw [Nat.zero_mul, Nat.add_zero] at c0 c1
  have hbw := hw.steps F.steps[0] (List.getElem_mem h)
  obtain ⟨y0, y1⟩ := hbw.next
  clear hc hF hw hbw
  have hd : decide (0 < F.steps.length) = true := decide_eq_true h
  have hp : 0 < F.steps.length := h
  rw [hs] at c0
  generalize F.steps[0].next = nx at *
  clear hs
  go_enter Tryz.func62, Tryz.ntmps62
  go_wp2
  go_ret
  exact ⟨rfl, walloc _ _⟩


set_option maxHeartbeats 1000000 in
theorem edge_w2 (F : Fnt) (a : FAddr) (w : World) (hF : FontAt w F a w.heap.size) (hw : F.wf) (h : 0 < F.steps.length) (hs : ¬ F.steps[0].skip = 255) :
    Calls Tryz.prog 62 #[fontV F a] w fun e w' => e = .returned (.int .i64 (edge F)) ∧ Kept w w' := by
  rw [edge_cons h, if_neg hs]
  obtain ⟨A0, n0, A1, n1, A2, n2, A3, n3, A4, n4⟩ := a
  obtain ⟨b, o, hA, hb, hc⟩ := hF.s h
  obtain ⟨c0, c1, c2, c3⟩ := hc 0 h
  obtain rfl : A1 = some ⟨b, o, none⟩ := hA
  rw [Nat.zero_mul, Nat.add_zero] at c0 c1
  have hbw := hw.steps F.steps[0] (List.getElem_mem h)
  obtain ⟨y0, y1⟩ := hbw.next
  clear hc hF hw hbw
  have hd : decide (0 < F.steps.length) = true := decide_eq_true h
  have hp : 0 < F.steps.length := h
  have hq : (F.steps[0].skip == 255) = false := by simpa using hs
  generalize F.steps[0].skip = sk at *
  clear hs
  go_enter Tryz.func62, Tryz.ntmps62
  go_wp2
  go_ret
  exact ⟨rfl, walloc _ _⟩


theorem edge_any (F : Fnt) (a : FAddr) (w : World) (hF : FontAt w F a w.heap.size) (hw : F.wf) :
    Calls Tryz.prog 62 #[fontV F a] w fun e w' => e = .returned (.int .i64 (edge F)) ∧ Kept w w' := by
  by_cases h : 0 < F.steps.length
  · by_cases hs : F.steps[0].skip = 255
    · exact edge_w1 F a w hF hw h hs
    · exact edge_w2 F a w hF hw h hs
  · exact edge_w0 F a w (by omega)
end Go.Proofs.YtdhidpbenhmfgaaGreat
