/- font.bounded, numbered. -/
import Derived.Test.YtdhidpbenhmfgaaGreatM4
namespace Go.Proofs.YtdhidpbenhmfgaaGreat
open Go.RowKit

def boundedB (F : Fnt) : Bool := decide (0 ≤ F.first ∧ F.first < 256 ∧ (F.chars.length : Int) ≤ 256 - F.first ∧ F.steps.length ≤ 32510 ∧ F.kerns.length ≤ 32768 ∧ F.pieces.length ≤ 256 ∧ F.params.length ≤ 255)
def cparsB : List Int → Bool
  | [] => true
  | p :: ps => decide (-2147483648 ≤ p ∧ p ≤ 2147483647) && ps.all fixB
def numberedB (F : Fnt) : Bool := decide (1048576 ≤ F.design ∧ F.design ≤ 2147483647) && (F.kerns.all fixB && cparsB F.params)

set_option maxHeartbeats 1000000 in
theorem bounded_0 (F : Fnt) (a : FAddr) (w : World)  (h0 : ¬ 0 ≤ F.first) :
    Calls Tryz.prog 35 #[fontV F a] w fun e w' => e = .returned (.bool false) ∧ Kept w w' := by
  obtain ⟨A0, n0, A1, n1, A2, n2, A3, n3, A4, n4⟩ := a
  have f0 : decide (0 ≤ F.first) = false := decide_eq_false h0
  go_enter Tryz.func35, Tryz.ntmps35
  go_wp2
  go_ret
  exact ⟨ret_bool (by first | rfl | (simp; omega)), (by repeat (first | exact Kept.refl _ | assumption | refine kalloc ?_ _ | refine Below.setCell ?_ (by simp; try omega) _ | refine below_drewN ?_ _ | refine Below.drew ?_))⟩

set_option maxHeartbeats 1000000 in
theorem bounded_1 (F : Fnt) (a : FAddr) (w : World)  (h0 : 0 ≤ F.first) (h1 : ¬ F.first < 256) :
    Calls Tryz.prog 35 #[fontV F a] w fun e w' => e = .returned (.bool false) ∧ Kept w w' := by
  obtain ⟨A0, n0, A1, n1, A2, n2, A3, n3, A4, n4⟩ := a
  have f0 : decide (0 ≤ F.first) = true := decide_eq_true h0
  have f1 : decide (F.first < 256) = false := decide_eq_false h1
  go_enter Tryz.func35, Tryz.ntmps35
  go_wp2
  go_ret
  exact ⟨ret_bool (by first | rfl | (simp; omega)), (by repeat (first | exact Kept.refl _ | assumption | refine kalloc ?_ _ | refine Below.setCell ?_ (by simp; try omega) _ | refine below_drewN ?_ _ | refine Below.drew ?_))⟩

set_option maxHeartbeats 1000000 in
theorem bounded_2 (F : Fnt) (a : FAddr) (w : World)  (h0 : 0 ≤ F.first) (h1 : F.first < 256) (h2 : ¬ (F.chars.length : Int) ≤ 256 - F.first) :
    Calls Tryz.prog 35 #[fontV F a] w fun e w' => e = .returned (.bool false) ∧ Kept w w' := by
  obtain ⟨A0, n0, A1, n1, A2, n2, A3, n3, A4, n4⟩ := a
  have f0 : decide (0 ≤ F.first) = true := decide_eq_true h0
  have f1 : decide (F.first < 256) = true := decide_eq_true h1
  have f2 : decide ((F.chars.length : Int) ≤ 256 - F.first) = false := decide_eq_false h2
  go_enter Tryz.func35, Tryz.ntmps35
  go_wp2
  go_ret
  exact ⟨ret_bool (by first | rfl | (simp; omega)), (by repeat (first | exact Kept.refl _ | assumption | refine kalloc ?_ _ | refine Below.setCell ?_ (by simp; try omega) _ | refine below_drewN ?_ _ | refine Below.drew ?_))⟩

set_option maxHeartbeats 1000000 in
theorem bounded_3 (F : Fnt) (a : FAddr) (w : World)  (h0 : 0 ≤ F.first) (h1 : F.first < 256) (h2 : (F.chars.length : Int) ≤ 256 - F.first) (h3 : ¬ F.steps.length ≤ 32510) :
    Calls Tryz.prog 35 #[fontV F a] w fun e w' => e = .returned (.bool false) ∧ Kept w w' := by
  obtain ⟨A0, n0, A1, n1, A2, n2, A3, n3, A4, n4⟩ := a
  have f0 : decide (0 ≤ F.first) = true := decide_eq_true h0
  have f1 : decide (F.first < 256) = true := decide_eq_true h1
  have f2 : decide ((F.chars.length : Int) ≤ 256 - F.first) = true := decide_eq_true h2
  have f3 : decide (F.steps.length ≤ 32510) = false := decide_eq_false h3
  go_enter Tryz.func35, Tryz.ntmps35
  go_wp2
  go_ret
  exact ⟨ret_bool (by first | rfl | (simp; omega)), (by repeat (first | exact Kept.refl _ | assumption | refine kalloc ?_ _ | refine Below.setCell ?_ (by simp; try omega) _ | refine below_drewN ?_ _ | refine Below.drew ?_))⟩

set_option maxHeartbeats 1000000 in
theorem bounded_4 (F : Fnt) (a : FAddr) (w : World)  (h0 : 0 ≤ F.first) (h1 : F.first < 256) (h2 : (F.chars.length : Int) ≤ 256 - F.first) (h3 : F.steps.length ≤ 32510) (h4 : ¬ F.kerns.length ≤ 32768) :
    Calls Tryz.prog 35 #[fontV F a] w fun e w' => e = .returned (.bool false) ∧ Kept w w' := by
  obtain ⟨A0, n0, A1, n1, A2, n2, A3, n3, A4, n4⟩ := a
  have f0 : decide (0 ≤ F.first) = true := decide_eq_true h0
  have f1 : decide (F.first < 256) = true := decide_eq_true h1
  have f2 : decide ((F.chars.length : Int) ≤ 256 - F.first) = true := decide_eq_true h2
  have f3 : decide (F.steps.length ≤ 32510) = true := decide_eq_true h3
  have f4 : decide (F.kerns.length ≤ 32768) = false := decide_eq_false h4
  go_enter Tryz.func35, Tryz.ntmps35
  go_wp2
  go_ret
  exact ⟨ret_bool (by first | rfl | (simp; omega)), (by repeat (first | exact Kept.refl _ | assumption | refine kalloc ?_ _ | refine Below.setCell ?_ (by simp; try omega) _ | refine below_drewN ?_ _ | refine Below.drew ?_))⟩

set_option maxHeartbeats 1000000 in
theorem bounded_5 (F : Fnt) (a : FAddr) (w : World)  (h0 : 0 ≤ F.first) (h1 : F.first < 256) (h2 : (F.chars.length : Int) ≤ 256 - F.first) (h3 : F.steps.length ≤ 32510) (h4 : F.kerns.length ≤ 32768) (h5 : ¬ F.pieces.length ≤ 256) :
    Calls Tryz.prog 35 #[fontV F a] w fun e w' => e = .returned (.bool false) ∧ Kept w w' := by
  obtain ⟨A0, n0, A1, n1, A2, n2, A3, n3, A4, n4⟩ := a
  have f0 : decide (0 ≤ F.first) = true := decide_eq_true h0
  have f1 : decide (F.first < 256) = true := decide_eq_true h1
  have f2 : decide ((F.chars.length : Int) ≤ 256 - F.first) = true := decide_eq_true h2
  have f3 : decide (F.steps.length ≤ 32510) = true := decide_eq_true h3
  have f4 : decide (F.kerns.length ≤ 32768) = true := decide_eq_true h4
  have f5 : decide (F.pieces.length ≤ 256) = false := decide_eq_false h5
  go_enter Tryz.func35, Tryz.ntmps35
  go_wp2
  go_ret
  exact ⟨ret_bool (by first | rfl | (simp; omega)), (by repeat (first | exact Kept.refl _ | assumption | refine kalloc ?_ _ | refine Below.setCell ?_ (by simp; try omega) _ | refine below_drewN ?_ _ | refine Below.drew ?_))⟩

set_option maxHeartbeats 1000000 in
theorem bounded_6 (F : Fnt) (a : FAddr) (w : World)  (h0 : 0 ≤ F.first) (h1 : F.first < 256) (h2 : (F.chars.length : Int) ≤ 256 - F.first) (h3 : F.steps.length ≤ 32510) (h4 : F.kerns.length ≤ 32768) (h5 : F.pieces.length ≤ 256) (h6 : ¬ F.params.length ≤ 255) :
    Calls Tryz.prog 35 #[fontV F a] w fun e w' => e = .returned (.bool false) ∧ Kept w w' := by
  obtain ⟨A0, n0, A1, n1, A2, n2, A3, n3, A4, n4⟩ := a
  have f0 : decide (0 ≤ F.first) = true := decide_eq_true h0
  have f1 : decide (F.first < 256) = true := decide_eq_true h1
  have f2 : decide ((F.chars.length : Int) ≤ 256 - F.first) = true := decide_eq_true h2
  have f3 : decide (F.steps.length ≤ 32510) = true := decide_eq_true h3
  have f4 : decide (F.kerns.length ≤ 32768) = true := decide_eq_true h4
  have f5 : decide (F.pieces.length ≤ 256) = true := decide_eq_true h5
  have f6 : decide (F.params.length ≤ 255) = false := decide_eq_false h6
  go_enter Tryz.func35, Tryz.ntmps35
  go_wp2
  go_ret
  exact ⟨ret_bool (by first | rfl | (simp; omega)), (by repeat (first | exact Kept.refl _ | assumption | refine kalloc ?_ _ | refine Below.setCell ?_ (by simp; try omega) _ | refine below_drewN ?_ _ | refine Below.drew ?_))⟩

set_option maxHeartbeats 1000000 in
theorem bounded_7 (F : Fnt) (a : FAddr) (w : World)  (h0 : 0 ≤ F.first) (h1 : F.first < 256) (h2 : (F.chars.length : Int) ≤ 256 - F.first) (h3 : F.steps.length ≤ 32510) (h4 : F.kerns.length ≤ 32768) (h5 : F.pieces.length ≤ 256) (h6 : F.params.length ≤ 255) :
    Calls Tryz.prog 35 #[fontV F a] w fun e w' => e = .returned (.bool true) ∧ Kept w w' := by
  obtain ⟨A0, n0, A1, n1, A2, n2, A3, n3, A4, n4⟩ := a
  have f0 : decide (0 ≤ F.first) = true := decide_eq_true h0
  have f1 : decide (F.first < 256) = true := decide_eq_true h1
  have f2 : decide ((F.chars.length : Int) ≤ 256 - F.first) = true := decide_eq_true h2
  have f3 : decide (F.steps.length ≤ 32510) = true := decide_eq_true h3
  have f4 : decide (F.kerns.length ≤ 32768) = true := decide_eq_true h4
  have f5 : decide (F.pieces.length ≤ 256) = true := decide_eq_true h5
  have f6 : decide (F.params.length ≤ 255) = true := decide_eq_true h6
  go_enter Tryz.func35, Tryz.ntmps35
  go_wp2
  go_ret
  exact ⟨ret_bool (by first | rfl | (simp; omega)), (by repeat (first | exact Kept.refl _ | assumption | refine kalloc ?_ _ | refine Below.setCell ?_ (by simp; try omega) _ | refine below_drewN ?_ _ | refine Below.drew ?_))⟩

theorem bounded_any (F : Fnt) (a : FAddr) (w : World) :
    Calls Tryz.prog 35 #[fontV F a] w fun e w' => e = .returned (.bool (boundedB F)) ∧ Kept w w' := by
  by_cases h0 : 0 ≤ F.first
  case neg => rw [show boundedB F = false from by unfold boundedB; exact decide_eq_false (by omega)]; exact bounded_0 F a w h0
  by_cases h1 : F.first < 256
  case neg => rw [show boundedB F = false from by unfold boundedB; exact decide_eq_false (by omega)]; exact bounded_1 F a w h0 h1
  by_cases h2 : (F.chars.length : Int) ≤ 256 - F.first
  case neg => rw [show boundedB F = false from by unfold boundedB; exact decide_eq_false (by omega)]; exact bounded_2 F a w h0 h1 h2
  by_cases h3 : F.steps.length ≤ 32510
  case neg => rw [show boundedB F = false from by unfold boundedB; exact decide_eq_false (by omega)]; exact bounded_3 F a w h0 h1 h2 h3
  by_cases h4 : F.kerns.length ≤ 32768
  case neg => rw [show boundedB F = false from by unfold boundedB; exact decide_eq_false (by omega)]; exact bounded_4 F a w h0 h1 h2 h3 h4
  by_cases h5 : F.pieces.length ≤ 256
  case neg => rw [show boundedB F = false from by unfold boundedB; exact decide_eq_false (by omega)]; exact bounded_5 F a w h0 h1 h2 h3 h4 h5
  by_cases h6 : F.params.length ≤ 255
  case neg => rw [show boundedB F = false from by unfold boundedB; exact decide_eq_false (by omega)]; exact bounded_6 F a w h0 h1 h2 h3 h4 h5 h6
  rw [show boundedB F = true from by unfold boundedB; exact decide_eq_true (by omega)]
  exact bounded_7 F a w h0 h1 h2 h3 h4 h5 h6

set_option maxHeartbeats 1000000 in
theorem numbered_d0 (F : Fnt) (a : FAddr) (w : World) (_hF : FontAt w F a w.heap.size) (_hw : F.wf) (h0 : F.design < 1048576) :
    Calls Tryz.prog 36 #[fontV F a] w fun e w' => e = .returned (.bool false) ∧ Kept w w' := by
  clear _hF _hw
  obtain ⟨A0, n0, A1, n1, A2, n2, A3, n3, A4, n4⟩ := a
  have f0 : decide (F.design < 1048576) = true := decide_eq_true h0
  go_enter Tryz.func36, Tryz.ntmps36
  go_wp2
  go_ret
  exact ⟨rfl, (by repeat (first | exact Kept.refl _ | assumption | refine kalloc ?_ _ | refine Below.setCell ?_ (by simp; try omega) _ | refine below_drewN ?_ _ | refine Below.drew ?_))⟩

set_option maxHeartbeats 1000000 in
theorem numbered_d1 (F : Fnt) (a : FAddr) (w : World) (_hF : FontAt w F a w.heap.size) (_hw : F.wf) (h0 : ¬ F.design < 1048576) (h1 : 2147483647 < F.design) :
    Calls Tryz.prog 36 #[fontV F a] w fun e w' => e = .returned (.bool false) ∧ Kept w w' := by
  clear _hF _hw
  obtain ⟨A0, n0, A1, n1, A2, n2, A3, n3, A4, n4⟩ := a
  have f0 : decide (F.design < 1048576) = false := decide_eq_false h0
  have f1 : decide (2147483647 < F.design) = true := decide_eq_true h1
  go_enter Tryz.func36, Tryz.ntmps36
  go_wp2
  go_ret
  exact ⟨rfl, (by repeat (first | exact Kept.refl _ | assumption | refine kalloc ?_ _ | refine Below.setCell ?_ (by simp; try omega) _ | refine below_drewN ?_ _ | refine Below.drew ?_))⟩

set_option maxHeartbeats 1000000 in
theorem numbered_k (F : Fnt) (a : FAddr) (w : World) (hF : FontAt w F a w.heap.size) (hw : F.wf) (h0 : ¬ F.design < 1048576) (h1 : ¬ 2147483647 < F.design) (h2 : F.kerns.all fixB = false) :
    Calls Tryz.prog 36 #[fontV F a] w fun e w' => e = .returned (.bool false) ∧ Kept w w' := by
  obtain ⟨W, hW⟩ : ∃ W, W = w.alloc (.cells #[.int .u32 F.check, .int .i64 F.design, .int .i64 F.first, .slice a.A0 F.chars.length a.c0, .slice a.A1 F.steps.length a.c1, .slice a.A2 F.kerns.length a.c2, .slice a.A3 F.pieces.length a.c3, .slice a.A4 F.params.length a.c4] 28) := ⟨_, rfl⟩
  have hk0 : Kept w W := by rw [hW]; exact walloc _ _
  have hB : FBox W w.heap.size F a := FBox.of_obj (by rw [hW]; exact mkobj _ _)
  have hx := fun w' (hk : Kept w w') => Lib.hid (cfix_any a.A2 F.kerns a.c2 w' hw.l2 ((hF.k.kept hk).more hk.size))
  have HW := Lib.hid hW
  clear hW
  rw [h2] at hx
  have f0 : decide (F.design < 1048576) = false := decide_eq_false h0
  have f1 : decide (2147483647 < F.design) = false := decide_eq_false h1
  clear hF hw h2
  go_enter Tryz.func36, Tryz.ntmps36
  go_wp2_with (fail)
  rw [← HW.out]
  refine (hx _ hk0).out.mono ?_
  rintro e w1 ⟨rfl, k1⟩
  have kw : Kept w w1 := hk0.trans k1
  obtain ⟨b0, b1, b2, b3, b4, b5, b6, b7, bl⟩ := hB.kept k1
  go_wp2_with (fail)
  go_ret
  exact ⟨rfl, (by repeat (first | exact Kept.refl _ | assumption | refine kalloc ?_ _ | refine Below.setCell ?_ (by simp; try omega) _ | refine below_drewN ?_ _ | refine Below.drew ?_))⟩

set_option maxHeartbeats 1000000 in
theorem numbered_p0 (F : Fnt) (a : FAddr) (w : World) (hF : FontAt w F a w.heap.size) (hw : F.wf) (h0 : ¬ F.design < 1048576) (h1 : ¬ 2147483647 < F.design) (h2 : F.kerns.all fixB = true) (h3 : F.params.length = 0) :
    Calls Tryz.prog 36 #[fontV F a] w fun e w' => e = .returned (.bool true) ∧ Kept w w' := by
  obtain ⟨W, hW⟩ : ∃ W, W = w.alloc (.cells #[.int .u32 F.check, .int .i64 F.design, .int .i64 F.first, .slice a.A0 F.chars.length a.c0, .slice a.A1 F.steps.length a.c1, .slice a.A2 F.kerns.length a.c2, .slice a.A3 F.pieces.length a.c3, .slice a.A4 F.params.length a.c4] 28) := ⟨_, rfl⟩
  have hk0 : Kept w W := by rw [hW]; exact walloc _ _
  have hB : FBox W w.heap.size F a := FBox.of_obj (by rw [hW]; exact mkobj _ _)
  have hx := fun w' (hk : Kept w w') => Lib.hid (cfix_any a.A2 F.kerns a.c2 w' hw.l2 ((hF.k.kept hk).more hk.size))
  have HW := Lib.hid hW
  clear hW
  rw [h2] at hx
  have f0 : decide (F.design < 1048576) = false := decide_eq_false h0
  have f1 : decide (2147483647 < F.design) = false := decide_eq_false h1
  have f3 : ((F.params.length : Int) == 0) = true := by simp [h3]
  clear hF hw h2 h3
  go_enter Tryz.func36, Tryz.ntmps36
  go_wp2_with (fail)
  rw [← HW.out]
  refine (hx _ hk0).out.mono ?_
  rintro e w1 ⟨rfl, k1⟩
  have kw : Kept w w1 := hk0.trans k1
  obtain ⟨b0, b1, b2, b3, b4, b5, b6, b7, bl⟩ := hB.kept k1
  go_wp2_with (fail)
  go_ret
  exact ⟨rfl, (by repeat (first | exact Kept.refl _ | assumption | refine kalloc ?_ _ | refine Below.setCell ?_ (by simp; try omega) _ | refine below_drewN ?_ _ | refine Below.drew ?_))⟩

set_option maxHeartbeats 1000000 in
theorem numbered_s0 (F : Fnt) (a : FAddr) (w : World) (hF : FontAt w F a w.heap.size) (hw : F.wf) (h0 : ¬ F.design < 1048576) (h1 : ¬ 2147483647 < F.design) (h2 : F.kerns.all fixB = true) (p : Int) (ps : List Int) (hp : F.params = p :: ps) (h4 : p < -2147483648) :
    Calls Tryz.prog 36 #[fontV F a] w fun e w' => e = .returned (.bool false) ∧ Kept w w' := by
  obtain ⟨W, hW⟩ : ∃ W, W = w.alloc (.cells #[.int .u32 F.check, .int .i64 F.design, .int .i64 F.first, .slice a.A0 F.chars.length a.c0, .slice a.A1 F.steps.length a.c1, .slice a.A2 F.kerns.length a.c2, .slice a.A3 F.pieces.length a.c3, .slice a.A4 F.params.length a.c4] 28) := ⟨_, rfl⟩
  have hk0 : Kept w W := by rw [hW]; exact walloc _ _
  have hB : FBox W w.heap.size F a := FBox.of_obj (by rw [hW]; exact mkobj _ _)
  have hx := fun w' (hk : Kept w w') => Lib.hid (cfix_any a.A2 F.kerns a.c2 w' hw.l2 ((hF.k.kept hk).more hk.size))
  have HW := Lib.hid hW
  clear hW
  rw [h2] at hx
  obtain ⟨b, o, hA, hbl, hcell⟩ := hF.q (by rw [hp]; simp)
  have hq : ∀ w', Kept w w' → w'.cell? ⟨b, o, none⟩ = some (.int .i64 p) := fun w' hk => (hk.cell (p := ⟨b, o, none⟩) hbl).trans (by have := hcell 0 (by rw [hp]; simp); simpa [hp] using this)
  have hps : NumsAt w (some ⟨b, o + 1, none⟩) ps w.heap.size := fun hn => ⟨b, o + 1, rfl, hbl, fun k hk => by have := hcell (k + 1) (by rw [hp]; simp; omega); simp only [hp, List.getElem_cons_succ] at this; rw [← this]; congr 2; omega⟩
  have hlp : ps.length + 1 ≤ 9223372036854775807 := by have := hw.l4; unfold maxLen at this; rw [hp] at this; simp at this; omega
  have hy := fun (A' : Option Addr) (c' : Nat) w' (hk : Kept w w') (h : ps.length = 0 ∨ A' = some ⟨b, o + 1, none⟩) => Lib.hid (cfix_any A' ps c' w' (by omega) (by
    rcases h with h | rfl
    · intro hn; omega
    · exact (hps.kept hk).more hk.size))
  have hpl : Hid (F.params.length = ps.length + 1) := Lib.hid (by rw [hp]; simp)
  have f3 : (((ps.length + 1 : Nat) : Int) == 0) = false := by simp; omega
  have hcap : F.params.length ≤ a.c4 := hF.cap.2.2.2.2
  have f0 : decide (F.design < 1048576) = false := decide_eq_false h0
  have f1 : decide (2147483647 < F.design) = false := decide_eq_false h1
  have f4 : decide (-2147483648 ≤ p) = false := decide_eq_false (by omega)
  have hb7 := fun w' hk => (hB.kept (w' := w') hk)
  clear hF hw h2 hcell hps hp
  obtain ⟨A0, n0, A1, n1, A2, n2, A3, n3, A4, n4⟩ := a
  obtain rfl : A4 = some ⟨b, o, none⟩ := hA
  dsimp only at hcap
  go_enter Tryz.func36, Tryz.ntmps36
  go_wp2_with (fail)
  rw [← HW.out]
  refine (hx _ hk0).out.mono ?_
  rintro e w1 ⟨rfl, k1⟩
  have kw : Kept w w1 := hk0.trans k1
  obtain ⟨b0, b1, b2, b3, b4, b5, b6, b7, bl⟩ := hB.kept k1
  rw [hpl.out] at b7 hcap
  have q0 := hq w1 kw
  go_wp2_with (fail)
  go_ret
  exact ⟨rfl, (by repeat (first | exact Kept.refl _ | assumption | refine kalloc ?_ _ | refine Below.setCell ?_ (by simp; try omega) _ | refine below_drewN ?_ _ | refine Below.drew ?_))⟩

set_option maxHeartbeats 1000000 in
theorem numbered_s1 (F : Fnt) (a : FAddr) (w : World) (hF : FontAt w F a w.heap.size) (hw : F.wf) (h0 : ¬ F.design < 1048576) (h1 : ¬ 2147483647 < F.design) (h2 : F.kerns.all fixB = true) (p : Int) (ps : List Int) (hp : F.params = p :: ps) (h4 : ¬ p < -2147483648) (h5 : 2147483647 < p) :
    Calls Tryz.prog 36 #[fontV F a] w fun e w' => e = .returned (.bool false) ∧ Kept w w' := by
  obtain ⟨W, hW⟩ : ∃ W, W = w.alloc (.cells #[.int .u32 F.check, .int .i64 F.design, .int .i64 F.first, .slice a.A0 F.chars.length a.c0, .slice a.A1 F.steps.length a.c1, .slice a.A2 F.kerns.length a.c2, .slice a.A3 F.pieces.length a.c3, .slice a.A4 F.params.length a.c4] 28) := ⟨_, rfl⟩
  have hk0 : Kept w W := by rw [hW]; exact walloc _ _
  have hB : FBox W w.heap.size F a := FBox.of_obj (by rw [hW]; exact mkobj _ _)
  have hx := fun w' (hk : Kept w w') => Lib.hid (cfix_any a.A2 F.kerns a.c2 w' hw.l2 ((hF.k.kept hk).more hk.size))
  have HW := Lib.hid hW
  clear hW
  rw [h2] at hx
  obtain ⟨b, o, hA, hbl, hcell⟩ := hF.q (by rw [hp]; simp)
  have hq : ∀ w', Kept w w' → w'.cell? ⟨b, o, none⟩ = some (.int .i64 p) := fun w' hk => (hk.cell (p := ⟨b, o, none⟩) hbl).trans (by have := hcell 0 (by rw [hp]; simp); simpa [hp] using this)
  have hps : NumsAt w (some ⟨b, o + 1, none⟩) ps w.heap.size := fun hn => ⟨b, o + 1, rfl, hbl, fun k hk => by have := hcell (k + 1) (by rw [hp]; simp; omega); simp only [hp, List.getElem_cons_succ] at this; rw [← this]; congr 2; omega⟩
  have hlp : ps.length + 1 ≤ 9223372036854775807 := by have := hw.l4; unfold maxLen at this; rw [hp] at this; simp at this; omega
  have hy := fun (A' : Option Addr) (c' : Nat) w' (hk : Kept w w') (h : ps.length = 0 ∨ A' = some ⟨b, o + 1, none⟩) => Lib.hid (cfix_any A' ps c' w' (by omega) (by
    rcases h with h | rfl
    · intro hn; omega
    · exact (hps.kept hk).more hk.size))
  have hpl : Hid (F.params.length = ps.length + 1) := Lib.hid (by rw [hp]; simp)
  have f3 : (((ps.length + 1 : Nat) : Int) == 0) = false := by simp; omega
  have hcap : F.params.length ≤ a.c4 := hF.cap.2.2.2.2
  have f0 : decide (F.design < 1048576) = false := decide_eq_false h0
  have f1 : decide (2147483647 < F.design) = false := decide_eq_false h1
  have f4 : decide (-2147483648 ≤ p) = true := decide_eq_true (by omega)
  have f5 : decide (p ≤ 2147483647) = false := decide_eq_false (by omega)
  have hb7 := fun w' hk => (hB.kept (w' := w') hk)
  clear hF hw h2 hcell hps hp
  obtain ⟨A0, n0, A1, n1, A2, n2, A3, n3, A4, n4⟩ := a
  obtain rfl : A4 = some ⟨b, o, none⟩ := hA
  dsimp only at hcap
  go_enter Tryz.func36, Tryz.ntmps36
  go_wp2_with (fail)
  rw [← HW.out]
  refine (hx _ hk0).out.mono ?_
  rintro e w1 ⟨rfl, k1⟩
  have kw : Kept w w1 := hk0.trans k1
  obtain ⟨b0, b1, b2, b3, b4, b5, b6, b7, bl⟩ := hB.kept k1
  rw [hpl.out] at b7 hcap
  have q0 := hq w1 kw
  go_wp2_with (fail)
  go_ret
  exact ⟨rfl, (by repeat (first | exact Kept.refl _ | assumption | refine kalloc ?_ _ | refine Below.setCell ?_ (by simp; try omega) _ | refine below_drewN ?_ _ | refine Below.drew ?_))⟩

set_option maxHeartbeats 1000000 in
theorem numbered_s2 (F : Fnt) (a : FAddr) (w : World) (hF : FontAt w F a w.heap.size) (hw : F.wf) (h0 : ¬ F.design < 1048576) (h1 : ¬ 2147483647 < F.design) (h2 : F.kerns.all fixB = true) (p : Int) (ps : List Int) (hp : F.params = p :: ps) (h4 : ¬ p < -2147483648) (h5 : ¬ 2147483647 < p) :
    Calls Tryz.prog 36 #[fontV F a] w fun e w' => e = .returned (.bool (ps.all fixB)) ∧ Kept w w' := by
  obtain ⟨W, hW⟩ : ∃ W, W = w.alloc (.cells #[.int .u32 F.check, .int .i64 F.design, .int .i64 F.first, .slice a.A0 F.chars.length a.c0, .slice a.A1 F.steps.length a.c1, .slice a.A2 F.kerns.length a.c2, .slice a.A3 F.pieces.length a.c3, .slice a.A4 F.params.length a.c4] 28) := ⟨_, rfl⟩
  have hk0 : Kept w W := by rw [hW]; exact walloc _ _
  have hB : FBox W w.heap.size F a := FBox.of_obj (by rw [hW]; exact mkobj _ _)
  have hx := fun w' (hk : Kept w w') => Lib.hid (cfix_any a.A2 F.kerns a.c2 w' hw.l2 ((hF.k.kept hk).more hk.size))
  have HW := Lib.hid hW
  clear hW
  rw [h2] at hx
  obtain ⟨b, o, hA, hbl, hcell⟩ := hF.q (by rw [hp]; simp)
  have hq : ∀ w', Kept w w' → w'.cell? ⟨b, o, none⟩ = some (.int .i64 p) := fun w' hk => (hk.cell (p := ⟨b, o, none⟩) hbl).trans (by have := hcell 0 (by rw [hp]; simp); simpa [hp] using this)
  have hps : NumsAt w (some ⟨b, o + 1, none⟩) ps w.heap.size := fun hn => ⟨b, o + 1, rfl, hbl, fun k hk => by have := hcell (k + 1) (by rw [hp]; simp; omega); simp only [hp, List.getElem_cons_succ] at this; rw [← this]; congr 2; omega⟩
  have hlp : ps.length + 1 ≤ 9223372036854775807 := by have := hw.l4; unfold maxLen at this; rw [hp] at this; simp at this; omega
  have hy := fun (A' : Option Addr) (c' : Nat) w' (hk : Kept w w') (h : ps.length = 0 ∨ A' = some ⟨b, o + 1, none⟩) => Lib.hid (cfix_any A' ps c' w' (by omega) (by
    rcases h with h | rfl
    · intro hn; omega
    · exact (hps.kept hk).more hk.size))
  have hpl : Hid (F.params.length = ps.length + 1) := Lib.hid (by rw [hp]; simp)
  have f3 : (((ps.length + 1 : Nat) : Int) == 0) = false := by simp; omega
  have hcap : F.params.length ≤ a.c4 := hF.cap.2.2.2.2
  have f0 : decide (F.design < 1048576) = false := decide_eq_false h0
  have f1 : decide (2147483647 < F.design) = false := decide_eq_false h1
  have f4 : decide (-2147483648 ≤ p) = true := decide_eq_true (by omega)
  have f5 : decide (p ≤ 2147483647) = true := decide_eq_true (by omega)
  generalize ps.all fixB = t at *
  have hb7 := fun w' hk => (hB.kept (w' := w') hk)
  clear hF hw h2 hcell hps hp
  obtain ⟨A0, n0, A1, n1, A2, n2, A3, n3, A4, n4⟩ := a
  obtain rfl : A4 = some ⟨b, o, none⟩ := hA
  dsimp only at hcap
  go_enter Tryz.func36, Tryz.ntmps36
  go_wp2_with (fail)
  rw [← HW.out]
  refine (hx _ hk0).out.mono ?_
  rintro e w1 ⟨rfl, k1⟩
  have kw : Kept w w1 := hk0.trans k1
  obtain ⟨b0, b1, b2, b3, b4, b5, b6, b7, bl⟩ := hB.kept k1
  rw [hpl.out] at b7 hcap
  have q0 := hq w1 kw
  go_wp2_with (fail)
  all_goals refine (hy _ _ _ kw (by first | exact .inr rfl | (left; omega))).out.mono ?_
  all_goals rintro e w2 ⟨rfl, k2⟩
  all_goals go_wp2_with (fail)
  all_goals go_ret
  all_goals exact ⟨rfl, kw.trans k2⟩

theorem numbered_any (F : Fnt) (a : FAddr) (w : World) (hF : FontAt w F a w.heap.size) (hw : F.wf) :
    Calls Tryz.prog 36 #[fontV F a] w fun e w' => e = .returned (.bool (numberedB F)) ∧ Kept w w' := by
  by_cases h0 : F.design < 1048576
  · rw [show numberedB F = false from by unfold numberedB; rw [decide_eq_false (by omega)]; rfl]; exact numbered_d0 F a w hF hw h0
  · by_cases h1 : 2147483647 < F.design
    · rw [show numberedB F = false from by unfold numberedB; rw [decide_eq_false (by omega)]; rfl]; exact numbered_d1 F a w hF hw h0 h1
    · have e0 : numberedB F = (F.kerns.all fixB && cparsB F.params) := by unfold numberedB; rw [decide_eq_true (by omega)]; rfl
      rw [e0]
      cases h2 : F.kerns.all fixB with
      | false => exact numbered_k F a w hF hw h0 h1 h2
      | true =>
        rw [Bool.true_and]
        cases hp : F.params with
        | nil => exact numbered_p0 F a w hF hw h0 h1 h2 (by rw [hp]; rfl)
        | cons p ps =>
          by_cases h4 : p < -2147483648
          · rw [show cparsB (p :: ps) = false from by show (decide (-2147483648 ≤ p ∧ p ≤ 2147483647) && ps.all fixB) = false; rw [decide_eq_false (by omega)]; rfl]; exact numbered_s0 F a w hF hw h0 h1 h2 p ps hp h4
          · by_cases h5 : 2147483647 < p
            · rw [show cparsB (p :: ps) = false from by show (decide (-2147483648 ≤ p ∧ p ≤ 2147483647) && ps.all fixB) = false; rw [decide_eq_false (by omega)]; rfl]; exact numbered_s1 F a w hF hw h0 h1 h2 p ps hp h4 h5
            · rw [show cparsB (p :: ps) = ps.all fixB from by show (decide (-2147483648 ≤ p ∧ p ≤ 2147483647) && ps.all fixB) = _; rw [decide_eq_true (by omega)]; rfl]; exact numbered_s2 F a w hF hw h0 h1 h2 p ps hp h4 h5
end Go.Proofs.YtdhidpbenhmfgaaGreat
