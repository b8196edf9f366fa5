/- galleylaw03.Same: two fonts. -/
import Derived.Test.YtdhidpbenhmfgaaGreatM51
import Derived.Test.YtdhidpbenhmfgaaGreatFDefs
import Derived.Deep.QuietTactic
import Derived.BigQuiet
namespace Go.Proofs.YtdhidpbenhmfgaaGreat
open Go.RowKit

def headsE (F G : Fnt) : Prop := F.check = G.check ∧ F.design = G.design ∧ F.first = G.first ∧ F.chars.length = G.chars.length ∧ F.steps.length = G.steps.length ∧ F.pieces.length = G.pieces.length ∧ F.kerns = G.kerns ∧ F.params = G.params
theorem take_next2 {α : Type} {xs ys : List α} {k : Nat} (hx : k < xs.length) (hy : k < ys.length) (h : xs.take k = ys.take k) (he : xs[k] = ys[k]) : xs.take (k + 1) = ys.take (k + 1) := by
  rw [List.take_succ_eq_append_getElem hx, List.take_succ_eq_append_getElem hy, h, he]
theorem take_whole2 {α : Type} {xs ys : List α} {k : Nat} (hx : xs.length ≤ k) (hy : ys.length ≤ k) (h : xs.take k = ys.take k) : xs = ys := by
  rw [List.take_of_length_le hx, List.take_of_length_le hy] at h; exact h
theorem same_no {F G : Fnt} (h : ¬ F = G) : decide (F = G) = false := decide_eq_false h

set_option maxHeartbeats 1000000 in
theorem same_h0 (F G : Fnt) (a b : FAddr) (w : World)  (h0 : ¬ F.check = G.check) :
    Calls Tryz.prog 11 #[fontV F a, fontV G b] w fun e w' => e = .returned (.bool false) ∧ Kept w w' := by
  have f0 : (F.check != G.check) = true := by rw [bne_iff_ne]; omega
  clear h0
  go_enter Tryz.func11, Tryz.ntmps11
  go_wp2
  go_ret
  exact ⟨rfl, (walloc _ _).trans (walloc _ _)⟩

set_option maxHeartbeats 1000000 in
theorem same_h1 (F G : Fnt) (a b : FAddr) (w : World) (h0 : F.check = G.check) (h1 : ¬ F.design = G.design) :
    Calls Tryz.prog 11 #[fontV F a, fontV G b] w fun e w' => e = .returned (.bool false) ∧ Kept w w' := by
  have f0 : (F.check != G.check) = false := by rw [bne_eq_false_iff_eq]; omega
  have f1 : (F.design != G.design) = true := by rw [bne_iff_ne]; omega
  clear h0 h1
  go_enter Tryz.func11, Tryz.ntmps11
  go_wp2
  go_ret
  exact ⟨rfl, (walloc _ _).trans (walloc _ _)⟩

set_option maxHeartbeats 1000000 in
theorem same_h2 (F G : Fnt) (a b : FAddr) (w : World) (h0 : F.check = G.check) (h1 : F.design = G.design) (h2 : ¬ F.first = G.first) :
    Calls Tryz.prog 11 #[fontV F a, fontV G b] w fun e w' => e = .returned (.bool false) ∧ Kept w w' := by
  have f0 : (F.check != G.check) = false := by rw [bne_eq_false_iff_eq]; omega
  have f1 : (F.design != G.design) = false := by rw [bne_eq_false_iff_eq]; omega
  have f2 : (F.first != G.first) = true := by rw [bne_iff_ne]; omega
  clear h0 h1 h2
  go_enter Tryz.func11, Tryz.ntmps11
  go_wp2
  go_ret
  exact ⟨rfl, (walloc _ _).trans (walloc _ _)⟩

set_option maxHeartbeats 1000000 in
theorem same_h3 (F G : Fnt) (a b : FAddr) (w : World) (h0 : F.check = G.check) (h1 : F.design = G.design) (h2 : F.first = G.first) (h3 : ¬ F.chars.length = G.chars.length) :
    Calls Tryz.prog 11 #[fontV F a, fontV G b] w fun e w' => e = .returned (.bool false) ∧ Kept w w' := by
  have f0 : (F.check != G.check) = false := by rw [bne_eq_false_iff_eq]; omega
  have f1 : (F.design != G.design) = false := by rw [bne_eq_false_iff_eq]; omega
  have f2 : (F.first != G.first) = false := by rw [bne_eq_false_iff_eq]; omega
  have f3 : ((F.chars.length : Int) != (G.chars.length : Int)) = true := by rw [bne_iff_ne]; omega
  clear h0 h1 h2 h3
  go_enter Tryz.func11, Tryz.ntmps11
  go_wp2
  go_ret
  exact ⟨rfl, (walloc _ _).trans (walloc _ _)⟩

set_option maxHeartbeats 1000000 in
theorem same_h4 (F G : Fnt) (a b : FAddr) (w : World) (h0 : F.check = G.check) (h1 : F.design = G.design) (h2 : F.first = G.first) (h3 : F.chars.length = G.chars.length) (h4 : ¬ F.steps.length = G.steps.length) :
    Calls Tryz.prog 11 #[fontV F a, fontV G b] w fun e w' => e = .returned (.bool false) ∧ Kept w w' := by
  have f0 : (F.check != G.check) = false := by rw [bne_eq_false_iff_eq]; omega
  have f1 : (F.design != G.design) = false := by rw [bne_eq_false_iff_eq]; omega
  have f2 : (F.first != G.first) = false := by rw [bne_eq_false_iff_eq]; omega
  have f3 : ((F.chars.length : Int) != (G.chars.length : Int)) = false := by rw [bne_eq_false_iff_eq]; omega
  have f4 : ((F.steps.length : Int) != (G.steps.length : Int)) = true := by rw [bne_iff_ne]; omega
  clear h0 h1 h2 h3 h4
  go_enter Tryz.func11, Tryz.ntmps11
  go_wp2
  go_ret
  exact ⟨rfl, (walloc _ _).trans (walloc _ _)⟩

set_option maxHeartbeats 1000000 in
theorem same_h5 (F G : Fnt) (a b : FAddr) (w : World) (h0 : F.check = G.check) (h1 : F.design = G.design) (h2 : F.first = G.first) (h3 : F.chars.length = G.chars.length) (h4 : F.steps.length = G.steps.length) (h5 : ¬ F.pieces.length = G.pieces.length) :
    Calls Tryz.prog 11 #[fontV F a, fontV G b] w fun e w' => e = .returned (.bool false) ∧ Kept w w' := by
  have f0 : (F.check != G.check) = false := by rw [bne_eq_false_iff_eq]; omega
  have f1 : (F.design != G.design) = false := by rw [bne_eq_false_iff_eq]; omega
  have f2 : (F.first != G.first) = false := by rw [bne_eq_false_iff_eq]; omega
  have f3 : ((F.chars.length : Int) != (G.chars.length : Int)) = false := by rw [bne_eq_false_iff_eq]; omega
  have f4 : ((F.steps.length : Int) != (G.steps.length : Int)) = false := by rw [bne_eq_false_iff_eq]; omega
  have f5 : ((F.pieces.length : Int) != (G.pieces.length : Int)) = true := by rw [bne_iff_ne]; omega
  clear h0 h1 h2 h3 h4 h5
  go_enter Tryz.func11, Tryz.ntmps11
  go_wp2
  go_ret
  exact ⟨rfl, (walloc _ _).trans (walloc _ _)⟩

set_option maxHeartbeats 1000000 in
theorem same_k (F G : Fnt) (a b : FAddr) (w : World) (hF : FontAt w F a w.heap.size) (hG : FontAt w G b w.heap.size) (wF : F.wf) (wG : G.wf) (h0 : F.check = G.check) (h1 : F.design = G.design) (h2 : F.first = G.first) (h3 : F.chars.length = G.chars.length) (h4 : F.steps.length = G.steps.length) (h5 : F.pieces.length = G.pieces.length) (h6 : ¬ F.kerns = G.kerns) :
    Calls Tryz.prog 11 #[fontV F a, fontV G b] w fun e w' => e = .returned (.bool false) ∧ Kept w w' := by
  have f0 : (F.check != G.check) = false := by rw [bne_eq_false_iff_eq]; omega
  have f1 : (F.design != G.design) = false := by rw [bne_eq_false_iff_eq]; omega
  have f2 : (F.first != G.first) = false := by rw [bne_eq_false_iff_eq]; omega
  have f3 : ((F.chars.length : Int) != (G.chars.length : Int)) = false := by rw [bne_eq_false_iff_eq]; omega
  have f4 : ((F.steps.length : Int) != (G.steps.length : Int)) = false := by rw [bne_eq_false_iff_eq]; omega
  have f5 : ((F.pieces.length : Int) != (G.pieces.length : Int)) = false := by rw [bne_eq_false_iff_eq]; omega
  obtain ⟨W, hW⟩ : ∃ W, W = (w.alloc (.cells #[.int .u32 F.check, .int .i64 F.design, .int .i64 F.first, .slice a.A0 F.chars.length a.c0, .slice a.A1 F.steps.length a.c1, .slice a.A2 F.kerns.length a.c2, .slice a.A3 F.pieces.length a.c3, .slice a.A4 F.params.length a.c4] 28)).alloc (.cells #[.int .u32 G.check, .int .i64 G.design, .int .i64 G.first, .slice b.A0 G.chars.length b.c0, .slice b.A1 G.steps.length b.c1, .slice b.A2 G.kerns.length b.c2, .slice b.A3 G.pieces.length b.c3, .slice b.A4 G.params.length b.c4] 28) := ⟨_, rfl⟩
  have hk0 : Kept w W := by rw [hW]; exact (walloc _ _).trans (walloc _ _)
  have hB : FBox W w.heap.size F a := by rw [hW]; exact FBox.kept (FBox.of_obj (mkobj _ _)) (walloc _ _)
  have hC : FBox W (w.heap.size + 1) G b := by
    rw [hW]
    have := mkobj (w.alloc (.cells #[.int .u32 F.check, .int .i64 F.design, .int .i64 F.first, .slice a.A0 F.chars.length a.c0, .slice a.A1 F.steps.length a.c1, .slice a.A2 F.kerns.length a.c2, .slice a.A3 F.pieces.length a.c3, .slice a.A4 F.params.length a.c4] 28)) (.cells #[.int .u32 G.check, .int .i64 G.design, .int .i64 G.first, .slice b.A0 G.chars.length b.c0, .slice b.A1 G.steps.length b.c1, .slice b.A2 G.kerns.length b.c2, .slice b.A3 G.pieces.length b.c3, .slice b.A4 G.params.length b.c4] 28)
    exact FBox.of_obj (by simpa using this)
  have hi1 := fun w' (hk : Kept w w') => Lib.hid (fints_any a.A2 b.A2 F.kerns G.kerns a.c2 b.c2 w' wF.l2 wG.l2 ((hF.k.kept hk).more hk.size) ((hG.k.kept hk).more hk.size))
  have hi2 := fun w' (hk : Kept w w') => Lib.hid (fints_any a.A4 b.A4 F.params G.params a.c4 b.c4 w' wF.l4 wG.l4 ((hF.q.kept hk).more hk.size) ((hG.q.kept hk).more hk.size))
  rw [decide_eq_false h6] at hi1
  have HW := Lib.hid hW
  clear hW h0 h1 h2 h3 h4 h5 h6 hF hG hi2
  go_enter Tryz.func11, Tryz.ntmps11
  go_wp2_with (fail)
  rw [← HW.out]
  refine (hi1 _ hk0).out.mono ?_
  rintro e w1 ⟨rfl, k1⟩
  go_wp2_with (fail)
  go_ret
  exact ⟨rfl, hk0.trans k1⟩

set_option maxHeartbeats 1000000 in
theorem same_p (F G : Fnt) (a b : FAddr) (w : World) (hF : FontAt w F a w.heap.size) (hG : FontAt w G b w.heap.size) (wF : F.wf) (wG : G.wf) (h0 : F.check = G.check) (h1 : F.design = G.design) (h2 : F.first = G.first) (h3 : F.chars.length = G.chars.length) (h4 : F.steps.length = G.steps.length) (h5 : F.pieces.length = G.pieces.length) (h6 : F.kerns = G.kerns) (h7 : ¬ F.params = G.params) :
    Calls Tryz.prog 11 #[fontV F a, fontV G b] w fun e w' => e = .returned (.bool false) ∧ Kept w w' := by
  have f0 : (F.check != G.check) = false := by rw [bne_eq_false_iff_eq]; omega
  have f1 : (F.design != G.design) = false := by rw [bne_eq_false_iff_eq]; omega
  have f2 : (F.first != G.first) = false := by rw [bne_eq_false_iff_eq]; omega
  have f3 : ((F.chars.length : Int) != (G.chars.length : Int)) = false := by rw [bne_eq_false_iff_eq]; omega
  have f4 : ((F.steps.length : Int) != (G.steps.length : Int)) = false := by rw [bne_eq_false_iff_eq]; omega
  have f5 : ((F.pieces.length : Int) != (G.pieces.length : Int)) = false := by rw [bne_eq_false_iff_eq]; omega
  obtain ⟨W, hW⟩ : ∃ W, W = (w.alloc (.cells #[.int .u32 F.check, .int .i64 F.design, .int .i64 F.first, .slice a.A0 F.chars.length a.c0, .slice a.A1 F.steps.length a.c1, .slice a.A2 F.kerns.length a.c2, .slice a.A3 F.pieces.length a.c3, .slice a.A4 F.params.length a.c4] 28)).alloc (.cells #[.int .u32 G.check, .int .i64 G.design, .int .i64 G.first, .slice b.A0 G.chars.length b.c0, .slice b.A1 G.steps.length b.c1, .slice b.A2 G.kerns.length b.c2, .slice b.A3 G.pieces.length b.c3, .slice b.A4 G.params.length b.c4] 28) := ⟨_, rfl⟩
  have hk0 : Kept w W := by rw [hW]; exact (walloc _ _).trans (walloc _ _)
  have hB : FBox W w.heap.size F a := by rw [hW]; exact FBox.kept (FBox.of_obj (mkobj _ _)) (walloc _ _)
  have hC : FBox W (w.heap.size + 1) G b := by
    rw [hW]
    have := mkobj (w.alloc (.cells #[.int .u32 F.check, .int .i64 F.design, .int .i64 F.first, .slice a.A0 F.chars.length a.c0, .slice a.A1 F.steps.length a.c1, .slice a.A2 F.kerns.length a.c2, .slice a.A3 F.pieces.length a.c3, .slice a.A4 F.params.length a.c4] 28)) (.cells #[.int .u32 G.check, .int .i64 G.design, .int .i64 G.first, .slice b.A0 G.chars.length b.c0, .slice b.A1 G.steps.length b.c1, .slice b.A2 G.kerns.length b.c2, .slice b.A3 G.pieces.length b.c3, .slice b.A4 G.params.length b.c4] 28)
    exact FBox.of_obj (by simpa using this)
  have hi1 := fun w' (hk : Kept w w') => Lib.hid (fints_any a.A2 b.A2 F.kerns G.kerns a.c2 b.c2 w' wF.l2 wG.l2 ((hF.k.kept hk).more hk.size) ((hG.k.kept hk).more hk.size))
  have hi2 := fun w' (hk : Kept w w') => Lib.hid (fints_any a.A4 b.A4 F.params G.params a.c4 b.c4 w' wF.l4 wG.l4 ((hF.q.kept hk).more hk.size) ((hG.q.kept hk).more hk.size))
  rw [decide_eq_true h6] at hi1
  rw [decide_eq_false h7] at hi2
  have HW := Lib.hid hW
  clear hW h0 h1 h2 h3 h4 h5 h6 h7 hF hG
  go_enter Tryz.func11, Tryz.ntmps11
  go_wp2_with (fail)
  rw [← HW.out]
  refine (hi1 _ hk0).out.mono ?_
  rintro e w1 ⟨rfl, k1⟩
  obtain ⟨b0, b1, b2, b3, b4, b5, b6, b7, bl⟩ := hB.kept k1
  obtain ⟨c0, c1, c2, c3, c4, c5, c6, c7, cl⟩ := hC.kept k1
  go_wp2_with (fail)
  refine (hi2 _ (hk0.trans k1)).out.mono ?_
  rintro e w2 ⟨rfl, k2⟩
  go_wp2_with (fail)
  go_ret
  exact ⟨rfl, hk0.trans (k1.trans k2)⟩

set_option maxRecDepth 100000 in
set_option maxHeartbeats 8000000 in
theorem same_good (F G : Fnt) (a b : FAddr) (w : World) (hF : FontAt w F a w.heap.size) (hG : FontAt w G b w.heap.size) (wF : F.wf) (wG : G.wf) (h0 : F.check = G.check) (h1 : F.design = G.design) (h2 : F.first = G.first) (h3 : F.chars.length = G.chars.length) (h4 : F.steps.length = G.steps.length) (h5 : F.pieces.length = G.pieces.length) (h6 : F.kerns = G.kerns) (h7 : F.params = G.params) :
    Calls Tryz.prog 11 #[fontV F a, fontV G b] w fun e w' => e = .returned (.bool (decide (F = G))) ∧ Kept w w' := by
  have HE := Lib.hid (fun (e0 : F.chars = G.chars) (e1 : F.steps = G.steps) (e2 : F.pieces = G.pieces) => (decide_eq_true (by
    obtain ⟨x0, x1, x2, x3, x4, x5, x6, x7⟩ := F
    obtain ⟨y0, y1, y2, y3, y4, y5, y6, y7⟩ := G
    simp only at e0 e1 e2 h0 h1 h2 h6 h7
    rw [e0, e1, e2, h0, h1, h2, h6, h7]) : decide (F = G) = true))
  have f0 : (F.check != G.check) = false := by rw [bne_eq_false_iff_eq]; omega
  have f1 : (F.design != G.design) = false := by rw [bne_eq_false_iff_eq]; omega
  have f2 : (F.first != G.first) = false := by rw [bne_eq_false_iff_eq]; omega
  have f3 : ((F.chars.length : Int) != (G.chars.length : Int)) = false := by rw [bne_eq_false_iff_eq]; omega
  have f4 : ((F.steps.length : Int) != (G.steps.length : Int)) = false := by rw [bne_eq_false_iff_eq]; omega
  have f5 : ((F.pieces.length : Int) != (G.pieces.length : Int)) = false := by rw [bne_eq_false_iff_eq]; omega
  obtain ⟨W, hW⟩ : ∃ W, W = (w.alloc (.cells #[.int .u32 F.check, .int .i64 F.design, .int .i64 F.first, .slice a.A0 F.chars.length a.c0, .slice a.A1 F.steps.length a.c1, .slice a.A2 F.kerns.length a.c2, .slice a.A3 F.pieces.length a.c3, .slice a.A4 F.params.length a.c4] 28)).alloc (.cells #[.int .u32 G.check, .int .i64 G.design, .int .i64 G.first, .slice b.A0 G.chars.length b.c0, .slice b.A1 G.steps.length b.c1, .slice b.A2 G.kerns.length b.c2, .slice b.A3 G.pieces.length b.c3, .slice b.A4 G.params.length b.c4] 28) := ⟨_, rfl⟩
  have hk0 : Kept w W := by rw [hW]; exact (walloc _ _).trans (walloc _ _)
  have hB : FBox W w.heap.size F a := by rw [hW]; exact FBox.kept (FBox.of_obj (mkobj _ _)) (walloc _ _)
  have hC : FBox W (w.heap.size + 1) G b := by
    rw [hW]
    have := mkobj (w.alloc (.cells #[.int .u32 F.check, .int .i64 F.design, .int .i64 F.first, .slice a.A0 F.chars.length a.c0, .slice a.A1 F.steps.length a.c1, .slice a.A2 F.kerns.length a.c2, .slice a.A3 F.pieces.length a.c3, .slice a.A4 F.params.length a.c4] 28)) (.cells #[.int .u32 G.check, .int .i64 G.design, .int .i64 G.first, .slice b.A0 G.chars.length b.c0, .slice b.A1 G.steps.length b.c1, .slice b.A2 G.kerns.length b.c2, .slice b.A3 G.pieces.length b.c3, .slice b.A4 G.params.length b.c4] 28)
    exact FBox.of_obj (by simpa using this)
  have hi1 := fun w' (hk : Kept w w') => Lib.hid (fints_any a.A2 b.A2 F.kerns G.kerns a.c2 b.c2 w' wF.l2 wG.l2 ((hF.k.kept hk).more hk.size) ((hG.k.kept hk).more hk.size))
  have hi2 := fun w' (hk : Kept w w') => Lib.hid (fints_any a.A4 b.A4 F.params G.params a.c4 b.c4 w' wF.l4 wG.l4 ((hF.q.kept hk).more hk.size) ((hG.q.kept hk).more hk.size))
  rw [decide_eq_true h6] at hi1
  rw [decide_eq_true h7] at hi2
  have HW := Lib.hid hW
  have lc : F.chars.length ≤ 9223372036854775807 := wF.l0
  have ls : F.steps.length ≤ 9223372036854775807 := wF.l1
  have lp : F.pieces.length ≤ 9223372036854775807 := wF.l3
  have gc : F.chars.length ≤ G.chars.length ∧ G.chars.length ≤ F.chars.length := by omega
  have gs : F.steps.length ≤ G.steps.length ∧ G.steps.length ≤ F.steps.length := by omega
  have gp : F.pieces.length ≤ G.pieces.length ∧ G.pieces.length ≤ F.pieces.length := by omega
  obtain ⟨gc, gc'⟩ := gc
  obtain ⟨gs, gs'⟩ := gs
  obtain ⟨gp, gp'⟩ := gp
  clear hW h0 h1 h2 h3 h4 h5 h6 h7 wF wG
  go_enter Tryz.func11, Tryz.ntmps11
  go_wp2_with (fail)
  rw [← HW.out]
  refine (hi1 _ hk0).out.mono ?_
  rintro e w1 ⟨rfl, k1⟩
  obtain ⟨b0, b1, b2, b3, b4, b5, b6, b7, bl⟩ := hB.kept k1
  obtain ⟨c0, c1, c2, c3, c4, c5, c6, c7, cl⟩ := hC.kept k1
  go_wp2_with (fail)
  refine (hi2 _ (hk0.trans k1)).out.mono ?_
  rintro e w2 ⟨rfl, k2⟩
  have hkept := k1.trans k2
  clear b0 b1 b2 b3 b4 b5 b6 b7 bl c0 c1 c2 c3 c4 c5 c6 c7 cl k1 k2 hi1 hi2
  obtain ⟨b0, b1, b2, b3, b4, b5, b6, b7, bl⟩ := hB.kept hkept
  obtain ⟨c0, c1, c2, c3, c4, c5, c6, c7, cl⟩ := hC.kept hkept
  go_wp2_with (fail)
  go_loopw [5] (fun s wr => ∃ k : Nat, k ≤ F.chars.length ∧ s = .int .i64 k ∧ Hid (F.chars.take k = G.chars.take k) ∧ Kept W wr) (fun s _ => F.chars.length - (intOf s).toNat)
  case atStart => exact ⟨0, by omega, rfl, Lib.hid rfl, hkept⟩
  case round =>
    obtain ⟨k, hk, rfl, htk, hkept⟩ := hrel
    clear b0 b1 b2 b3 b4 b5 b6 b7 bl c0 c1 c2 c3 c4 c5 c6 c7 cl
    obtain ⟨b0, b1, b2, b3, b4, b5, b6, b7, bl⟩ := hB.kept hkept
    obtain ⟨c0, c1, c2, c3, c4, c5, c6, c7, cl⟩ := hC.kept hkept
    by_cases hlt : k < F.chars.length
    · have hlt2 : k < G.chars.length := by omega
      obtain ⟨bk, ok, hA, hbk, hck⟩ := ((hF.m).kept (hk0.trans hkept)) (by omega)
      obtain ⟨bj, oj, hA', hbj, hcj⟩ := ((hG.m).kept (hk0.trans hkept)) (by omega)
      rw [hA] at b3
      rw [hA'] at c3
      obtain ⟨u0, u1, u2, u3, u4, u5⟩ := hck k hlt
      obtain ⟨v0, v1, v2, v3, v4, v5⟩ := hcj k hlt2
      have HA := Lib.hid hA
      have HA2 := Lib.hid hA'
      clear hck hcj hA hA'
      have Hst := Lib.hid (fun h => take_next2 hlt hlt2 htk.out h : F.chars[k] = G.chars[k] → F.chars.take (k + 1) = G.chars.take (k + 1))
      have Hno : Hid (F.chars[k] ≠ G.chars[k] → decide (F = G) = false) := Lib.hid (fun h => decide_eq_false (fun e => h (by subst e; rfl)))
      generalize F.chars[k] = x at *
      generalize G.chars[k] = y at *
      by_cases hxy : x = y
      · subst hxy
        have Hs := Lib.hid (Hst.out rfl)
        clear Hst Hno
        skip
        go_wp2_with (fail)
        go_quiet (fail)
        go_wp2_with (fail)
        go_roundw
        case rel => exact ⟨k + 1, by omega, by go_num, Hs, below_drewN hkept _⟩
        case measure => simp [intOf]; omega
      · have hne := fun w => met_neq x y hxy w
        have HN := Lib.hid (Hno.out hxy)
        clear Hst Hno hxy
        go_wp2_with (fail)
        go_quiet (fail)
        go_wp2_with (fail)
        go_ret
        exact ⟨ret_bool HN.out.symm, hk0.trans (below_drewN hkept _)⟩
    · have H_chars := Lib.hid (take_whole2 (by omega) (by omega) htk.out : F.chars = G.chars)
      clear htk
      go_wp2_with (fail)
      go_loopw [6] (fun s wr => ∃ k : Nat, k ≤ F.steps.length ∧ s = .int .i64 k ∧ Hid (F.steps.take k = G.steps.take k) ∧ Kept W wr) (fun s _ => F.steps.length - (intOf s).toNat)
      case atStart => exact ⟨0, by omega, rfl, Lib.hid rfl, hkept⟩
      case round =>
        obtain ⟨k, hk, rfl, htk, hkept⟩ := hrel
        clear b0 b1 b2 b3 b4 b5 b6 b7 bl c0 c1 c2 c3 c4 c5 c6 c7 cl
        obtain ⟨b0, b1, b2, b3, b4, b5, b6, b7, bl⟩ := hB.kept hkept
        obtain ⟨c0, c1, c2, c3, c4, c5, c6, c7, cl⟩ := hC.kept hkept
        by_cases hlt : k < F.steps.length
        · have hlt2 : k < G.steps.length := by omega
          obtain ⟨bk, ok, hA, hbk, hck⟩ := ((hF.s).kept (hk0.trans hkept)) (by omega)
          obtain ⟨bj, oj, hA', hbj, hcj⟩ := ((hG.s).kept (hk0.trans hkept)) (by omega)
          rw [hA] at b4
          rw [hA'] at c4
          obtain ⟨u0, u1, u2, u3⟩ := hck k hlt
          obtain ⟨v0, v1, v2, v3⟩ := hcj k hlt2
          have HA := Lib.hid hA
          have HA2 := Lib.hid hA'
          clear hck hcj hA hA'
          have Hst := Lib.hid (fun h => take_next2 hlt hlt2 htk.out h : F.steps[k] = G.steps[k] → F.steps.take (k + 1) = G.steps.take (k + 1))
          have Hno : Hid (F.steps[k] ≠ G.steps[k] → decide (F = G) = false) := Lib.hid (fun h => decide_eq_false (fun e => h (by subst e; rfl)))
          generalize F.steps[k] = x at *
          generalize G.steps[k] = y at *
          by_cases hxy : x = y
          · subst hxy
            have Hs := Lib.hid (Hst.out rfl)
            clear Hst Hno
            skip
            go_wp2_with (fail)
            go_quiet (fail)
            go_wp2_with (fail)
            go_roundw
            case rel => exact ⟨k + 1, by omega, by go_num, Hs, below_drewN hkept _⟩
            case measure => simp [intOf]; omega
          · have hne := fun w => step_neq x y hxy w
            have HN := Lib.hid (Hno.out hxy)
            clear Hst Hno hxy
            go_wp2_with (fail)
            go_quiet (fail)
            go_wp2_with (fail)
            go_ret
            exact ⟨ret_bool HN.out.symm, hk0.trans (below_drewN hkept _)⟩
        · have H_steps := Lib.hid (take_whole2 (by omega) (by omega) htk.out : F.steps = G.steps)
          clear htk
          go_wp2_with (fail)
          go_loopw [7] (fun s wr => ∃ k : Nat, k ≤ F.pieces.length ∧ s = .int .i64 k ∧ Hid (F.pieces.take k = G.pieces.take k) ∧ Kept W wr) (fun s _ => F.pieces.length - (intOf s).toNat)
          case atStart => exact ⟨0, by omega, rfl, Lib.hid rfl, hkept⟩
          case round =>
            obtain ⟨k, hk, rfl, htk, hkept⟩ := hrel
            clear b0 b1 b2 b3 b4 b5 b6 b7 bl c0 c1 c2 c3 c4 c5 c6 c7 cl
            obtain ⟨b0, b1, b2, b3, b4, b5, b6, b7, bl⟩ := hB.kept hkept
            obtain ⟨c0, c1, c2, c3, c4, c5, c6, c7, cl⟩ := hC.kept hkept
            by_cases hlt : k < F.pieces.length
            · have hlt2 : k < G.pieces.length := by omega
              obtain ⟨bk, ok, hA, hbk, hck⟩ := ((hF.p).kept (hk0.trans hkept)) (by omega)
              obtain ⟨bj, oj, hA', hbj, hcj⟩ := ((hG.p).kept (hk0.trans hkept)) (by omega)
              rw [hA] at b6
              rw [hA'] at c6
              obtain ⟨u0, u1, u2, u3⟩ := hck k hlt
              obtain ⟨v0, v1, v2, v3⟩ := hcj k hlt2
              have HA := Lib.hid hA
              have HA2 := Lib.hid hA'
              clear hck hcj hA hA'
              have Hst := Lib.hid (fun h => take_next2 hlt hlt2 htk.out h : F.pieces[k] = G.pieces[k] → F.pieces.take (k + 1) = G.pieces.take (k + 1))
              have Hno : Hid (F.pieces[k] ≠ G.pieces[k] → decide (F = G) = false) := Lib.hid (fun h => decide_eq_false (fun e => h (by subst e; rfl)))
              generalize F.pieces[k] = x at *
              generalize G.pieces[k] = y at *
              by_cases hxy : x = y
              · subst hxy
                have Hs := Lib.hid (Hst.out rfl)
                clear Hst Hno
                have hsm := fun w => piece_same x w
                go_wp2_with (fail)
                go_quiet (fail)
                go_wp2_with (fail)
                go_roundw
                case rel => exact ⟨k + 1, by omega, by go_num, Hs, below_drewN hkept _⟩
                case measure => simp [intOf]; omega
              · have hne := fun w => piece_neq x y hxy w
                have HN := Lib.hid (Hno.out hxy)
                clear Hst Hno hxy
                go_wp2_with (fail)
                go_quiet (fail)
                go_wp2_with (fail)
                go_ret
                exact ⟨ret_bool HN.out.symm, hk0.trans (below_drewN hkept _)⟩
            · have H_pieces := Lib.hid (take_whole2 (by omega) (by omega) htk.out : F.pieces = G.pieces)
              clear htk
              go_wp2_with (fail)
              go_ret
              exact ⟨ret_bool (HE.out H_chars.out H_steps.out H_pieces.out).symm, hk0.trans hkept⟩


theorem sameF_any (F G : Fnt) (a b : FAddr) (w : World) (hF : FontAt w F a w.heap.size) (hG : FontAt w G b w.heap.size) (wF : F.wf) (wG : G.wf) :
    Calls Tryz.prog 11 #[fontV F a, fontV G b] w fun e w' => e = .returned (.bool (decide (F = G))) ∧ Kept w w' := by
  by_cases h0 : F.check = G.check
  case neg =>
    rw [same_no (fun e => h0 (by rw [e]))]
    exact same_h0 F G a b w h0
  case pos =>
  by_cases h1 : F.design = G.design
  case neg =>
    rw [same_no (fun e => h1 (by rw [e]))]
    exact same_h1 F G a b w h0 h1
  case pos =>
  by_cases h2 : F.first = G.first
  case neg =>
    rw [same_no (fun e => h2 (by rw [e]))]
    exact same_h2 F G a b w h0 h1 h2
  case pos =>
  by_cases h3 : F.chars.length = G.chars.length
  case neg =>
    rw [same_no (fun e => h3 (by rw [e]))]
    exact same_h3 F G a b w h0 h1 h2 h3
  case pos =>
  by_cases h4 : F.steps.length = G.steps.length
  case neg =>
    rw [same_no (fun e => h4 (by rw [e]))]
    exact same_h4 F G a b w h0 h1 h2 h3 h4
  case pos =>
  by_cases h5 : F.pieces.length = G.pieces.length
  case neg =>
    rw [same_no (fun e => h5 (by rw [e]))]
    exact same_h5 F G a b w h0 h1 h2 h3 h4 h5
  case pos =>
  by_cases h6 : F.kerns = G.kerns
  case neg =>
    rw [same_no (fun e => h6 (by rw [e]))]
    exact same_k F G a b w hF hG wF wG h0 h1 h2 h3 h4 h5 h6
  case pos =>
  by_cases h7 : F.params = G.params
  case neg =>
    rw [same_no (fun e => h7 (by rw [e]))]
    exact same_p F G a b w hF hG wF wG h0 h1 h2 h3 h4 h5 h6 h7
  case pos =>
  exact same_good F G a b w hF hG wF wG h0 h1 h2 h3 h4 h5 h6 h7
end Go.Proofs.YtdhidpbenhmfgaaGreat
