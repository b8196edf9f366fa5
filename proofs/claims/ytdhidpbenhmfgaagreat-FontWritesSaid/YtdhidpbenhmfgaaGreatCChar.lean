/- font.restRight, charRight. -/
import Derived.Test.YtdhidpbenhmfgaaGreatCHead
import Derived.Laws.StructEq
namespace Go.Proofs.YtdhidpbenhmfgaaGreat
open Go.RowKit

def restB (F : Fnt) (m : Met) : Bool := decide (0 ≤ m.rest ∧ m.rest < 256) && (if m.tag = 0 then m.rest == 0 else if m.tag = 1 then decide (m.rest < F.steps.length) else if m.tag = 2 then thB F m.rest else if m.tag = 3 then decide (m.rest < F.pieces.length) else false)
def charRB (F : Fnt) (m : Met) : Bool := if m.tag = -1 then decide (m = ⟨0, 0, 0, 0, -1, 0⟩) else [m.w, m.h, m.d, m.it].all fixB && restB F m

theorem nums4 {w : World} {B C : Nat} {x y z t : Int} {T : TypeId} (h : w.heap[B]? = some (.cells #[.int .i64 x, .int .i64 y, .int .i64 z, .int .i64 t] T (0, 0))) (hC : B < C) : NumsAt w (some ⟨B, 0, none⟩) [x, y, z, t] C := fun _ =>
  ⟨B, 0, rfl, hC, fun k hk => by
    match k, hk with
    | 0, _ => simp [World.cell?, h]
    | 1, _ => simp [World.cell?, h]
    | 2, _ => simp [World.cell?, h]
    | 3, _ => simp [World.cell?, h]⟩


set_option maxHeartbeats 1000000 in
theorem rest_lo (F : Fnt) (a : FAddr) (m : Met) (w : World) (h0 : m.rest < 0) :
    Calls Tryz.prog 72 #[fontV F a, metA m] w fun e w' => e = .returned (.bool false) ∧ Kept w w' := by
  obtain ⟨A0, n0, A1, n1, A2, n2, A3, n3, A4, n4⟩ := a
  obtain ⟨mw, mh, md, mi, mt, mr⟩ := m
  dsimp only at *
  have f0 : decide (mr < 0) = true := decide_eq_true (by omega)
  go_enter Tryz.func72, Tryz.ntmps72
  go_wp2
  go_ret
  exact ⟨ret_bool (by first | rfl | simp), (by repeat (first | exact Kept.refl _ | assumption | refine kalloc ?_ _ | refine Below.setCell ?_ (by simp; try omega) _ | refine below_drewN ?_ _ | refine Below.drew ?_))⟩

set_option maxHeartbeats 1000000 in
theorem rest_hi (F : Fnt) (a : FAddr) (m : Met) (w : World) (h0 : ¬ m.rest < 0) (h1 : 256 ≤ m.rest) :
    Calls Tryz.prog 72 #[fontV F a, metA m] w fun e w' => e = .returned (.bool false) ∧ Kept w w' := by
  obtain ⟨A0, n0, A1, n1, A2, n2, A3, n3, A4, n4⟩ := a
  obtain ⟨mw, mh, md, mi, mt, mr⟩ := m
  dsimp only at *
  have f0 : decide (mr < 0) = false := decide_eq_false (by omega)
  have f1 : decide (256 ≤ mr) = true := decide_eq_true (by omega)
  go_enter Tryz.func72, Tryz.ntmps72
  go_wp2
  go_ret
  exact ⟨ret_bool (by first | rfl | simp), (by repeat (first | exact Kept.refl _ | assumption | refine kalloc ?_ _ | refine Below.setCell ?_ (by simp; try omega) _ | refine below_drewN ?_ _ | refine Below.drew ?_))⟩

set_option maxHeartbeats 1000000 in
theorem rest_t0 (F : Fnt) (a : FAddr) (m : Met) (w : World) (h0 : ¬ m.rest < 0) (h1 : ¬ 256 ≤ m.rest) (t0 : m.tag = 0) :
    Calls Tryz.prog 72 #[fontV F a, metA m] w fun e w' => e = .returned (.bool (m.rest == 0)) ∧ Kept w w' := by
  obtain ⟨A0, n0, A1, n1, A2, n2, A3, n3, A4, n4⟩ := a
  obtain ⟨mw, mh, md, mi, mt, mr⟩ := m
  dsimp only at *
  have f0 : decide (mr < 0) = false := decide_eq_false (by omega)
  have f1 : decide (256 ≤ mr) = false := decide_eq_false (by omega)
  have z0 : (mt == 0) = true := by simp; omega
  clear t0
  go_enter Tryz.func72, Tryz.ntmps72
  go_wp2
  go_ret
  exact ⟨ret_bool (by first | rfl | simp), (by repeat (first | exact Kept.refl _ | assumption | refine kalloc ?_ _ | refine Below.setCell ?_ (by simp; try omega) _ | refine below_drewN ?_ _ | refine Below.drew ?_))⟩

set_option maxHeartbeats 1000000 in
theorem rest_t1 (F : Fnt) (a : FAddr) (m : Met) (w : World) (h0 : ¬ m.rest < 0) (h1 : ¬ 256 ≤ m.rest) (t0 : ¬ m.tag = 0) (t1 : m.tag = 1) :
    Calls Tryz.prog 72 #[fontV F a, metA m] w fun e w' => e = .returned (.bool (decide (m.rest < F.steps.length))) ∧ Kept w w' := by
  obtain ⟨A0, n0, A1, n1, A2, n2, A3, n3, A4, n4⟩ := a
  obtain ⟨mw, mh, md, mi, mt, mr⟩ := m
  dsimp only at *
  have f0 : decide (mr < 0) = false := decide_eq_false (by omega)
  have f1 : decide (256 ≤ mr) = false := decide_eq_false (by omega)
  have z0 : (mt == 0) = false := by simp; omega
  have z1 : (mt == 1) = true := by simp; omega
  clear t0 t1
  go_enter Tryz.func72, Tryz.ntmps72
  go_wp2
  go_ret
  exact ⟨ret_bool (by first | rfl | simp), (by repeat (first | exact Kept.refl _ | assumption | refine kalloc ?_ _ | refine Below.setCell ?_ (by simp; try omega) _ | refine below_drewN ?_ _ | refine Below.drew ?_))⟩

set_option maxHeartbeats 1000000 in
theorem rest_t3 (F : Fnt) (a : FAddr) (m : Met) (w : World) (h0 : ¬ m.rest < 0) (h1 : ¬ 256 ≤ m.rest) (t0 : ¬ m.tag = 0) (t1 : ¬ m.tag = 1) (t2 : ¬ m.tag = 2) (t3 : m.tag = 3) :
    Calls Tryz.prog 72 #[fontV F a, metA m] w fun e w' => e = .returned (.bool (decide (m.rest < F.pieces.length))) ∧ Kept w w' := by
  obtain ⟨A0, n0, A1, n1, A2, n2, A3, n3, A4, n4⟩ := a
  obtain ⟨mw, mh, md, mi, mt, mr⟩ := m
  dsimp only at *
  have f0 : decide (mr < 0) = false := decide_eq_false (by omega)
  have f1 : decide (256 ≤ mr) = false := decide_eq_false (by omega)
  have z0 : (mt == 0) = false := by simp; omega
  have z1 : (mt == 1) = false := by simp; omega
  have z2 : (mt == 2) = false := by simp; omega
  have z3 : (mt == 3) = true := by simp; omega
  clear t0 t1 t2 t3
  go_enter Tryz.func72, Tryz.ntmps72
  go_wp2
  go_ret
  exact ⟨ret_bool (by first | rfl | simp), (by repeat (first | exact Kept.refl _ | assumption | refine kalloc ?_ _ | refine Below.setCell ?_ (by simp; try omega) _ | refine below_drewN ?_ _ | refine Below.drew ?_))⟩

set_option maxHeartbeats 1000000 in
theorem rest_tx (F : Fnt) (a : FAddr) (m : Met) (w : World) (h0 : ¬ m.rest < 0) (h1 : ¬ 256 ≤ m.rest) (t0 : ¬ m.tag = 0) (t1 : ¬ m.tag = 1) (t2 : ¬ m.tag = 2) (t3 : ¬ m.tag = 3) :
    Calls Tryz.prog 72 #[fontV F a, metA m] w fun e w' => e = .returned (.bool false) ∧ Kept w w' := by
  obtain ⟨A0, n0, A1, n1, A2, n2, A3, n3, A4, n4⟩ := a
  obtain ⟨mw, mh, md, mi, mt, mr⟩ := m
  dsimp only at *
  have f0 : decide (mr < 0) = false := decide_eq_false (by omega)
  have f1 : decide (256 ≤ mr) = false := decide_eq_false (by omega)
  have z0 : (mt == 0) = false := by simp; omega
  have z1 : (mt == 1) = false := by simp; omega
  have z2 : (mt == 2) = false := by simp; omega
  have z3 : (mt == 3) = false := by simp; omega
  clear t0 t1 t2 t3
  go_enter Tryz.func72, Tryz.ntmps72
  go_wp2
  go_ret
  exact ⟨ret_bool (by first | rfl | simp), (by repeat (first | exact Kept.refl _ | assumption | refine kalloc ?_ _ | refine Below.setCell ?_ (by simp; try omega) _ | refine below_drewN ?_ _ | refine Below.drew ?_))⟩

set_option maxHeartbeats 2000000 in
theorem rest_t2 (F : Fnt) (a : FAddr) (m : Met) (w : World) (hF : FontAt w F a w.heap.size) (hw : F.wf) (h0 : ¬ m.rest < 0) (h1 : ¬ 256 ≤ m.rest) (t0 : ¬ m.tag = 0) (t1 : ¬ m.tag = 1) (t2 : m.tag = 2) :
    Calls Tryz.prog 72 #[fontV F a, metA m] w fun e w' => e = .returned (.bool (thB F m.rest)) ∧ Kept w w' := by
  have h := fun w' (hk : Kept w w') => Lib.hid (cthere_any F a m.rest w' ((hF.kept hk).more hk.size) hw (by omega))
  generalize thB F m.rest = t at *
  clear hF hw
  obtain ⟨A0, n0, A1, n1, A2, n2, A3, n3, A4, n4⟩ := a
  obtain ⟨mw, mh, md, mi, mt, mr⟩ := m
  dsimp only at *
  have f0 : decide (mr < 0) = false := decide_eq_false (by omega)
  have f1 : decide (256 ≤ mr) = false := decide_eq_false (by omega)
  have z0 : (mt == 0) = false := by simp; omega
  have z1 : (mt == 1) = false := by simp; omega
  have z2 : (mt == 2) = true := by simp; omega
  clear t0 t1 t2
  go_enter Tryz.func72, Tryz.ntmps72
  go_wp2_with (fail)
  refine (h _ (by repeat (first | exact Kept.refl _ | assumption | refine kalloc ?_ _ | refine Below.setCell ?_ (by simp; try omega) _ | refine below_drewN ?_ _ | refine Below.drew ?_))).out.mono ?_
  rintro e w1 ⟨rfl, k1⟩
  go_wp2_with (fail)
  go_ret
  exact ⟨rfl, Kept.trans (by repeat (first | exact Kept.refl _ | assumption | refine kalloc ?_ _ | refine Below.setCell ?_ (by simp; try omega) _ | refine below_drewN ?_ _ | refine Below.drew ?_)) k1⟩

theorem restR_any (F : Fnt) (a : FAddr) (m : Met) (w : World) (hF : FontAt w F a w.heap.size) (hw : F.wf) :
    Calls Tryz.prog 72 #[fontV F a, metA m] w fun e w' => e = .returned (.bool (restB F m)) ∧ Kept w w' := by
  by_cases h0 : m.rest < 0
  · rw [show restB F m = false from by unfold restB; rw [decide_eq_false (by omega)]; rfl]; exact rest_lo F a m w h0
  · by_cases h1 : 256 ≤ m.rest
    · rw [show restB F m = false from by unfold restB; rw [decide_eq_false (by omega)]; rfl]; exact rest_hi F a m w h0 h1
    · unfold restB
      rw [decide_eq_true (by omega), Bool.true_and]
      by_cases t0 : m.tag = 0
      · rw [if_pos t0]; exact rest_t0 F a m w h0 h1 t0
      · rw [if_neg t0]
        by_cases t1 : m.tag = 1
        · rw [if_pos t1]; exact rest_t1 F a m w h0 h1 t0 t1
        · rw [if_neg t1]
          by_cases t2 : m.tag = 2
          · rw [if_pos t2]; exact rest_t2 F a m w hF hw h0 h1 t0 t1 t2
          · rw [if_neg t2]
            by_cases t3 : m.tag = 3
            · rw [if_pos t3]; exact rest_t3 F a m w h0 h1 t0 t1 t2 t3
            · rw [if_neg t3]; exact rest_tx F a m w h0 h1 t0 t1 t2 t3

set_option maxRecDepth 100000 in
set_option maxHeartbeats 2000000 in
theorem met_eql (m : Met) (w : World) : (binOp .eql 43 (metA m) (.agg #[.int .i64 0, .int .i64 0, .int .i64 0, .int .i64 0, .int .i64 (-1), .int .i64 0])).run Tryz.prog w = .ok (.bool (decide (m = ⟨0, 0, 0, 0, -1, 0⟩))) w := by
  obtain ⟨x0, x1, x2, x3, x4, x5⟩ := m
  have key : decide ((⟨x0, x1, x2, x3, x4, x5⟩ : Met) = ⟨0, 0, 0, 0, -1, 0⟩) = (x0 == 0 && (x1 == 0 && (x2 == 0 && (x3 == 0 && (x4 == -1 && x5 == 0))))) := by
    rw [Bool.eq_iff_iff]; simp
  rw [key]
  dsimp only [metA]
  cases e0 : (x0 == 0) with
  | false => go_simp
  | true => cases e1 : (x1 == 0) with
    | false => go_simp
    | true => cases e2 : (x2 == 0) with
      | false => go_simp
      | true => cases e3 : (x3 == 0) with
        | false => go_simp
        | true => cases e4 : (x4 == -1) with
          | false => go_simp
          | true => cases e5 : (x5 == 0) with
            | false => go_simp
            | true => go_simp

set_option maxHeartbeats 2000000 in
theorem charR_neg (F : Fnt) (a : FAddr) (m : Met) (w : World) (ht : m.tag = -1) :
    Calls Tryz.prog 58 #[fontV F a, metA m] w fun e w' => e = .returned (.bool (decide (m = ⟨0, 0, 0, 0, -1, 0⟩))) ∧ Kept w w' := by
  have he := met_eql m
  generalize decide (m = ⟨0, 0, 0, 0, -1, 0⟩) = t at *
  obtain ⟨A0, n0, A1, n1, A2, n2, A3, n3, A4, n4⟩ := a
  obtain ⟨mw, mh, md, mi, mt, mr⟩ := m
  dsimp only at *
  have z : (mt == -1) = true := by simpa using ht
  clear ht
  go_enter Tryz.func58, Tryz.ntmps58
  go_wp2_with (fail)
  go_ret
  exact ⟨rfl, (by repeat (first | exact Kept.refl _ | assumption | refine kalloc ?_ _ | refine Below.setCell ?_ (by simp; try omega) _ | refine below_drewN ?_ _ | refine Below.drew ?_))⟩

set_option maxHeartbeats 2000000 in
theorem charR_f (F : Fnt) (a : FAddr) (m : Met) (w : World) (ht : ¬ m.tag = -1) (hf : [m.w, m.h, m.d, m.it].all fixB = false) :
    Calls Tryz.prog 58 #[fontV F a, metA m] w fun e w' => e = .returned (.bool false) ∧ Kept w w' := by
  have h := fun B c w' (hx : NumsAt w' (some ⟨B, 0, none⟩) [m.w, m.h, m.d, m.it] w'.heap.size) => Lib.hid (cfix_any (some ⟨B, 0, none⟩) [m.w, m.h, m.d, m.it] c w' (by simp) hx)
  rw [hf] at h
  obtain ⟨W, hW⟩ : ∃ W, W = (w.alloc (.cells #[.int .u32 F.check, .int .i64 F.design, .int .i64 F.first, .slice a.A0 F.chars.length a.c0, .slice a.A1 F.steps.length a.c1, .slice a.A2 F.kerns.length a.c2, .slice a.A3 F.pieces.length a.c3, .slice a.A4 F.params.length a.c4] 28)).alloc (.cells #[.int .i64 m.w, .int .i64 m.h, .int .i64 m.d, .int .i64 m.it, .int .i64 m.tag, .int .i64 m.rest] 43) := ⟨_, rfl⟩
  have hk0 : Kept w W := by rw [hW]; exact (walloc _ _).trans (walloc _ _)
  have hWs : W.heap.size = w.heap.size + 2 := by rw [hW]; simp
  have HW := Lib.hid hW
  obtain ⟨mw, mh, md, mi, mt, mr⟩ := m
  dsimp only at *
  have z : (mt == -1) = false := by simpa using ht
  clear ht hf hW
  go_enter Tryz.func58, Tryz.ntmps58
  go_wp2_with (fail)
  rw [← HW.out]
  refine (h _ _ _ (nums4 (by first | exact mkobj _ _ | (rw [← hWs]; exact mkobj _ _)) (by simp; omega))).out.mono ?_
  rintro e w1 ⟨rfl, k1⟩
  have kw : Kept w w1 := hk0.trans (Kept.trans (walloc _ _) k1)
  go_wp2_with (fail)
  go_ret
  exact ⟨rfl, kw⟩

set_option maxHeartbeats 2000000 in
theorem charR_t (F : Fnt) (a : FAddr) (m : Met) (w : World) (hF : FontAt w F a w.heap.size) (hw : F.wf) (ht : ¬ m.tag = -1) (hf : [m.w, m.h, m.d, m.it].all fixB = true) :
    Calls Tryz.prog 58 #[fontV F a, metA m] w fun e w' => e = .returned (.bool (restB F m)) ∧ Kept w w' := by
  have h := fun B c w' (hx : NumsAt w' (some ⟨B, 0, none⟩) [m.w, m.h, m.d, m.it] w'.heap.size) => Lib.hid (cfix_any (some ⟨B, 0, none⟩) [m.w, m.h, m.d, m.it] c w' (by simp) hx)
  have hr := fun w' (hk : Kept w w') => Lib.hid (restR_any F a m w' ((hF.kept hk).more hk.size) hw)
  rw [hf] at h
  generalize restB F m = t at *
  obtain ⟨W, hW⟩ : ∃ W, W = (w.alloc (.cells #[.int .u32 F.check, .int .i64 F.design, .int .i64 F.first, .slice a.A0 F.chars.length a.c0, .slice a.A1 F.steps.length a.c1, .slice a.A2 F.kerns.length a.c2, .slice a.A3 F.pieces.length a.c3, .slice a.A4 F.params.length a.c4] 28)).alloc (.cells #[.int .i64 m.w, .int .i64 m.h, .int .i64 m.d, .int .i64 m.it, .int .i64 m.tag, .int .i64 m.rest] 43) := ⟨_, rfl⟩
  have hk0 : Kept w W := by rw [hW]; exact (walloc _ _).trans (walloc _ _)
  have hB : FBox W w.heap.size F a := by rw [hW]; exact FBox.kept (FBox.of_obj (mkobj _ _)) (walloc _ _)
  have hM := fun w' (hk : Kept W w') => Lib.hid (mbox ((hk.block (w.heap.size + 1) (by rw [hW]; simp)).trans (by rw [hW]; have := mkobj (w.alloc (.cells #[.int .u32 F.check, .int .i64 F.design, .int .i64 F.first, .slice a.A0 F.chars.length a.c0, .slice a.A1 F.steps.length a.c1, .slice a.A2 F.kerns.length a.c2, .slice a.A3 F.pieces.length a.c3, .slice a.A4 F.params.length a.c4] 28)) (.cells #[.int .i64 m.w, .int .i64 m.h, .int .i64 m.d, .int .i64 m.it, .int .i64 m.tag, .int .i64 m.rest] 43); simpa using this)))
  have hWs : W.heap.size = w.heap.size + 2 := by rw [hW]; simp
  have HW := Lib.hid hW
  obtain ⟨mw, mh, md, mi, mt, mr⟩ := m
  dsimp only at *
  have z : (mt == -1) = false := by simpa using ht
  clear ht hf hW hF hw
  go_enter Tryz.func58, Tryz.ntmps58
  go_wp2_with (fail)
  rw [← HW.out]
  refine (h _ _ _ (nums4 (by first | exact mkobj _ _ | (rw [← hWs]; exact mkobj _ _)) (by simp; omega))).out.mono ?_
  rintro e w1 ⟨rfl, k1⟩
  have kW : Kept W w1 := Kept.trans (walloc _ _) k1
  have kw : Kept w w1 := hk0.trans kW
  obtain ⟨b0, b1, b2, b3, b4, b5, b6, b7, bl⟩ := hB.kept kW
  obtain ⟨t0, t1, t2, t3, t4, t5, tf, tl⟩ := (hM _ kW).out
  go_wp2_with (fail)
  refine (hr _ kw).out.mono ?_
  rintro e w2 ⟨rfl, k2⟩
  go_wp2_with (fail)
  go_ret
  exact ⟨rfl, kw.trans k2⟩

theorem charR_any (F : Fnt) (a : FAddr) (m : Met) (w : World) (hF : FontAt w F a w.heap.size) (hw : F.wf) :
    Calls Tryz.prog 58 #[fontV F a, metA m] w fun e w' => e = .returned (.bool (charRB F m)) ∧ Kept w w' := by
  unfold charRB
  by_cases ht : m.tag = -1
  · rw [if_pos ht]; exact charR_neg F a m w ht
  · rw [if_neg ht]
    cases hf : [m.w, m.h, m.d, m.it].all fixB with
    | false => rw [Bool.false_and]; exact charR_f F a m w ht hf
    | true => rw [Bool.true_and]; exact charR_t F a m w hF hw ht hf
end Go.Proofs.YtdhidpbenhmfgaaGreat
