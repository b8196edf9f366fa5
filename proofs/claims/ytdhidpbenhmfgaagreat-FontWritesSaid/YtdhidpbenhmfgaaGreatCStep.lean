/- font.boundary, stepRight, stepsRight. -/
import Derived.Test.YtdhidpbenhmfgaaGreatM4
namespace Go.Proofs.YtdhidpbenhmfgaaGreat
open Go.RowKit

set_option maxHeartbeats 1000000 in
theorem cbound_y (F : Fnt) (a : FAddr) (c : Int) (w : World) (hF : FontAt w F a w.heap.size) (h : 0 < F.steps.length) (hs : F.steps[0].skip = 255) :
    Calls Tryz.prog 73 #[fontV F a, .int .u8 c] w fun e w' => e = .returned (.bool (decide (c = F.steps[0].next))) ∧ Kept w w' := by
  obtain ⟨A0, n0, A1, n1, A2, n2, A3, n3, A4, n4⟩ := a
  obtain ⟨b, o, hA, hb, hc⟩ := hF.s h
  obtain ⟨c0, c1, c2, c3⟩ := hc 0 h
  obtain rfl : A1 = some ⟨b, o, none⟩ := hA
  simp only [Nat.zero_mul, Nat.add_zero] at c0 c1 c2 c3
  clear hc hF
  generalize F.steps[0] = s at *
  obtain ⟨s0, s1, s2, s3⟩ := s
  dsimp only at *
  have z : (s0 == 255) = true := by simpa using hs
  clear hs
  go_enter Tryz.func73, Tryz.ntmps73
  go_wp2
  go_ret
  exact ⟨ret_bool (by first | rfl | (rw [Bool.eq_iff_iff]; simp; omega)), (by repeat (first | exact Kept.refl _ | assumption | refine kalloc ?_ _ | refine Below.setCell ?_ (by simp; try omega) _ | refine below_drewN ?_ _ | refine Below.drew ?_))⟩

set_option maxHeartbeats 1000000 in
theorem cbound_n (F : Fnt) (a : FAddr) (c : Int) (w : World) (hF : FontAt w F a w.heap.size) (h : 0 < F.steps.length) (hs : ¬ F.steps[0].skip = 255) :
    Calls Tryz.prog 73 #[fontV F a, .int .u8 c] w fun e w' => e = .returned (.bool false) ∧ Kept w w' := by
  obtain ⟨A0, n0, A1, n1, A2, n2, A3, n3, A4, n4⟩ := a
  obtain ⟨b, o, hA, hb, hc⟩ := hF.s h
  obtain ⟨c0, c1, c2, c3⟩ := hc 0 h
  obtain rfl : A1 = some ⟨b, o, none⟩ := hA
  simp only [Nat.zero_mul, Nat.add_zero] at c0 c1 c2 c3
  clear hc hF
  generalize F.steps[0] = s at *
  obtain ⟨s0, s1, s2, s3⟩ := s
  dsimp only at *
  have z : (s0 == 255) = false := by simpa using hs
  clear hs
  go_enter Tryz.func73, Tryz.ntmps73
  go_wp2
  go_ret
  exact ⟨ret_bool (by first | rfl | (rw [Bool.eq_iff_iff]; simp; omega)), (by repeat (first | exact Kept.refl _ | assumption | refine kalloc ?_ _ | refine Below.setCell ?_ (by simp; try omega) _ | refine below_drewN ?_ _ | refine Below.drew ?_))⟩

theorem cbound_any (F : Fnt) (a : FAddr) (c : Int) (w : World) (hF : FontAt w F a w.heap.size) (h : 0 < F.steps.length) (hc : 0 ≤ c) :
    Calls Tryz.prog 73 #[fontV F a, .int .u8 c] w fun e w' => e = .returned (.bool (decide (c = edge F))) ∧ Kept w w' := by
  rw [edge_cons h]
  by_cases hs : F.steps[0].skip = 255
  · rw [if_pos hs]; exact cbound_y F a c w hF h hs
  · rw [if_neg hs, decide_eq_false (by omega)]; exact cbound_n F a c w hF h hs

set_option maxRecDepth 100000 in
set_option maxHeartbeats 2000000 in
theorem cstep_A1 (F : Fnt) (a : FAddr) (i : Nat) (s : St) (w : World) (hF : FontAt w F a w.heap.size) (hw : F.wf) (hl : F.steps.length ≤ 32510) (hi : i < F.steps.length) (hs : F.steps[i] = s) (h0 : i = 0) (h1 : 128 < s.skip) (h2 : s.skip = 255) :
    Calls Tryz.prog 59 #[fontV F a, .int .i64 i] w fun e w' => e = .returned (.bool true) ∧ Kept w w' := by
  obtain ⟨b, o, hA, hbl, hcell⟩ := hF.s (by omega)
  have hq := hcell i hi
  rw [hs] at hq
  obtain ⟨q0, q1, q2, q3⟩ := hq
  have hswf := hw.steps s (hs ▸ List.getElem_mem hi)
  obtain ⟨⟨p0, p0'⟩, ⟨p1, p1'⟩, ⟨p2, p2'⟩, ⟨p3, p3'⟩⟩ := hswf
  have hth := fun (x : Int) (hx : 0 ≤ x ∧ x ≤ 255) w' (hk : Kept w w') => Lib.hid (cthere_any F a x w' ((hF.kept hk).more hk.size) hw hx)
  have hbd := fun (x : Int) (hx : 0 ≤ x) w' (hk : Kept w w') => Lib.hid (cbound_any F a x w' ((hF.kept hk).more hk.size) (by omega) hx)
  obtain ⟨W, hW⟩ : ∃ W, W = (w.alloc (.cells #[.int .u32 F.check, .int .i64 F.design, .int .i64 F.first, .slice a.A0 F.chars.length a.c0, .slice a.A1 F.steps.length a.c1, .slice a.A2 F.kerns.length a.c2, .slice a.A3 F.pieces.length a.c3, .slice a.A4 F.params.length a.c4] 28)).alloc (.cells #[.int .u8 s.skip, .int .u8 s.next, .int .u8 s.op, .int .u8 s.rest] 71) := ⟨_, rfl⟩
  have hk0 : Kept w W := by rw [hW]; exact (walloc _ _).trans (walloc _ _)
  have hB : FBox W w.heap.size F a := by rw [hW]; exact FBox.kept (FBox.of_obj (mkobj _ _)) (walloc _ _)
  have hS : SBox W (w.heap.size + 1) s := by
    rw [hW]
    have := mkobj (w.alloc (.cells #[.int .u32 F.check, .int .i64 F.design, .int .i64 F.first, .slice a.A0 F.chars.length a.c0, .slice a.A1 F.steps.length a.c1, .slice a.A2 F.kerns.length a.c2, .slice a.A3 F.pieces.length a.c3, .slice a.A4 F.params.length a.c4] 28)) (.cells #[.int .u8 s.skip, .int .u8 s.next, .int .u8 s.op, .int .u8 s.rest] 71)
    exact SBox.of_obj (by simpa using this)
  have HW := Lib.hid hW
  have g0 : decide (128 < s.skip) = true := decide_eq_true (by omega)
  have g1 : ((i : Int) == 0) = true := by simp; omega
  have g2 : (s.skip == 255) = true := by simp; omega
  clear h0 h2
  clear hW hcell hF hw hs
  obtain ⟨A0, n0, A1, n1, A2, n2, A3, n3, A4, n4⟩ := a
  obtain rfl : A1 = some ⟨b, o, none⟩ := hA
  go_enter Tryz.func59, Tryz.ntmps59
  go_wp2_with (fail)
  go_ret
  exact ⟨ret_bool (by first | rfl | simp), (by repeat (first | exact Kept.refl _ | assumption | refine kalloc ?_ _ | refine Below.setCell ?_ (by simp; try omega) _ | refine below_drewN ?_ _ | refine Below.drew ?_))⟩

set_option maxRecDepth 100000 in
set_option maxHeartbeats 2000000 in
theorem cstep_A2 (F : Fnt) (a : FAddr) (i : Nat) (s : St) (w : World) (hF : FontAt w F a w.heap.size) (hw : F.wf) (hl : F.steps.length ≤ 32510) (hi : i < F.steps.length) (hs : F.steps[i] = s) (h0 : ¬ i = 0) (h1 : 128 < s.skip) :
    Calls Tryz.prog 59 #[fontV F a, .int .i64 i] w fun e w' => e = .returned (.bool (decide (256 * s.op + s.rest < F.steps.length))) ∧ Kept w w' := by
  obtain ⟨b, o, hA, hbl, hcell⟩ := hF.s (by omega)
  have hq := hcell i hi
  rw [hs] at hq
  obtain ⟨q0, q1, q2, q3⟩ := hq
  have hswf := hw.steps s (hs ▸ List.getElem_mem hi)
  obtain ⟨⟨p0, p0'⟩, ⟨p1, p1'⟩, ⟨p2, p2'⟩, ⟨p3, p3'⟩⟩ := hswf
  have hth := fun (x : Int) (hx : 0 ≤ x ∧ x ≤ 255) w' (hk : Kept w w') => Lib.hid (cthere_any F a x w' ((hF.kept hk).more hk.size) hw hx)
  have hbd := fun (x : Int) (hx : 0 ≤ x) w' (hk : Kept w w') => Lib.hid (cbound_any F a x w' ((hF.kept hk).more hk.size) (by omega) hx)
  obtain ⟨W, hW⟩ : ∃ W, W = (w.alloc (.cells #[.int .u32 F.check, .int .i64 F.design, .int .i64 F.first, .slice a.A0 F.chars.length a.c0, .slice a.A1 F.steps.length a.c1, .slice a.A2 F.kerns.length a.c2, .slice a.A3 F.pieces.length a.c3, .slice a.A4 F.params.length a.c4] 28)).alloc (.cells #[.int .u8 s.skip, .int .u8 s.next, .int .u8 s.op, .int .u8 s.rest] 71) := ⟨_, rfl⟩
  have hk0 : Kept w W := by rw [hW]; exact (walloc _ _).trans (walloc _ _)
  have hB : FBox W w.heap.size F a := by rw [hW]; exact FBox.kept (FBox.of_obj (mkobj _ _)) (walloc _ _)
  have hS : SBox W (w.heap.size + 1) s := by
    rw [hW]
    have := mkobj (w.alloc (.cells #[.int .u32 F.check, .int .i64 F.design, .int .i64 F.first, .slice a.A0 F.chars.length a.c0, .slice a.A1 F.steps.length a.c1, .slice a.A2 F.kerns.length a.c2, .slice a.A3 F.pieces.length a.c3, .slice a.A4 F.params.length a.c4] 28)) (.cells #[.int .u8 s.skip, .int .u8 s.next, .int .u8 s.op, .int .u8 s.rest] 71)
    exact SBox.of_obj (by simpa using this)
  have HW := Lib.hid hW
  have g0 : decide (128 < s.skip) = true := decide_eq_true (by omega)
  have g1 : ((i : Int) == 0) = false := by simp; omega
  clear h0
  clear hW hcell hF hw hs
  obtain ⟨A0, n0, A1, n1, A2, n2, A3, n3, A4, n4⟩ := a
  obtain rfl : A1 = some ⟨b, o, none⟩ := hA
  go_enter Tryz.func59, Tryz.ntmps59
  go_wp2_with (fail)
  go_ret
  exact ⟨ret_bool (by first | rfl | simp), (by repeat (first | exact Kept.refl _ | assumption | refine kalloc ?_ _ | refine Below.setCell ?_ (by simp; try omega) _ | refine below_drewN ?_ _ | refine Below.drew ?_))⟩

set_option maxRecDepth 100000 in
set_option maxHeartbeats 2000000 in
theorem cstep_A3 (F : Fnt) (a : FAddr) (i : Nat) (s : St) (w : World) (hF : FontAt w F a w.heap.size) (hw : F.wf) (hl : F.steps.length ≤ 32510) (hi : i < F.steps.length) (hs : F.steps[i] = s) (h0 : i = 0) (h1 : 128 < s.skip) (h2 : ¬ s.skip = 255) :
    Calls Tryz.prog 59 #[fontV F a, .int .i64 i] w fun e w' => e = .returned (.bool (decide (256 * s.op + s.rest < F.steps.length))) ∧ Kept w w' := by
  obtain ⟨b, o, hA, hbl, hcell⟩ := hF.s (by omega)
  have hq := hcell i hi
  rw [hs] at hq
  obtain ⟨q0, q1, q2, q3⟩ := hq
  have hswf := hw.steps s (hs ▸ List.getElem_mem hi)
  obtain ⟨⟨p0, p0'⟩, ⟨p1, p1'⟩, ⟨p2, p2'⟩, ⟨p3, p3'⟩⟩ := hswf
  have hth := fun (x : Int) (hx : 0 ≤ x ∧ x ≤ 255) w' (hk : Kept w w') => Lib.hid (cthere_any F a x w' ((hF.kept hk).more hk.size) hw hx)
  have hbd := fun (x : Int) (hx : 0 ≤ x) w' (hk : Kept w w') => Lib.hid (cbound_any F a x w' ((hF.kept hk).more hk.size) (by omega) hx)
  obtain ⟨W, hW⟩ : ∃ W, W = (w.alloc (.cells #[.int .u32 F.check, .int .i64 F.design, .int .i64 F.first, .slice a.A0 F.chars.length a.c0, .slice a.A1 F.steps.length a.c1, .slice a.A2 F.kerns.length a.c2, .slice a.A3 F.pieces.length a.c3, .slice a.A4 F.params.length a.c4] 28)).alloc (.cells #[.int .u8 s.skip, .int .u8 s.next, .int .u8 s.op, .int .u8 s.rest] 71) := ⟨_, rfl⟩
  have hk0 : Kept w W := by rw [hW]; exact (walloc _ _).trans (walloc _ _)
  have hB : FBox W w.heap.size F a := by rw [hW]; exact FBox.kept (FBox.of_obj (mkobj _ _)) (walloc _ _)
  have hS : SBox W (w.heap.size + 1) s := by
    rw [hW]
    have := mkobj (w.alloc (.cells #[.int .u32 F.check, .int .i64 F.design, .int .i64 F.first, .slice a.A0 F.chars.length a.c0, .slice a.A1 F.steps.length a.c1, .slice a.A2 F.kerns.length a.c2, .slice a.A3 F.pieces.length a.c3, .slice a.A4 F.params.length a.c4] 28)) (.cells #[.int .u8 s.skip, .int .u8 s.next, .int .u8 s.op, .int .u8 s.rest] 71)
    exact SBox.of_obj (by simpa using this)
  have HW := Lib.hid hW
  have g0 : decide (128 < s.skip) = true := decide_eq_true (by omega)
  have g1 : ((i : Int) == 0) = true := by simp; omega
  have g2 : (s.skip == 255) = false := by simp; omega
  clear h0 h2
  clear hW hcell hF hw hs
  obtain ⟨A0, n0, A1, n1, A2, n2, A3, n3, A4, n4⟩ := a
  obtain rfl : A1 = some ⟨b, o, none⟩ := hA
  go_enter Tryz.func59, Tryz.ntmps59
  go_wp2_with (fail)
  go_ret
  exact ⟨ret_bool (by first | rfl | simp), (by repeat (first | exact Kept.refl _ | assumption | refine kalloc ?_ _ | refine Below.setCell ?_ (by simp; try omega) _ | refine below_drewN ?_ _ | refine Below.drew ?_))⟩

set_option maxRecDepth 100000 in
set_option maxHeartbeats 2000000 in
theorem cstep_C1 (F : Fnt) (a : FAddr) (i : Nat) (s : St) (w : World) (hF : FontAt w F a w.heap.size) (hw : F.wf) (hl : F.steps.length ≤ 32510) (hi : i < F.steps.length) (hs : F.steps[i] = s) (h1 : ¬ 128 < s.skip) (h2 : s.skip < 128) (h3 : (F.steps.length : Int) ≤ i + s.skip + 1) :
    Calls Tryz.prog 59 #[fontV F a, .int .i64 i] w fun e w' => e = .returned (.bool false) ∧ Kept w w' := by
  obtain ⟨b, o, hA, hbl, hcell⟩ := hF.s (by omega)
  have hq := hcell i hi
  rw [hs] at hq
  obtain ⟨q0, q1, q2, q3⟩ := hq
  have hswf := hw.steps s (hs ▸ List.getElem_mem hi)
  obtain ⟨⟨p0, p0'⟩, ⟨p1, p1'⟩, ⟨p2, p2'⟩, ⟨p3, p3'⟩⟩ := hswf
  have hth := fun (x : Int) (hx : 0 ≤ x ∧ x ≤ 255) w' (hk : Kept w w') => Lib.hid (cthere_any F a x w' ((hF.kept hk).more hk.size) hw hx)
  have hbd := fun (x : Int) (hx : 0 ≤ x) w' (hk : Kept w w') => Lib.hid (cbound_any F a x w' ((hF.kept hk).more hk.size) (by omega) hx)
  obtain ⟨W, hW⟩ : ∃ W, W = (w.alloc (.cells #[.int .u32 F.check, .int .i64 F.design, .int .i64 F.first, .slice a.A0 F.chars.length a.c0, .slice a.A1 F.steps.length a.c1, .slice a.A2 F.kerns.length a.c2, .slice a.A3 F.pieces.length a.c3, .slice a.A4 F.params.length a.c4] 28)).alloc (.cells #[.int .u8 s.skip, .int .u8 s.next, .int .u8 s.op, .int .u8 s.rest] 71) := ⟨_, rfl⟩
  have hk0 : Kept w W := by rw [hW]; exact (walloc _ _).trans (walloc _ _)
  have hB : FBox W w.heap.size F a := by rw [hW]; exact FBox.kept (FBox.of_obj (mkobj _ _)) (walloc _ _)
  have hS : SBox W (w.heap.size + 1) s := by
    rw [hW]
    have := mkobj (w.alloc (.cells #[.int .u32 F.check, .int .i64 F.design, .int .i64 F.first, .slice a.A0 F.chars.length a.c0, .slice a.A1 F.steps.length a.c1, .slice a.A2 F.kerns.length a.c2, .slice a.A3 F.pieces.length a.c3, .slice a.A4 F.params.length a.c4] 28)) (.cells #[.int .u8 s.skip, .int .u8 s.next, .int .u8 s.op, .int .u8 s.rest] 71)
    exact SBox.of_obj (by simpa using this)
  have HW := Lib.hid hW
  have g0 : decide (128 < s.skip) = false := decide_eq_false (by omega)
  have g1 : decide (s.skip < 128) = true := decide_eq_true (by omega)
  have g2 : decide ((F.steps.length : Int) ≤ i + s.skip + 1) = true := decide_eq_true (by omega)
  clear hW hcell hF hw hs
  obtain ⟨A0, n0, A1, n1, A2, n2, A3, n3, A4, n4⟩ := a
  obtain rfl : A1 = some ⟨b, o, none⟩ := hA
  go_enter Tryz.func59, Tryz.ntmps59
  go_wp2_with (fail)
  go_ret
  exact ⟨ret_bool (by first | rfl | simp), (by repeat (first | exact Kept.refl _ | assumption | refine kalloc ?_ _ | refine Below.setCell ?_ (by simp; try omega) _ | refine below_drewN ?_ _ | refine Below.drew ?_))⟩

set_option maxRecDepth 100000 in
set_option maxHeartbeats 2000000 in
theorem cstep_aF (F : Fnt) (a : FAddr) (i : Nat) (s : St) (w : World) (hF : FontAt w F a w.heap.size) (hw : F.wf) (hl : F.steps.length ≤ 32510) (hi : i < F.steps.length) (hs : F.steps[i] = s) (h1 : ¬ 128 < s.skip) (h2 : s.skip < 128) (h3 : ¬ (F.steps.length : Int) ≤ i + s.skip + 1) (h4 : thB F s.next = false) (h5 : ¬ s.next = edge F) :
    Calls Tryz.prog 59 #[fontV F a, .int .i64 i] w fun e w' => e = .returned (.bool false) ∧ Kept w w' := by
  obtain ⟨b, o, hA, hbl, hcell⟩ := hF.s (by omega)
  have hq := hcell i hi
  rw [hs] at hq
  obtain ⟨q0, q1, q2, q3⟩ := hq
  have hswf := hw.steps s (hs ▸ List.getElem_mem hi)
  obtain ⟨⟨p0, p0'⟩, ⟨p1, p1'⟩, ⟨p2, p2'⟩, ⟨p3, p3'⟩⟩ := hswf
  have hth := fun (x : Int) (hx : 0 ≤ x ∧ x ≤ 255) w' (hk : Kept w w') => Lib.hid (cthere_any F a x w' ((hF.kept hk).more hk.size) hw hx)
  have hbd := fun (x : Int) (hx : 0 ≤ x) w' (hk : Kept w w') => Lib.hid (cbound_any F a x w' ((hF.kept hk).more hk.size) (by omega) hx)
  obtain ⟨W, hW⟩ : ∃ W, W = (w.alloc (.cells #[.int .u32 F.check, .int .i64 F.design, .int .i64 F.first, .slice a.A0 F.chars.length a.c0, .slice a.A1 F.steps.length a.c1, .slice a.A2 F.kerns.length a.c2, .slice a.A3 F.pieces.length a.c3, .slice a.A4 F.params.length a.c4] 28)).alloc (.cells #[.int .u8 s.skip, .int .u8 s.next, .int .u8 s.op, .int .u8 s.rest] 71) := ⟨_, rfl⟩
  have hk0 : Kept w W := by rw [hW]; exact (walloc _ _).trans (walloc _ _)
  have hB : FBox W w.heap.size F a := by rw [hW]; exact FBox.kept (FBox.of_obj (mkobj _ _)) (walloc _ _)
  have hS : SBox W (w.heap.size + 1) s := by
    rw [hW]
    have := mkobj (w.alloc (.cells #[.int .u32 F.check, .int .i64 F.design, .int .i64 F.first, .slice a.A0 F.chars.length a.c0, .slice a.A1 F.steps.length a.c1, .slice a.A2 F.kerns.length a.c2, .slice a.A3 F.pieces.length a.c3, .slice a.A4 F.params.length a.c4] 28)) (.cells #[.int .u8 s.skip, .int .u8 s.next, .int .u8 s.op, .int .u8 s.rest] 71)
    exact SBox.of_obj (by simpa using this)
  have HW := Lib.hid hW
  have g0 : decide (128 < s.skip) = false := decide_eq_false (by omega)
  have g1 : decide (s.skip < 128) = true := decide_eq_true (by omega)
  have g2 : decide ((F.steps.length : Int) ≤ i + s.skip + 1) = false := decide_eq_false (by omega)
  have ht := hth s.next ⟨p1, p1'⟩
  have hb := hbd s.next p1
  rw [h4] at ht
  rw [decide_eq_false h5] at hb
  clear h4 h5
  clear hW hcell hF hw hs
  obtain ⟨A0, n0, A1, n1, A2, n2, A3, n3, A4, n4⟩ := a
  obtain rfl : A1 = some ⟨b, o, none⟩ := hA
  go_enter Tryz.func59, Tryz.ntmps59
  go_wp2_with (fail)
  rw [← HW.out]
  refine (ht _ hk0).out.mono ?_
  rintro e w1 ⟨rfl, k1⟩
  have kW1 : Kept W w1 := k1
  have kw1 : Kept w w1 := hk0.trans kW1
  obtain ⟨x10, x11, x12, x13, x14, x15, x16, x17, x1l⟩ := hB.kept kW1
  obtain ⟨y10, y11, y12, y13, y1l⟩ := hS.kept kW1
  go_wp2_with (fail)
  refine (hb _ kw1).out.mono ?_
  rintro e w2 ⟨rfl, k2⟩
  have kW2 : Kept W w2 := kW1.trans k2
  have kw2 : Kept w w2 := hk0.trans kW2
  obtain ⟨x20, x21, x22, x23, x24, x25, x26, x27, x2l⟩ := hB.kept kW2
  obtain ⟨y20, y21, y22, y23, y2l⟩ := hS.kept kW2
  go_wp2_with (fail)
  go_ret
  exact ⟨ret_bool (by first | rfl | simp), kw2⟩

set_option maxRecDepth 100000 in
set_option maxHeartbeats 2000000 in
theorem cstep_aT1 (F : Fnt) (a : FAddr) (i : Nat) (s : St) (w : World) (hF : FontAt w F a w.heap.size) (hw : F.wf) (hl : F.steps.length ≤ 32510) (hi : i < F.steps.length) (hs : F.steps[i] = s) (h1 : ¬ 128 < s.skip) (h2 : s.skip < 128) (h3 : ¬ (F.steps.length : Int) ≤ i + s.skip + 1) (h4 : thB F s.next = true) (h6 : s.op < 128) :
    Calls Tryz.prog 59 #[fontV F a, .int .i64 i] w fun e w' => e = .returned (.bool (thB F s.rest)) ∧ Kept w w' := by
  obtain ⟨b, o, hA, hbl, hcell⟩ := hF.s (by omega)
  have hq := hcell i hi
  rw [hs] at hq
  obtain ⟨q0, q1, q2, q3⟩ := hq
  have hswf := hw.steps s (hs ▸ List.getElem_mem hi)
  obtain ⟨⟨p0, p0'⟩, ⟨p1, p1'⟩, ⟨p2, p2'⟩, ⟨p3, p3'⟩⟩ := hswf
  have hth := fun (x : Int) (hx : 0 ≤ x ∧ x ≤ 255) w' (hk : Kept w w') => Lib.hid (cthere_any F a x w' ((hF.kept hk).more hk.size) hw hx)
  have hbd := fun (x : Int) (hx : 0 ≤ x) w' (hk : Kept w w') => Lib.hid (cbound_any F a x w' ((hF.kept hk).more hk.size) (by omega) hx)
  obtain ⟨W, hW⟩ : ∃ W, W = (w.alloc (.cells #[.int .u32 F.check, .int .i64 F.design, .int .i64 F.first, .slice a.A0 F.chars.length a.c0, .slice a.A1 F.steps.length a.c1, .slice a.A2 F.kerns.length a.c2, .slice a.A3 F.pieces.length a.c3, .slice a.A4 F.params.length a.c4] 28)).alloc (.cells #[.int .u8 s.skip, .int .u8 s.next, .int .u8 s.op, .int .u8 s.rest] 71) := ⟨_, rfl⟩
  have hk0 : Kept w W := by rw [hW]; exact (walloc _ _).trans (walloc _ _)
  have hB : FBox W w.heap.size F a := by rw [hW]; exact FBox.kept (FBox.of_obj (mkobj _ _)) (walloc _ _)
  have hS : SBox W (w.heap.size + 1) s := by
    rw [hW]
    have := mkobj (w.alloc (.cells #[.int .u32 F.check, .int .i64 F.design, .int .i64 F.first, .slice a.A0 F.chars.length a.c0, .slice a.A1 F.steps.length a.c1, .slice a.A2 F.kerns.length a.c2, .slice a.A3 F.pieces.length a.c3, .slice a.A4 F.params.length a.c4] 28)) (.cells #[.int .u8 s.skip, .int .u8 s.next, .int .u8 s.op, .int .u8 s.rest] 71)
    exact SBox.of_obj (by simpa using this)
  have HW := Lib.hid hW
  have g0 : decide (128 < s.skip) = false := decide_eq_false (by omega)
  have g1 : decide (s.skip < 128) = true := decide_eq_true (by omega)
  have g2 : decide ((F.steps.length : Int) ≤ i + s.skip + 1) = false := decide_eq_false (by omega)
  have ht := hth s.next ⟨p1, p1'⟩
  rw [h4] at ht
  clear h4
  have g3 : decide (s.op < 128) = true := decide_eq_true (by omega)
  have hr := hth s.rest ⟨p3, p3'⟩
  generalize thB F s.rest = t at *
  clear hW hcell hF hw hs
  obtain ⟨A0, n0, A1, n1, A2, n2, A3, n3, A4, n4⟩ := a
  obtain rfl : A1 = some ⟨b, o, none⟩ := hA
  go_enter Tryz.func59, Tryz.ntmps59
  go_wp2_with (fail)
  rw [← HW.out]
  refine (ht _ hk0).out.mono ?_
  rintro e w1 ⟨rfl, k1⟩
  have kW1 : Kept W w1 := k1
  have kw1 : Kept w w1 := hk0.trans kW1
  obtain ⟨x10, x11, x12, x13, x14, x15, x16, x17, x1l⟩ := hB.kept kW1
  obtain ⟨y10, y11, y12, y13, y1l⟩ := hS.kept kW1
  go_wp2_with (fail)
  refine (hr _ kw1).out.mono ?_
  rintro e w2 ⟨rfl, k2⟩
  have kW2 : Kept W w2 := kW1.trans k2
  have kw2 : Kept w w2 := hk0.trans kW2
  obtain ⟨x20, x21, x22, x23, x24, x25, x26, x27, x2l⟩ := hB.kept kW2
  obtain ⟨y20, y21, y22, y23, y2l⟩ := hS.kept kW2
  go_wp2_with (fail)
  go_ret
  exact ⟨ret_bool (by first | rfl | simp), kw2⟩

set_option maxRecDepth 100000 in
set_option maxHeartbeats 2000000 in
theorem cstep_aT2 (F : Fnt) (a : FAddr) (i : Nat) (s : St) (w : World) (hF : FontAt w F a w.heap.size) (hw : F.wf) (hl : F.steps.length ≤ 32510) (hi : i < F.steps.length) (hs : F.steps[i] = s) (h1 : ¬ 128 < s.skip) (h2 : s.skip < 128) (h3 : ¬ (F.steps.length : Int) ≤ i + s.skip + 1) (h4 : thB F s.next = true) (h6 : ¬ s.op < 128) :
    Calls Tryz.prog 59 #[fontV F a, .int .i64 i] w fun e w' => e = .returned (.bool (decide (256 * (s.op - 128) + s.rest < F.kerns.length))) ∧ Kept w w' := by
  obtain ⟨b, o, hA, hbl, hcell⟩ := hF.s (by omega)
  have hq := hcell i hi
  rw [hs] at hq
  obtain ⟨q0, q1, q2, q3⟩ := hq
  have hswf := hw.steps s (hs ▸ List.getElem_mem hi)
  obtain ⟨⟨p0, p0'⟩, ⟨p1, p1'⟩, ⟨p2, p2'⟩, ⟨p3, p3'⟩⟩ := hswf
  have hth := fun (x : Int) (hx : 0 ≤ x ∧ x ≤ 255) w' (hk : Kept w w') => Lib.hid (cthere_any F a x w' ((hF.kept hk).more hk.size) hw hx)
  have hbd := fun (x : Int) (hx : 0 ≤ x) w' (hk : Kept w w') => Lib.hid (cbound_any F a x w' ((hF.kept hk).more hk.size) (by omega) hx)
  obtain ⟨W, hW⟩ : ∃ W, W = (w.alloc (.cells #[.int .u32 F.check, .int .i64 F.design, .int .i64 F.first, .slice a.A0 F.chars.length a.c0, .slice a.A1 F.steps.length a.c1, .slice a.A2 F.kerns.length a.c2, .slice a.A3 F.pieces.length a.c3, .slice a.A4 F.params.length a.c4] 28)).alloc (.cells #[.int .u8 s.skip, .int .u8 s.next, .int .u8 s.op, .int .u8 s.rest] 71) := ⟨_, rfl⟩
  have hk0 : Kept w W := by rw [hW]; exact (walloc _ _).trans (walloc _ _)
  have hB : FBox W w.heap.size F a := by rw [hW]; exact FBox.kept (FBox.of_obj (mkobj _ _)) (walloc _ _)
  have hS : SBox W (w.heap.size + 1) s := by
    rw [hW]
    have := mkobj (w.alloc (.cells #[.int .u32 F.check, .int .i64 F.design, .int .i64 F.first, .slice a.A0 F.chars.length a.c0, .slice a.A1 F.steps.length a.c1, .slice a.A2 F.kerns.length a.c2, .slice a.A3 F.pieces.length a.c3, .slice a.A4 F.params.length a.c4] 28)) (.cells #[.int .u8 s.skip, .int .u8 s.next, .int .u8 s.op, .int .u8 s.rest] 71)
    exact SBox.of_obj (by simpa using this)
  have HW := Lib.hid hW
  have g0 : decide (128 < s.skip) = false := decide_eq_false (by omega)
  have g1 : decide (s.skip < 128) = true := decide_eq_true (by omega)
  have g2 : decide ((F.steps.length : Int) ≤ i + s.skip + 1) = false := decide_eq_false (by omega)
  have ht := hth s.next ⟨p1, p1'⟩
  rw [h4] at ht
  clear h4
  have g3 : decide (s.op < 128) = false := decide_eq_false (by omega)
  clear hW hcell hF hw hs
  obtain ⟨A0, n0, A1, n1, A2, n2, A3, n3, A4, n4⟩ := a
  obtain rfl : A1 = some ⟨b, o, none⟩ := hA
  go_enter Tryz.func59, Tryz.ntmps59
  go_wp2_with (fail)
  rw [← HW.out]
  refine (ht _ hk0).out.mono ?_
  rintro e w1 ⟨rfl, k1⟩
  have kW1 : Kept W w1 := k1
  have kw1 : Kept w w1 := hk0.trans kW1
  obtain ⟨x10, x11, x12, x13, x14, x15, x16, x17, x1l⟩ := hB.kept kW1
  obtain ⟨y10, y11, y12, y13, y1l⟩ := hS.kept kW1
  go_wp2_with (fail)
  go_ret
  exact ⟨ret_bool (by first | rfl | simp), kw1⟩

set_option maxRecDepth 100000 in
set_option maxHeartbeats 2000000 in
theorem cstep_aE1 (F : Fnt) (a : FAddr) (i : Nat) (s : St) (w : World) (hF : FontAt w F a w.heap.size) (hw : F.wf) (hl : F.steps.length ≤ 32510) (hi : i < F.steps.length) (hs : F.steps[i] = s) (h1 : ¬ 128 < s.skip) (h2 : s.skip < 128) (h3 : ¬ (F.steps.length : Int) ≤ i + s.skip + 1) (h4 : thB F s.next = false) (h5 : s.next = edge F) (h6 : s.op < 128) :
    Calls Tryz.prog 59 #[fontV F a, .int .i64 i] w fun e w' => e = .returned (.bool (thB F s.rest)) ∧ Kept w w' := by
  obtain ⟨b, o, hA, hbl, hcell⟩ := hF.s (by omega)
  have hq := hcell i hi
  rw [hs] at hq
  obtain ⟨q0, q1, q2, q3⟩ := hq
  have hswf := hw.steps s (hs ▸ List.getElem_mem hi)
  obtain ⟨⟨p0, p0'⟩, ⟨p1, p1'⟩, ⟨p2, p2'⟩, ⟨p3, p3'⟩⟩ := hswf
  have hth := fun (x : Int) (hx : 0 ≤ x ∧ x ≤ 255) w' (hk : Kept w w') => Lib.hid (cthere_any F a x w' ((hF.kept hk).more hk.size) hw hx)
  have hbd := fun (x : Int) (hx : 0 ≤ x) w' (hk : Kept w w') => Lib.hid (cbound_any F a x w' ((hF.kept hk).more hk.size) (by omega) hx)
  obtain ⟨W, hW⟩ : ∃ W, W = (w.alloc (.cells #[.int .u32 F.check, .int .i64 F.design, .int .i64 F.first, .slice a.A0 F.chars.length a.c0, .slice a.A1 F.steps.length a.c1, .slice a.A2 F.kerns.length a.c2, .slice a.A3 F.pieces.length a.c3, .slice a.A4 F.params.length a.c4] 28)).alloc (.cells #[.int .u8 s.skip, .int .u8 s.next, .int .u8 s.op, .int .u8 s.rest] 71) := ⟨_, rfl⟩
  have hk0 : Kept w W := by rw [hW]; exact (walloc _ _).trans (walloc _ _)
  have hB : FBox W w.heap.size F a := by rw [hW]; exact FBox.kept (FBox.of_obj (mkobj _ _)) (walloc _ _)
  have hS : SBox W (w.heap.size + 1) s := by
    rw [hW]
    have := mkobj (w.alloc (.cells #[.int .u32 F.check, .int .i64 F.design, .int .i64 F.first, .slice a.A0 F.chars.length a.c0, .slice a.A1 F.steps.length a.c1, .slice a.A2 F.kerns.length a.c2, .slice a.A3 F.pieces.length a.c3, .slice a.A4 F.params.length a.c4] 28)) (.cells #[.int .u8 s.skip, .int .u8 s.next, .int .u8 s.op, .int .u8 s.rest] 71)
    exact SBox.of_obj (by simpa using this)
  have HW := Lib.hid hW
  have g0 : decide (128 < s.skip) = false := decide_eq_false (by omega)
  have g1 : decide (s.skip < 128) = true := decide_eq_true (by omega)
  have g2 : decide ((F.steps.length : Int) ≤ i + s.skip + 1) = false := decide_eq_false (by omega)
  have ht := hth s.next ⟨p1, p1'⟩
  have hb := hbd s.next p1
  rw [h4] at ht
  rw [decide_eq_true h5] at hb
  clear h4 h5
  have g3 : decide (s.op < 128) = true := decide_eq_true (by omega)
  have hr := hth s.rest ⟨p3, p3'⟩
  generalize thB F s.rest = t at *
  clear hW hcell hF hw hs
  obtain ⟨A0, n0, A1, n1, A2, n2, A3, n3, A4, n4⟩ := a
  obtain rfl : A1 = some ⟨b, o, none⟩ := hA
  go_enter Tryz.func59, Tryz.ntmps59
  go_wp2_with (fail)
  rw [← HW.out]
  refine (ht _ hk0).out.mono ?_
  rintro e w1 ⟨rfl, k1⟩
  have kW1 : Kept W w1 := k1
  have kw1 : Kept w w1 := hk0.trans kW1
  obtain ⟨x10, x11, x12, x13, x14, x15, x16, x17, x1l⟩ := hB.kept kW1
  obtain ⟨y10, y11, y12, y13, y1l⟩ := hS.kept kW1
  go_wp2_with (fail)
  refine (hb _ kw1).out.mono ?_
  rintro e w2 ⟨rfl, k2⟩
  have kW2 : Kept W w2 := kW1.trans k2
  have kw2 : Kept w w2 := hk0.trans kW2
  obtain ⟨x20, x21, x22, x23, x24, x25, x26, x27, x2l⟩ := hB.kept kW2
  obtain ⟨y20, y21, y22, y23, y2l⟩ := hS.kept kW2
  go_wp2_with (fail)
  refine (hr _ kw2).out.mono ?_
  rintro e w3 ⟨rfl, k3⟩
  have kW3 : Kept W w3 := kW2.trans k3
  have kw3 : Kept w w3 := hk0.trans kW3
  obtain ⟨x30, x31, x32, x33, x34, x35, x36, x37, x3l⟩ := hB.kept kW3
  obtain ⟨y30, y31, y32, y33, y3l⟩ := hS.kept kW3
  go_wp2_with (fail)
  go_ret
  exact ⟨ret_bool (by first | rfl | simp), kw3⟩

set_option maxRecDepth 100000 in
set_option maxHeartbeats 2000000 in
theorem cstep_aE2 (F : Fnt) (a : FAddr) (i : Nat) (s : St) (w : World) (hF : FontAt w F a w.heap.size) (hw : F.wf) (hl : F.steps.length ≤ 32510) (hi : i < F.steps.length) (hs : F.steps[i] = s) (h1 : ¬ 128 < s.skip) (h2 : s.skip < 128) (h3 : ¬ (F.steps.length : Int) ≤ i + s.skip + 1) (h4 : thB F s.next = false) (h5 : s.next = edge F) (h6 : ¬ s.op < 128) :
    Calls Tryz.prog 59 #[fontV F a, .int .i64 i] w fun e w' => e = .returned (.bool (decide (256 * (s.op - 128) + s.rest < F.kerns.length))) ∧ Kept w w' := by
  obtain ⟨b, o, hA, hbl, hcell⟩ := hF.s (by omega)
  have hq := hcell i hi
  rw [hs] at hq
  obtain ⟨q0, q1, q2, q3⟩ := hq
  have hswf := hw.steps s (hs ▸ List.getElem_mem hi)
  obtain ⟨⟨p0, p0'⟩, ⟨p1, p1'⟩, ⟨p2, p2'⟩, ⟨p3, p3'⟩⟩ := hswf
  have hth := fun (x : Int) (hx : 0 ≤ x ∧ x ≤ 255) w' (hk : Kept w w') => Lib.hid (cthere_any F a x w' ((hF.kept hk).more hk.size) hw hx)
  have hbd := fun (x : Int) (hx : 0 ≤ x) w' (hk : Kept w w') => Lib.hid (cbound_any F a x w' ((hF.kept hk).more hk.size) (by omega) hx)
  obtain ⟨W, hW⟩ : ∃ W, W = (w.alloc (.cells #[.int .u32 F.check, .int .i64 F.design, .int .i64 F.first, .slice a.A0 F.chars.length a.c0, .slice a.A1 F.steps.length a.c1, .slice a.A2 F.kerns.length a.c2, .slice a.A3 F.pieces.length a.c3, .slice a.A4 F.params.length a.c4] 28)).alloc (.cells #[.int .u8 s.skip, .int .u8 s.next, .int .u8 s.op, .int .u8 s.rest] 71) := ⟨_, rfl⟩
  have hk0 : Kept w W := by rw [hW]; exact (walloc _ _).trans (walloc _ _)
  have hB : FBox W w.heap.size F a := by rw [hW]; exact FBox.kept (FBox.of_obj (mkobj _ _)) (walloc _ _)
  have hS : SBox W (w.heap.size + 1) s := by
    rw [hW]
    have := mkobj (w.alloc (.cells #[.int .u32 F.check, .int .i64 F.design, .int .i64 F.first, .slice a.A0 F.chars.length a.c0, .slice a.A1 F.steps.length a.c1, .slice a.A2 F.kerns.length a.c2, .slice a.A3 F.pieces.length a.c3, .slice a.A4 F.params.length a.c4] 28)) (.cells #[.int .u8 s.skip, .int .u8 s.next, .int .u8 s.op, .int .u8 s.rest] 71)
    exact SBox.of_obj (by simpa using this)
  have HW := Lib.hid hW
  have g0 : decide (128 < s.skip) = false := decide_eq_false (by omega)
  have g1 : decide (s.skip < 128) = true := decide_eq_true (by omega)
  have g2 : decide ((F.steps.length : Int) ≤ i + s.skip + 1) = false := decide_eq_false (by omega)
  have ht := hth s.next ⟨p1, p1'⟩
  have hb := hbd s.next p1
  rw [h4] at ht
  rw [decide_eq_true h5] at hb
  clear h4 h5
  have g3 : decide (s.op < 128) = false := decide_eq_false (by omega)
  clear hW hcell hF hw hs
  obtain ⟨A0, n0, A1, n1, A2, n2, A3, n3, A4, n4⟩ := a
  obtain rfl : A1 = some ⟨b, o, none⟩ := hA
  go_enter Tryz.func59, Tryz.ntmps59
  go_wp2_with (fail)
  rw [← HW.out]
  refine (ht _ hk0).out.mono ?_
  rintro e w1 ⟨rfl, k1⟩
  have kW1 : Kept W w1 := k1
  have kw1 : Kept w w1 := hk0.trans kW1
  obtain ⟨x10, x11, x12, x13, x14, x15, x16, x17, x1l⟩ := hB.kept kW1
  obtain ⟨y10, y11, y12, y13, y1l⟩ := hS.kept kW1
  go_wp2_with (fail)
  refine (hb _ kw1).out.mono ?_
  rintro e w2 ⟨rfl, k2⟩
  have kW2 : Kept W w2 := kW1.trans k2
  have kw2 : Kept w w2 := hk0.trans kW2
  obtain ⟨x20, x21, x22, x23, x24, x25, x26, x27, x2l⟩ := hB.kept kW2
  obtain ⟨y20, y21, y22, y23, y2l⟩ := hS.kept kW2
  go_wp2_with (fail)
  go_ret
  exact ⟨ret_bool (by first | rfl | simp), kw2⟩

set_option maxRecDepth 100000 in
set_option maxHeartbeats 2000000 in
theorem cstep_bF (F : Fnt) (a : FAddr) (i : Nat) (s : St) (w : World) (hF : FontAt w F a w.heap.size) (hw : F.wf) (hl : F.steps.length ≤ 32510) (hi : i < F.steps.length) (hs : F.steps[i] = s) (h1 : ¬ 128 < s.skip) (h2 : ¬ s.skip < 128) (h4 : thB F s.next = false) (h5 : ¬ s.next = edge F) :
    Calls Tryz.prog 59 #[fontV F a, .int .i64 i] w fun e w' => e = .returned (.bool false) ∧ Kept w w' := by
  obtain ⟨b, o, hA, hbl, hcell⟩ := hF.s (by omega)
  have hq := hcell i hi
  rw [hs] at hq
  obtain ⟨q0, q1, q2, q3⟩ := hq
  have hswf := hw.steps s (hs ▸ List.getElem_mem hi)
  obtain ⟨⟨p0, p0'⟩, ⟨p1, p1'⟩, ⟨p2, p2'⟩, ⟨p3, p3'⟩⟩ := hswf
  have hth := fun (x : Int) (hx : 0 ≤ x ∧ x ≤ 255) w' (hk : Kept w w') => Lib.hid (cthere_any F a x w' ((hF.kept hk).more hk.size) hw hx)
  have hbd := fun (x : Int) (hx : 0 ≤ x) w' (hk : Kept w w') => Lib.hid (cbound_any F a x w' ((hF.kept hk).more hk.size) (by omega) hx)
  obtain ⟨W, hW⟩ : ∃ W, W = (w.alloc (.cells #[.int .u32 F.check, .int .i64 F.design, .int .i64 F.first, .slice a.A0 F.chars.length a.c0, .slice a.A1 F.steps.length a.c1, .slice a.A2 F.kerns.length a.c2, .slice a.A3 F.pieces.length a.c3, .slice a.A4 F.params.length a.c4] 28)).alloc (.cells #[.int .u8 s.skip, .int .u8 s.next, .int .u8 s.op, .int .u8 s.rest] 71) := ⟨_, rfl⟩
  have hk0 : Kept w W := by rw [hW]; exact (walloc _ _).trans (walloc _ _)
  have hB : FBox W w.heap.size F a := by rw [hW]; exact FBox.kept (FBox.of_obj (mkobj _ _)) (walloc _ _)
  have hS : SBox W (w.heap.size + 1) s := by
    rw [hW]
    have := mkobj (w.alloc (.cells #[.int .u32 F.check, .int .i64 F.design, .int .i64 F.first, .slice a.A0 F.chars.length a.c0, .slice a.A1 F.steps.length a.c1, .slice a.A2 F.kerns.length a.c2, .slice a.A3 F.pieces.length a.c3, .slice a.A4 F.params.length a.c4] 28)) (.cells #[.int .u8 s.skip, .int .u8 s.next, .int .u8 s.op, .int .u8 s.rest] 71)
    exact SBox.of_obj (by simpa using this)
  have HW := Lib.hid hW
  have g0 : decide (128 < s.skip) = false := decide_eq_false (by omega)
  have g1 : decide (s.skip < 128) = false := decide_eq_false (by omega)
  have ht := hth s.next ⟨p1, p1'⟩
  have hb := hbd s.next p1
  rw [h4] at ht
  rw [decide_eq_false h5] at hb
  clear h4 h5
  clear hW hcell hF hw hs
  obtain ⟨A0, n0, A1, n1, A2, n2, A3, n3, A4, n4⟩ := a
  obtain rfl : A1 = some ⟨b, o, none⟩ := hA
  go_enter Tryz.func59, Tryz.ntmps59
  go_wp2_with (fail)
  rw [← HW.out]
  refine (ht _ hk0).out.mono ?_
  rintro e w1 ⟨rfl, k1⟩
  have kW1 : Kept W w1 := k1
  have kw1 : Kept w w1 := hk0.trans kW1
  obtain ⟨x10, x11, x12, x13, x14, x15, x16, x17, x1l⟩ := hB.kept kW1
  obtain ⟨y10, y11, y12, y13, y1l⟩ := hS.kept kW1
  go_wp2_with (fail)
  refine (hb _ kw1).out.mono ?_
  rintro e w2 ⟨rfl, k2⟩
  have kW2 : Kept W w2 := kW1.trans k2
  have kw2 : Kept w w2 := hk0.trans kW2
  obtain ⟨x20, x21, x22, x23, x24, x25, x26, x27, x2l⟩ := hB.kept kW2
  obtain ⟨y20, y21, y22, y23, y2l⟩ := hS.kept kW2
  go_wp2_with (fail)
  go_ret
  exact ⟨ret_bool (by first | rfl | simp), kw2⟩

set_option maxRecDepth 100000 in
set_option maxHeartbeats 2000000 in
theorem cstep_bT1 (F : Fnt) (a : FAddr) (i : Nat) (s : St) (w : World) (hF : FontAt w F a w.heap.size) (hw : F.wf) (hl : F.steps.length ≤ 32510) (hi : i < F.steps.length) (hs : F.steps[i] = s) (h1 : ¬ 128 < s.skip) (h2 : ¬ s.skip < 128) (h4 : thB F s.next = true) (h6 : s.op < 128) :
    Calls Tryz.prog 59 #[fontV F a, .int .i64 i] w fun e w' => e = .returned (.bool (thB F s.rest)) ∧ Kept w w' := by
  obtain ⟨b, o, hA, hbl, hcell⟩ := hF.s (by omega)
  have hq := hcell i hi
  rw [hs] at hq
  obtain ⟨q0, q1, q2, q3⟩ := hq
  have hswf := hw.steps s (hs ▸ List.getElem_mem hi)
  obtain ⟨⟨p0, p0'⟩, ⟨p1, p1'⟩, ⟨p2, p2'⟩, ⟨p3, p3'⟩⟩ := hswf
  have hth := fun (x : Int) (hx : 0 ≤ x ∧ x ≤ 255) w' (hk : Kept w w') => Lib.hid (cthere_any F a x w' ((hF.kept hk).more hk.size) hw hx)
  have hbd := fun (x : Int) (hx : 0 ≤ x) w' (hk : Kept w w') => Lib.hid (cbound_any F a x w' ((hF.kept hk).more hk.size) (by omega) hx)
  obtain ⟨W, hW⟩ : ∃ W, W = (w.alloc (.cells #[.int .u32 F.check, .int .i64 F.design, .int .i64 F.first, .slice a.A0 F.chars.length a.c0, .slice a.A1 F.steps.length a.c1, .slice a.A2 F.kerns.length a.c2, .slice a.A3 F.pieces.length a.c3, .slice a.A4 F.params.length a.c4] 28)).alloc (.cells #[.int .u8 s.skip, .int .u8 s.next, .int .u8 s.op, .int .u8 s.rest] 71) := ⟨_, rfl⟩
  have hk0 : Kept w W := by rw [hW]; exact (walloc _ _).trans (walloc _ _)
  have hB : FBox W w.heap.size F a := by rw [hW]; exact FBox.kept (FBox.of_obj (mkobj _ _)) (walloc _ _)
  have hS : SBox W (w.heap.size + 1) s := by
    rw [hW]
    have := mkobj (w.alloc (.cells #[.int .u32 F.check, .int .i64 F.design, .int .i64 F.first, .slice a.A0 F.chars.length a.c0, .slice a.A1 F.steps.length a.c1, .slice a.A2 F.kerns.length a.c2, .slice a.A3 F.pieces.length a.c3, .slice a.A4 F.params.length a.c4] 28)) (.cells #[.int .u8 s.skip, .int .u8 s.next, .int .u8 s.op, .int .u8 s.rest] 71)
    exact SBox.of_obj (by simpa using this)
  have HW := Lib.hid hW
  have g0 : decide (128 < s.skip) = false := decide_eq_false (by omega)
  have g1 : decide (s.skip < 128) = false := decide_eq_false (by omega)
  have ht := hth s.next ⟨p1, p1'⟩
  rw [h4] at ht
  clear h4
  have g3 : decide (s.op < 128) = true := decide_eq_true (by omega)
  have hr := hth s.rest ⟨p3, p3'⟩
  generalize thB F s.rest = t at *
  clear hW hcell hF hw hs
  obtain ⟨A0, n0, A1, n1, A2, n2, A3, n3, A4, n4⟩ := a
  obtain rfl : A1 = some ⟨b, o, none⟩ := hA
  go_enter Tryz.func59, Tryz.ntmps59
  go_wp2_with (fail)
  rw [← HW.out]
  refine (ht _ hk0).out.mono ?_
  rintro e w1 ⟨rfl, k1⟩
  have kW1 : Kept W w1 := k1
  have kw1 : Kept w w1 := hk0.trans kW1
  obtain ⟨x10, x11, x12, x13, x14, x15, x16, x17, x1l⟩ := hB.kept kW1
  obtain ⟨y10, y11, y12, y13, y1l⟩ := hS.kept kW1
  go_wp2_with (fail)
  refine (hr _ kw1).out.mono ?_
  rintro e w2 ⟨rfl, k2⟩
  have kW2 : Kept W w2 := kW1.trans k2
  have kw2 : Kept w w2 := hk0.trans kW2
  obtain ⟨x20, x21, x22, x23, x24, x25, x26, x27, x2l⟩ := hB.kept kW2
  obtain ⟨y20, y21, y22, y23, y2l⟩ := hS.kept kW2
  go_wp2_with (fail)
  go_ret
  exact ⟨ret_bool (by first | rfl | simp), kw2⟩

set_option maxRecDepth 100000 in
set_option maxHeartbeats 2000000 in
theorem cstep_bT2 (F : Fnt) (a : FAddr) (i : Nat) (s : St) (w : World) (hF : FontAt w F a w.heap.size) (hw : F.wf) (hl : F.steps.length ≤ 32510) (hi : i < F.steps.length) (hs : F.steps[i] = s) (h1 : ¬ 128 < s.skip) (h2 : ¬ s.skip < 128) (h4 : thB F s.next = true) (h6 : ¬ s.op < 128) :
    Calls Tryz.prog 59 #[fontV F a, .int .i64 i] w fun e w' => e = .returned (.bool (decide (256 * (s.op - 128) + s.rest < F.kerns.length))) ∧ Kept w w' := by
  obtain ⟨b, o, hA, hbl, hcell⟩ := hF.s (by omega)
  have hq := hcell i hi
  rw [hs] at hq
  obtain ⟨q0, q1, q2, q3⟩ := hq
  have hswf := hw.steps s (hs ▸ List.getElem_mem hi)
  obtain ⟨⟨p0, p0'⟩, ⟨p1, p1'⟩, ⟨p2, p2'⟩, ⟨p3, p3'⟩⟩ := hswf
  have hth := fun (x : Int) (hx : 0 ≤ x ∧ x ≤ 255) w' (hk : Kept w w') => Lib.hid (cthere_any F a x w' ((hF.kept hk).more hk.size) hw hx)
  have hbd := fun (x : Int) (hx : 0 ≤ x) w' (hk : Kept w w') => Lib.hid (cbound_any F a x w' ((hF.kept hk).more hk.size) (by omega) hx)
  obtain ⟨W, hW⟩ : ∃ W, W = (w.alloc (.cells #[.int .u32 F.check, .int .i64 F.design, .int .i64 F.first, .slice a.A0 F.chars.length a.c0, .slice a.A1 F.steps.length a.c1, .slice a.A2 F.kerns.length a.c2, .slice a.A3 F.pieces.length a.c3, .slice a.A4 F.params.length a.c4] 28)).alloc (.cells #[.int .u8 s.skip, .int .u8 s.next, .int .u8 s.op, .int .u8 s.rest] 71) := ⟨_, rfl⟩
  have hk0 : Kept w W := by rw [hW]; exact (walloc _ _).trans (walloc _ _)
  have hB : FBox W w.heap.size F a := by rw [hW]; exact FBox.kept (FBox.of_obj (mkobj _ _)) (walloc _ _)
  have hS : SBox W (w.heap.size + 1) s := by
    rw [hW]
    have := mkobj (w.alloc (.cells #[.int .u32 F.check, .int .i64 F.design, .int .i64 F.first, .slice a.A0 F.chars.length a.c0, .slice a.A1 F.steps.length a.c1, .slice a.A2 F.kerns.length a.c2, .slice a.A3 F.pieces.length a.c3, .slice a.A4 F.params.length a.c4] 28)) (.cells #[.int .u8 s.skip, .int .u8 s.next, .int .u8 s.op, .int .u8 s.rest] 71)
    exact SBox.of_obj (by simpa using this)
  have HW := Lib.hid hW
  have g0 : decide (128 < s.skip) = false := decide_eq_false (by omega)
  have g1 : decide (s.skip < 128) = false := decide_eq_false (by omega)
  have ht := hth s.next ⟨p1, p1'⟩
  rw [h4] at ht
  clear h4
  have g3 : decide (s.op < 128) = false := decide_eq_false (by omega)
  clear hW hcell hF hw hs
  obtain ⟨A0, n0, A1, n1, A2, n2, A3, n3, A4, n4⟩ := a
  obtain rfl : A1 = some ⟨b, o, none⟩ := hA
  go_enter Tryz.func59, Tryz.ntmps59
  go_wp2_with (fail)
  rw [← HW.out]
  refine (ht _ hk0).out.mono ?_
  rintro e w1 ⟨rfl, k1⟩
  have kW1 : Kept W w1 := k1
  have kw1 : Kept w w1 := hk0.trans kW1
  obtain ⟨x10, x11, x12, x13, x14, x15, x16, x17, x1l⟩ := hB.kept kW1
  obtain ⟨y10, y11, y12, y13, y1l⟩ := hS.kept kW1
  go_wp2_with (fail)
  go_ret
  exact ⟨ret_bool (by first | rfl | simp), kw1⟩

set_option maxRecDepth 100000 in
set_option maxHeartbeats 2000000 in
theorem cstep_bE1 (F : Fnt) (a : FAddr) (i : Nat) (s : St) (w : World) (hF : FontAt w F a w.heap.size) (hw : F.wf) (hl : F.steps.length ≤ 32510) (hi : i < F.steps.length) (hs : F.steps[i] = s) (h1 : ¬ 128 < s.skip) (h2 : ¬ s.skip < 128) (h4 : thB F s.next = false) (h5 : s.next = edge F) (h6 : s.op < 128) :
    Calls Tryz.prog 59 #[fontV F a, .int .i64 i] w fun e w' => e = .returned (.bool (thB F s.rest)) ∧ Kept w w' := by
  obtain ⟨b, o, hA, hbl, hcell⟩ := hF.s (by omega)
  have hq := hcell i hi
  rw [hs] at hq
  obtain ⟨q0, q1, q2, q3⟩ := hq
  have hswf := hw.steps s (hs ▸ List.getElem_mem hi)
  obtain ⟨⟨p0, p0'⟩, ⟨p1, p1'⟩, ⟨p2, p2'⟩, ⟨p3, p3'⟩⟩ := hswf
  have hth := fun (x : Int) (hx : 0 ≤ x ∧ x ≤ 255) w' (hk : Kept w w') => Lib.hid (cthere_any F a x w' ((hF.kept hk).more hk.size) hw hx)
  have hbd := fun (x : Int) (hx : 0 ≤ x) w' (hk : Kept w w') => Lib.hid (cbound_any F a x w' ((hF.kept hk).more hk.size) (by omega) hx)
  obtain ⟨W, hW⟩ : ∃ W, W = (w.alloc (.cells #[.int .u32 F.check, .int .i64 F.design, .int .i64 F.first, .slice a.A0 F.chars.length a.c0, .slice a.A1 F.steps.length a.c1, .slice a.A2 F.kerns.length a.c2, .slice a.A3 F.pieces.length a.c3, .slice a.A4 F.params.length a.c4] 28)).alloc (.cells #[.int .u8 s.skip, .int .u8 s.next, .int .u8 s.op, .int .u8 s.rest] 71) := ⟨_, rfl⟩
  have hk0 : Kept w W := by rw [hW]; exact (walloc _ _).trans (walloc _ _)
  have hB : FBox W w.heap.size F a := by rw [hW]; exact FBox.kept (FBox.of_obj (mkobj _ _)) (walloc _ _)
  have hS : SBox W (w.heap.size + 1) s := by
    rw [hW]
    have := mkobj (w.alloc (.cells #[.int .u32 F.check, .int .i64 F.design, .int .i64 F.first, .slice a.A0 F.chars.length a.c0, .slice a.A1 F.steps.length a.c1, .slice a.A2 F.kerns.length a.c2, .slice a.A3 F.pieces.length a.c3, .slice a.A4 F.params.length a.c4] 28)) (.cells #[.int .u8 s.skip, .int .u8 s.next, .int .u8 s.op, .int .u8 s.rest] 71)
    exact SBox.of_obj (by simpa using this)
  have HW := Lib.hid hW
  have g0 : decide (128 < s.skip) = false := decide_eq_false (by omega)
  have g1 : decide (s.skip < 128) = false := decide_eq_false (by omega)
  have ht := hth s.next ⟨p1, p1'⟩
  have hb := hbd s.next p1
  rw [h4] at ht
  rw [decide_eq_true h5] at hb
  clear h4 h5
  have g3 : decide (s.op < 128) = true := decide_eq_true (by omega)
  have hr := hth s.rest ⟨p3, p3'⟩
  generalize thB F s.rest = t at *
  clear hW hcell hF hw hs
  obtain ⟨A0, n0, A1, n1, A2, n2, A3, n3, A4, n4⟩ := a
  obtain rfl : A1 = some ⟨b, o, none⟩ := hA
  go_enter Tryz.func59, Tryz.ntmps59
  go_wp2_with (fail)
  rw [← HW.out]
  refine (ht _ hk0).out.mono ?_
  rintro e w1 ⟨rfl, k1⟩
  have kW1 : Kept W w1 := k1
  have kw1 : Kept w w1 := hk0.trans kW1
  obtain ⟨x10, x11, x12, x13, x14, x15, x16, x17, x1l⟩ := hB.kept kW1
  obtain ⟨y10, y11, y12, y13, y1l⟩ := hS.kept kW1
  go_wp2_with (fail)
  refine (hb _ kw1).out.mono ?_
  rintro e w2 ⟨rfl, k2⟩
  have kW2 : Kept W w2 := kW1.trans k2
  have kw2 : Kept w w2 := hk0.trans kW2
  obtain ⟨x20, x21, x22, x23, x24, x25, x26, x27, x2l⟩ := hB.kept kW2
  obtain ⟨y20, y21, y22, y23, y2l⟩ := hS.kept kW2
  go_wp2_with (fail)
  refine (hr _ kw2).out.mono ?_
  rintro e w3 ⟨rfl, k3⟩
  have kW3 : Kept W w3 := kW2.trans k3
  have kw3 : Kept w w3 := hk0.trans kW3
  obtain ⟨x30, x31, x32, x33, x34, x35, x36, x37, x3l⟩ := hB.kept kW3
  obtain ⟨y30, y31, y32, y33, y3l⟩ := hS.kept kW3
  go_wp2_with (fail)
  go_ret
  exact ⟨ret_bool (by first | rfl | simp), kw3⟩

set_option maxRecDepth 100000 in
set_option maxHeartbeats 2000000 in
theorem cstep_bE2 (F : Fnt) (a : FAddr) (i : Nat) (s : St) (w : World) (hF : FontAt w F a w.heap.size) (hw : F.wf) (hl : F.steps.length ≤ 32510) (hi : i < F.steps.length) (hs : F.steps[i] = s) (h1 : ¬ 128 < s.skip) (h2 : ¬ s.skip < 128) (h4 : thB F s.next = false) (h5 : s.next = edge F) (h6 : ¬ s.op < 128) :
    Calls Tryz.prog 59 #[fontV F a, .int .i64 i] w fun e w' => e = .returned (.bool (decide (256 * (s.op - 128) + s.rest < F.kerns.length))) ∧ Kept w w' := by
  obtain ⟨b, o, hA, hbl, hcell⟩ := hF.s (by omega)
  have hq := hcell i hi
  rw [hs] at hq
  obtain ⟨q0, q1, q2, q3⟩ := hq
  have hswf := hw.steps s (hs ▸ List.getElem_mem hi)
  obtain ⟨⟨p0, p0'⟩, ⟨p1, p1'⟩, ⟨p2, p2'⟩, ⟨p3, p3'⟩⟩ := hswf
  have hth := fun (x : Int) (hx : 0 ≤ x ∧ x ≤ 255) w' (hk : Kept w w') => Lib.hid (cthere_any F a x w' ((hF.kept hk).more hk.size) hw hx)
  have hbd := fun (x : Int) (hx : 0 ≤ x) w' (hk : Kept w w') => Lib.hid (cbound_any F a x w' ((hF.kept hk).more hk.size) (by omega) hx)
  obtain ⟨W, hW⟩ : ∃ W, W = (w.alloc (.cells #[.int .u32 F.check, .int .i64 F.design, .int .i64 F.first, .slice a.A0 F.chars.length a.c0, .slice a.A1 F.steps.length a.c1, .slice a.A2 F.kerns.length a.c2, .slice a.A3 F.pieces.length a.c3, .slice a.A4 F.params.length a.c4] 28)).alloc (.cells #[.int .u8 s.skip, .int .u8 s.next, .int .u8 s.op, .int .u8 s.rest] 71) := ⟨_, rfl⟩
  have hk0 : Kept w W := by rw [hW]; exact (walloc _ _).trans (walloc _ _)
  have hB : FBox W w.heap.size F a := by rw [hW]; exact FBox.kept (FBox.of_obj (mkobj _ _)) (walloc _ _)
  have hS : SBox W (w.heap.size + 1) s := by
    rw [hW]
    have := mkobj (w.alloc (.cells #[.int .u32 F.check, .int .i64 F.design, .int .i64 F.first, .slice a.A0 F.chars.length a.c0, .slice a.A1 F.steps.length a.c1, .slice a.A2 F.kerns.length a.c2, .slice a.A3 F.pieces.length a.c3, .slice a.A4 F.params.length a.c4] 28)) (.cells #[.int .u8 s.skip, .int .u8 s.next, .int .u8 s.op, .int .u8 s.rest] 71)
    exact SBox.of_obj (by simpa using this)
  have HW := Lib.hid hW
  have g0 : decide (128 < s.skip) = false := decide_eq_false (by omega)
  have g1 : decide (s.skip < 128) = false := decide_eq_false (by omega)
  have ht := hth s.next ⟨p1, p1'⟩
  have hb := hbd s.next p1
  rw [h4] at ht
  rw [decide_eq_true h5] at hb
  clear h4 h5
  have g3 : decide (s.op < 128) = false := decide_eq_false (by omega)
  clear hW hcell hF hw hs
  obtain ⟨A0, n0, A1, n1, A2, n2, A3, n3, A4, n4⟩ := a
  obtain rfl : A1 = some ⟨b, o, none⟩ := hA
  go_enter Tryz.func59, Tryz.ntmps59
  go_wp2_with (fail)
  rw [← HW.out]
  refine (ht _ hk0).out.mono ?_
  rintro e w1 ⟨rfl, k1⟩
  have kW1 : Kept W w1 := k1
  have kw1 : Kept w w1 := hk0.trans kW1
  obtain ⟨x10, x11, x12, x13, x14, x15, x16, x17, x1l⟩ := hB.kept kW1
  obtain ⟨y10, y11, y12, y13, y1l⟩ := hS.kept kW1
  go_wp2_with (fail)
  refine (hb _ kw1).out.mono ?_
  rintro e w2 ⟨rfl, k2⟩
  have kW2 : Kept W w2 := kW1.trans k2
  have kw2 : Kept w w2 := hk0.trans kW2
  obtain ⟨x20, x21, x22, x23, x24, x25, x26, x27, x2l⟩ := hB.kept kW2
  obtain ⟨y20, y21, y22, y23, y2l⟩ := hS.kept kW2
  go_wp2_with (fail)
  go_ret
  exact ⟨ret_bool (by first | rfl | simp), kw2⟩

theorem cstep_any (F : Fnt) (a : FAddr) (i : Nat) (w : World) (hF : FontAt w F a w.heap.size) (hw : F.wf) (hl : F.steps.length ≤ 32510) (hi : i < F.steps.length) :
    Calls Tryz.prog 59 #[fontV F a, .int .i64 i] w fun e w' => e = .returned (.bool (stepB F i)) ∧ Kept w w' := by
  rw [stepB_of hi]
  obtain ⟨s, hs⟩ : ∃ s, F.steps[i] = s := ⟨_, rfl⟩
  rw [hs]
  unfold stB
  by_cases h1 : 128 < s.skip
  · rw [if_pos h1]
    by_cases h0 : i = 0
    · by_cases h2 : s.skip = 255
      · rw [if_pos ⟨h0, h2⟩]; exact cstep_A1 F a i s w hF hw hl hi hs h0 h1 h2
      · rw [if_neg (by omega)]; exact cstep_A3 F a i s w hF hw hl hi hs h0 h1 h2
    · rw [if_neg (by omega)]; exact cstep_A2 F a i s w hF hw hl hi hs h0 h1
  · rw [if_neg h1]
    by_cases h2 : s.skip < 128
    · by_cases h3 : (F.steps.length : Int) ≤ i + s.skip + 1
      · have e : ∀ X : Bool, (if thB F s.next = false ∧ ¬ s.next = edge F then false else if s.skip < 128 ∧ (F.steps.length : Int) ≤ i + s.skip + 1 then false else X) = false := fun X => by
          split
          · rfl
          · rw [if_pos ⟨h2, h3⟩]
        rw [e]; exact cstep_C1 F a i s w hF hw hl hi hs h1 h2 h3
      · cases h4 : thB F s.next with
        | true =>
          rw [if_neg (by simp), if_neg (by omega)]
          by_cases h6 : s.op < 128
          · rw [if_pos h6]; exact cstep_aT1 F a i s w hF hw hl hi hs h1 h2 h3 h4 h6
          · rw [if_neg h6]; exact cstep_aT2 F a i s w hF hw hl hi hs h1 h2 h3 h4 h6
        | false =>
          by_cases h5 : s.next = edge F
          · rw [if_neg (by simp [h5]), if_neg (by omega)]
            by_cases h6 : s.op < 128
            · rw [if_pos h6]; exact cstep_aE1 F a i s w hF hw hl hi hs h1 h2 h3 h4 h5 h6
            · rw [if_neg h6]; exact cstep_aE2 F a i s w hF hw hl hi hs h1 h2 h3 h4 h5 h6
          · rw [if_pos ⟨rfl, h5⟩]; exact cstep_aF F a i s w hF hw hl hi hs h1 h2 h3 h4 h5
    · cases h4 : thB F s.next with
      | true =>
        rw [if_neg (by simp), if_neg (by omega)]
        by_cases h6 : s.op < 128
        · rw [if_pos h6]; exact cstep_bT1 F a i s w hF hw hl hi hs h1 h2 h4 h6
        · rw [if_neg h6]; exact cstep_bT2 F a i s w hF hw hl hi hs h1 h2 h4 h6
      | false =>
        by_cases h5 : s.next = edge F
        · rw [if_neg (by simp [h5]), if_neg (by omega)]
          by_cases h6 : s.op < 128
          · rw [if_pos h6]; exact cstep_bE1 F a i s w hF hw hl hi hs h1 h2 h4 h5 h6
          · rw [if_neg h6]; exact cstep_bE2 F a i s w hF hw hl hi hs h1 h2 h4 h5 h6
        · rw [if_pos ⟨rfl, h5⟩]; exact cstep_bF F a i s w hF hw hl hi hs h1 h2 h4 h5
end Go.Proofs.YtdhidpbenhmfgaaGreat
