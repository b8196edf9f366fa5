/- font.countsOf. -/
import Derived.Test.YtdhidpbenhmfgaaGreatM17
namespace Go.Proofs.YtdhidpbenhmfgaaGreat
open Go.RowKit

set_option maxRecDepth 100000 in
set_option maxHeartbeats 8000000 in
theorem countsOf_none (F : Fnt) (a : FAddr) (A0 A1 A2 A3 : Option Addr) (n0 n1 n2 n3 c0 c1 c2 c3 : Nat) (w : World) (hf : 0 ≤ F.first ∧ F.first ≤ 255) (hl : F.chars.length ≤ 256) (hs : F.steps.length ≤ 32510) (hk : F.kerns.length ≤ 32768) (hp : F.pieces.length ≤ 256) (hq : F.params.length ≤ 255) (hn0 : n0 ≤ 1000) (hn1 : n1 ≤ 1000) (hn2 : n2 ≤ 1000) (hn3 : n3 ≤ 1000) (h : F.chars.length = 0) :
    Calls Tryz.prog 22 #[fontV F a, .agg #[.slice A0 n0 c0, .slice A1 n1 c1, .slice A2 n2 c2, .slice A3 n3 c3]] w fun e w' => e = .returned (cntA { (⟨0, 2, 1, 0, n0, n1, n2, n3, F.steps.length, F.kerns.length, F.pieces.length, F.params.length⟩ : Cnt) with lf := wordsC ⟨0, 2, 1, 0, n0, n1, n2, n3, F.steps.length, F.kerns.length, F.pieces.length, F.params.length⟩ }) ∧ Kept w w' := by
  obtain ⟨f0, f1⟩ := hf
  have hw := fun w' => Lib.hid (words_any ⟨0, 2, 1, 0, n0, n1, n2, n3, F.steps.length, F.kerns.length, F.pieces.length, F.params.length⟩ w' ⟨by dsimp only; omega, by dsimp only; omega, by dsimp only; omega, by dsimp only; omega, by dsimp only; omega, by dsimp only; omega, by dsimp only; omega, by dsimp only; omega, by dsimp only; omega, by dsimp only; omega, by dsimp only; omega⟩)
  generalize wordsC ⟨0, 2, 1, 0, n0, n1, n2, n3, F.steps.length, F.kerns.length, F.pieces.length, F.params.length⟩ = q at *
  have z : ((F.chars.length : Int) == 0) = true := by simp [h]
  clear h
  obtain ⟨W, hW⟩ : ∃ W, W = (((w.alloc (.cells #[.int .u32 F.check, .int .i64 F.design, .int .i64 F.first, .slice a.A0 F.chars.length a.c0, .slice a.A1 F.steps.length a.c1, .slice a.A2 F.kerns.length a.c2, .slice a.A3 F.pieces.length a.c3, .slice a.A4 F.params.length a.c4] 28)).alloc (.cells #[.slice A0 n0 c0, .slice A1 n1 c1, .slice A2 n2 c2, .slice A3 n3 c3] 58)).alloc (.cells #[.int .i64 0, .int .i64 0, .int .i64 0, .int .i64 0, .int .i64 0, .int .i64 0, .int .i64 0, .int .i64 0, .int .i64 0, .int .i64 0, .int .i64 0, .int .i64 0] 61)).alloc (.cells #[.int .i64 0, .int .i64 2, .int .i64 (1), .int .i64 (0), .int .i64 n0, .int .i64 n1, .int .i64 n2, .int .i64 n3, .int .i64 F.steps.length, .int .i64 F.kerns.length, .int .i64 F.pieces.length, .int .i64 F.params.length] 61) := ⟨_, rfl⟩
  have hk0 : Kept w W := by rw [hW]; exact (((walloc _ _).trans (walloc _ _)).trans (walloc _ _)).trans (walloc _ _)
  have hws : W.heap.size = w.heap.size + 4 := by rw [hW]; simp
  have hR : W.heap[w.heap.size + 2]? = some (.cells #[.int .i64 0, .int .i64 0, .int .i64 0, .int .i64 0, .int .i64 0, .int .i64 0, .int .i64 0, .int .i64 0, .int .i64 0, .int .i64 0, .int .i64 0, .int .i64 0] 61 (0, 0)) := by
    rw [hW, (walloc _ _).block (w.heap.size + 2) (by simp)]
    have := mkobj ((w.alloc (.cells #[.int .u32 F.check, .int .i64 F.design, .int .i64 F.first, .slice a.A0 F.chars.length a.c0, .slice a.A1 F.steps.length a.c1, .slice a.A2 F.kerns.length a.c2, .slice a.A3 F.pieces.length a.c3, .slice a.A4 F.params.length a.c4] 28)).alloc (.cells #[.slice A0 n0 c0, .slice A1 n1 c1, .slice A2 n2 c2, .slice A3 n3 c3] 58)) (.cells #[.int .i64 0, .int .i64 0, .int .i64 0, .int .i64 0, .int .i64 0, .int .i64 0, .int .i64 0, .int .i64 0, .int .i64 0, .int .i64 0, .int .i64 0, .int .i64 0] 61)
    simpa using this
  have hN : W.heap[w.heap.size + 3]? = some (.cells #[.int .i64 0, .int .i64 2, .int .i64 (1), .int .i64 (0), .int .i64 n0, .int .i64 n1, .int .i64 n2, .int .i64 n3, .int .i64 F.steps.length, .int .i64 F.kerns.length, .int .i64 F.pieces.length, .int .i64 F.params.length] 61 (0, 0)) := by
    rw [hW]
    have := mkobj (((w.alloc (.cells #[.int .u32 F.check, .int .i64 F.design, .int .i64 F.first, .slice a.A0 F.chars.length a.c0, .slice a.A1 F.steps.length a.c1, .slice a.A2 F.kerns.length a.c2, .slice a.A3 F.pieces.length a.c3, .slice a.A4 F.params.length a.c4] 28)).alloc (.cells #[.slice A0 n0 c0, .slice A1 n1 c1, .slice A2 n2 c2, .slice A3 n3 c3] 58)).alloc (.cells #[.int .i64 0, .int .i64 0, .int .i64 0, .int .i64 0, .int .i64 0, .int .i64 0, .int .i64 0, .int .i64 0, .int .i64 0, .int .i64 0, .int .i64 0, .int .i64 0] 61)) (.cells #[.int .i64 0, .int .i64 2, .int .i64 (1), .int .i64 (0), .int .i64 n0, .int .i64 n1, .int .i64 n2, .int .i64 n3, .int .i64 F.steps.length, .int .i64 F.kerns.length, .int .i64 F.pieces.length, .int .i64 F.params.length] 61)
    simpa using this
  have HW := Lib.hid hW
  obtain ⟨F0, F1, F2, F3, F4, F5, F6, F7⟩ := a
  clear hW
  go_enter Tryz.func22, Tryz.ntmps22
  go_wp2_with (fail)
  rw [← HW.out]
  refine (hw _).out.mono ?_
  rintro e w1 ⟨rfl, k1⟩
  obtain ⟨r0, r1, r2, r3, r4, r5, r6, r7, r8, r9, r10, r11, rf, rl⟩ := cells12 ((k1.block (w.heap.size + 2) (by omega)).trans hR)
  obtain ⟨s0, s1, s2, s3, s4, s5, s6, s7, s8, s9, s10, s11, sf, sl⟩ := cells12 ((k1.block (w.heap.size + 3) (by omega)).trans hN)
  have kw := hk0.trans k1
  clear hR hN
  have hsz : (Tryz.prog.info? 61).map (·.size) = some 12 := by kernel_rfl
  have hrg : (w1.setCell ⟨w.heap.size + 3, 0, none⟩ (.int .i64 q)).rangeAt (w.heap.size + 3) 0 [.int .i64 q, .int .i64 2, .int .i64 (1), .int .i64 (0), .int .i64 n0, .int .i64 n1, .int .i64 n2, .int .i64 n3, .int .i64 F.steps.length, .int .i64 F.kerns.length, .int .i64 F.pieces.length, .int .i64 F.params.length] := by
    have hoth : ∀ j v, j ≠ 0 → w1.cell? ⟨w.heap.size + 3, j, none⟩ = some v → (w1.setCell ⟨w.heap.size + 3, 0, none⟩ (.int .i64 q)).cell? ⟨w.heap.size + 3, 0 + j, none⟩ = some v := fun j v hj h => by
      rw [World.cell?_setCell_other _ _ _ _ (by intro e; injection e; omega), Nat.zero_add]; exact h
    intro j v hv
    match j with
    | 0 => simp at hv; subst hv; exact World.cell?_setCell_same _ _ _ s0
    | 1 => simp at hv; subst hv; exact hoth 1 _ (by omega) s1
    | 2 => simp at hv; subst hv; exact hoth 2 _ (by omega) s2
    | 3 => simp at hv; subst hv; exact hoth 3 _ (by omega) s3
    | 4 => simp at hv; subst hv; exact hoth 4 _ (by omega) s4
    | 5 => simp at hv; subst hv; exact hoth 5 _ (by omega) s5
    | 6 => simp at hv; subst hv; exact hoth 6 _ (by omega) s6
    | 7 => simp at hv; subst hv; exact hoth 7 _ (by omega) s7
    | 8 => simp at hv; subst hv; exact hoth 8 _ (by omega) s8
    | 9 => simp at hv; subst hv; exact hoth 9 _ (by omega) s9
    | 10 => simp at hv; subst hv; exact hoth 10 _ (by omega) s10
    | 11 => simp at hv; subst hv; exact hoth 11 _ (by omega) s11
    | j + 12 => simp at hv
  have hth : (w1.setCell ⟨w.heap.size + 3, 0, none⟩ (.int .i64 q)).there (w.heap.size + 2) 0 12 := by
    have hoth : ∀ j v, w1.cell? ⟨w.heap.size + 2, j, none⟩ = some v → ((w1.setCell ⟨w.heap.size + 3, 0, none⟩ (.int .i64 q)).cell? ⟨w.heap.size + 2, 0 + j, none⟩).isSome = true ∧ (w1.setCell ⟨w.heap.size + 3, 0, none⟩ (.int .i64 q)).frozen? ⟨w.heap.size + 2, 0 + j, none⟩ = false := fun j v h => by
      rw [World.cell?_setCell_other _ _ _ _ (by intro e; injection e; omega), Nat.zero_add, h]
      exact ⟨rfl, by have := rf j; simpa using this⟩
    intro j hj
    match j, hj with
    | 0, _ => exact hoth 0 _ r0
    | 1, _ => exact hoth 1 _ r1
    | 2, _ => exact hoth 2 _ r2
    | 3, _ => exact hoth 3 _ r3
    | 4, _ => exact hoth 4 _ r4
    | 5, _ => exact hoth 5 _ r5
    | 6, _ => exact hoth 6 _ r6
    | 7, _ => exact hoth 7 _ r7
    | 8, _ => exact hoth 8 _ r8
    | 9, _ => exact hoth 9 _ r9
    | 10, _ => exact hoth 10 _ r10
    | 11, _ => exact hoth 11 _ r11
  have hone : (#[.int .i64 q, .int .i64 2, .int .i64 (1), .int .i64 (0), .int .i64 n0, .int .i64 n1, .int .i64 n2, .int .i64 n3, .int .i64 F.steps.length, .int .i64 F.kerns.length, .int .i64 F.pieces.length, .int .i64 F.params.length] : Array Value).all (·.oneCell') = true := all_oneCell_toArray (fun v hv => by simp only [List.mem_cons, List.not_mem_nil, or_false] at hv; rcases hv with rfl | rfl | rfl | rfl | rfl | rfl | rfl | rfl | rfl | rfl | rfl | rfl <;> rfl)
  go_wp2_with (first | (refine wpList_load_mid rfl 61 _ rfl (w.heap.size + 3) 0 rfl _ _ hrg Tryz.underlying61 rfl hsz ?_) | (refine wpList_store_mid rfl 61 _ _ rfl (w.heap.size + 2) 0 _ rfl rfl hth hsz hone ?_))
  generalize hWf : (World.setCells _ _ _ _) = Wf
  have hrs : Wf.rangeAt (w.heap.size + 2) 0 [.int .i64 q, .int .i64 2, .int .i64 (1), .int .i64 (0), .int .i64 n0, .int .i64 n1, .int .i64 n2, .int .i64 n3, .int .i64 F.steps.length, .int .i64 F.kerns.length, .int .i64 F.pieces.length, .int .i64 F.params.length] := by rw [← hWf]; exact World.rangeAt_setCells_same _ _ _ _ (by simpa using hth)
  have f0 : Wf.cell? ⟨w.heap.size + 1 + 1, 0, none⟩ = some _ := hrs 0 _ rfl
  have f1 : Wf.cell? ⟨w.heap.size + 1 + 1, 1, none⟩ = some _ := hrs 1 _ rfl
  have f2 : Wf.cell? ⟨w.heap.size + 1 + 1, 2, none⟩ = some _ := hrs 2 _ rfl
  have f3 : Wf.cell? ⟨w.heap.size + 1 + 1, 3, none⟩ = some _ := hrs 3 _ rfl
  have f4 : Wf.cell? ⟨w.heap.size + 1 + 1, 4, none⟩ = some _ := hrs 4 _ rfl
  have f5 : Wf.cell? ⟨w.heap.size + 1 + 1, 5, none⟩ = some _ := hrs 5 _ rfl
  have f6 : Wf.cell? ⟨w.heap.size + 1 + 1, 6, none⟩ = some _ := hrs 6 _ rfl
  have f7 : Wf.cell? ⟨w.heap.size + 1 + 1, 7, none⟩ = some _ := hrs 7 _ rfl
  have f8 : Wf.cell? ⟨w.heap.size + 1 + 1, 8, none⟩ = some _ := hrs 8 _ rfl
  have f9 : Wf.cell? ⟨w.heap.size + 1 + 1, 9, none⟩ = some _ := hrs 9 _ rfl
  have f10 : Wf.cell? ⟨w.heap.size + 1 + 1, 10, none⟩ = some _ := hrs 10 _ rfl
  have f11 : Wf.cell? ⟨w.heap.size + 1 + 1, 11, none⟩ = some _ := hrs 11 _ rfl
  have kf : Kept w Wf := by rw [← hWf]; exact below_setCells _ _ _ (Below.setCell kw (by simp; try omega) _) (by omega)
  clear hWf hrs hth hrg hone
  exact bodyPost_ret (v := cntA ⟨q, 2, 1, 0, n0, n1, n2, n3, F.steps.length, F.kerns.length, F.pieces.length, F.params.length⟩) (by simp [results, Tryz.results22, go_sem, f0, f1, f2, f3, f4, f5, f6, f7, f8, f9, f10, f11]) rfl ⟨rfl, kf⟩

set_option maxRecDepth 100000 in
set_option maxHeartbeats 8000000 in
theorem countsOf_some (F : Fnt) (a : FAddr) (A0 A1 A2 A3 : Option Addr) (n0 n1 n2 n3 c0 c1 c2 c3 : Nat) (w : World) (hf : 0 ≤ F.first ∧ F.first ≤ 255) (hl : F.chars.length ≤ 256) (hs : F.steps.length ≤ 32510) (hk : F.kerns.length ≤ 32768) (hp : F.pieces.length ≤ 256) (hq : F.params.length ≤ 255) (hn0 : n0 ≤ 1000) (hn1 : n1 ≤ 1000) (hn2 : n2 ≤ 1000) (hn3 : n3 ≤ 1000) (h : 0 < F.chars.length) :
    Calls Tryz.prog 22 #[fontV F a, .agg #[.slice A0 n0 c0, .slice A1 n1 c1, .slice A2 n2 c2, .slice A3 n3 c3]] w fun e w' => e = .returned (cntA { (⟨0, 2, F.first, F.first + F.chars.length - 1, n0, n1, n2, n3, F.steps.length, F.kerns.length, F.pieces.length, F.params.length⟩ : Cnt) with lf := wordsC ⟨0, 2, F.first, F.first + F.chars.length - 1, n0, n1, n2, n3, F.steps.length, F.kerns.length, F.pieces.length, F.params.length⟩ }) ∧ Kept w w' := by
  obtain ⟨f0, f1⟩ := hf
  have hw := fun w' => Lib.hid (words_any ⟨0, 2, F.first, F.first + F.chars.length - 1, n0, n1, n2, n3, F.steps.length, F.kerns.length, F.pieces.length, F.params.length⟩ w' ⟨by dsimp only; omega, by dsimp only; omega, by dsimp only; omega, by dsimp only; omega, by dsimp only; omega, by dsimp only; omega, by dsimp only; omega, by dsimp only; omega, by dsimp only; omega, by dsimp only; omega, by dsimp only; omega⟩)
  generalize wordsC ⟨0, 2, F.first, F.first + F.chars.length - 1, n0, n1, n2, n3, F.steps.length, F.kerns.length, F.pieces.length, F.params.length⟩ = q at *
  have z : ((F.chars.length : Int) == 0) = false := beq_eq_false_iff_ne.2 (by omega)
  obtain ⟨W, hW⟩ : ∃ W, W = (((w.alloc (.cells #[.int .u32 F.check, .int .i64 F.design, .int .i64 F.first, .slice a.A0 F.chars.length a.c0, .slice a.A1 F.steps.length a.c1, .slice a.A2 F.kerns.length a.c2, .slice a.A3 F.pieces.length a.c3, .slice a.A4 F.params.length a.c4] 28)).alloc (.cells #[.slice A0 n0 c0, .slice A1 n1 c1, .slice A2 n2 c2, .slice A3 n3 c3] 58)).alloc (.cells #[.int .i64 0, .int .i64 0, .int .i64 0, .int .i64 0, .int .i64 0, .int .i64 0, .int .i64 0, .int .i64 0, .int .i64 0, .int .i64 0, .int .i64 0, .int .i64 0] 61)).alloc (.cells #[.int .i64 0, .int .i64 2, .int .i64 (F.first), .int .i64 (F.first + F.chars.length - 1), .int .i64 n0, .int .i64 n1, .int .i64 n2, .int .i64 n3, .int .i64 F.steps.length, .int .i64 F.kerns.length, .int .i64 F.pieces.length, .int .i64 F.params.length] 61) := ⟨_, rfl⟩
  have hk0 : Kept w W := by rw [hW]; exact (((walloc _ _).trans (walloc _ _)).trans (walloc _ _)).trans (walloc _ _)
  have hws : W.heap.size = w.heap.size + 4 := by rw [hW]; simp
  have hR : W.heap[w.heap.size + 2]? = some (.cells #[.int .i64 0, .int .i64 0, .int .i64 0, .int .i64 0, .int .i64 0, .int .i64 0, .int .i64 0, .int .i64 0, .int .i64 0, .int .i64 0, .int .i64 0, .int .i64 0] 61 (0, 0)) := by
    rw [hW, (walloc _ _).block (w.heap.size + 2) (by simp)]
    have := mkobj ((w.alloc (.cells #[.int .u32 F.check, .int .i64 F.design, .int .i64 F.first, .slice a.A0 F.chars.length a.c0, .slice a.A1 F.steps.length a.c1, .slice a.A2 F.kerns.length a.c2, .slice a.A3 F.pieces.length a.c3, .slice a.A4 F.params.length a.c4] 28)).alloc (.cells #[.slice A0 n0 c0, .slice A1 n1 c1, .slice A2 n2 c2, .slice A3 n3 c3] 58)) (.cells #[.int .i64 0, .int .i64 0, .int .i64 0, .int .i64 0, .int .i64 0, .int .i64 0, .int .i64 0, .int .i64 0, .int .i64 0, .int .i64 0, .int .i64 0, .int .i64 0] 61)
    simpa using this
  have hN : W.heap[w.heap.size + 3]? = some (.cells #[.int .i64 0, .int .i64 2, .int .i64 (F.first), .int .i64 (F.first + F.chars.length - 1), .int .i64 n0, .int .i64 n1, .int .i64 n2, .int .i64 n3, .int .i64 F.steps.length, .int .i64 F.kerns.length, .int .i64 F.pieces.length, .int .i64 F.params.length] 61 (0, 0)) := by
    rw [hW]
    have := mkobj (((w.alloc (.cells #[.int .u32 F.check, .int .i64 F.design, .int .i64 F.first, .slice a.A0 F.chars.length a.c0, .slice a.A1 F.steps.length a.c1, .slice a.A2 F.kerns.length a.c2, .slice a.A3 F.pieces.length a.c3, .slice a.A4 F.params.length a.c4] 28)).alloc (.cells #[.slice A0 n0 c0, .slice A1 n1 c1, .slice A2 n2 c2, .slice A3 n3 c3] 58)).alloc (.cells #[.int .i64 0, .int .i64 0, .int .i64 0, .int .i64 0, .int .i64 0, .int .i64 0, .int .i64 0, .int .i64 0, .int .i64 0, .int .i64 0, .int .i64 0, .int .i64 0] 61)) (.cells #[.int .i64 0, .int .i64 2, .int .i64 (F.first), .int .i64 (F.first + F.chars.length - 1), .int .i64 n0, .int .i64 n1, .int .i64 n2, .int .i64 n3, .int .i64 F.steps.length, .int .i64 F.kerns.length, .int .i64 F.pieces.length, .int .i64 F.params.length] 61)
    simpa using this
  have HW := Lib.hid hW
  obtain ⟨F0, F1, F2, F3, F4, F5, F6, F7⟩ := a
  clear hW
  go_enter Tryz.func22, Tryz.ntmps22
  go_wp2_with (fail)
  rw [← HW.out]
  refine (hw _).out.mono ?_
  rintro e w1 ⟨rfl, k1⟩
  obtain ⟨r0, r1, r2, r3, r4, r5, r6, r7, r8, r9, r10, r11, rf, rl⟩ := cells12 ((k1.block (w.heap.size + 2) (by omega)).trans hR)
  obtain ⟨s0, s1, s2, s3, s4, s5, s6, s7, s8, s9, s10, s11, sf, sl⟩ := cells12 ((k1.block (w.heap.size + 3) (by omega)).trans hN)
  have kw := hk0.trans k1
  clear hR hN
  have hsz : (Tryz.prog.info? 61).map (·.size) = some 12 := by kernel_rfl
  have hrg : (w1.setCell ⟨w.heap.size + 3, 0, none⟩ (.int .i64 q)).rangeAt (w.heap.size + 3) 0 [.int .i64 q, .int .i64 2, .int .i64 (F.first), .int .i64 (F.first + F.chars.length - 1), .int .i64 n0, .int .i64 n1, .int .i64 n2, .int .i64 n3, .int .i64 F.steps.length, .int .i64 F.kerns.length, .int .i64 F.pieces.length, .int .i64 F.params.length] := by
    have hoth : ∀ j v, j ≠ 0 → w1.cell? ⟨w.heap.size + 3, j, none⟩ = some v → (w1.setCell ⟨w.heap.size + 3, 0, none⟩ (.int .i64 q)).cell? ⟨w.heap.size + 3, 0 + j, none⟩ = some v := fun j v hj h => by
      rw [World.cell?_setCell_other _ _ _ _ (by intro e; injection e; omega), Nat.zero_add]; exact h
    intro j v hv
    match j with
    | 0 => simp at hv; subst hv; exact World.cell?_setCell_same _ _ _ s0
    | 1 => simp at hv; subst hv; exact hoth 1 _ (by omega) s1
    | 2 => simp at hv; subst hv; exact hoth 2 _ (by omega) s2
    | 3 => simp at hv; subst hv; exact hoth 3 _ (by omega) s3
    | 4 => simp at hv; subst hv; exact hoth 4 _ (by omega) s4
    | 5 => simp at hv; subst hv; exact hoth 5 _ (by omega) s5
    | 6 => simp at hv; subst hv; exact hoth 6 _ (by omega) s6
    | 7 => simp at hv; subst hv; exact hoth 7 _ (by omega) s7
    | 8 => simp at hv; subst hv; exact hoth 8 _ (by omega) s8
    | 9 => simp at hv; subst hv; exact hoth 9 _ (by omega) s9
    | 10 => simp at hv; subst hv; exact hoth 10 _ (by omega) s10
    | 11 => simp at hv; subst hv; exact hoth 11 _ (by omega) s11
    | j + 12 => simp at hv
  have hth : (w1.setCell ⟨w.heap.size + 3, 0, none⟩ (.int .i64 q)).there (w.heap.size + 2) 0 12 := by
    have hoth : ∀ j v, w1.cell? ⟨w.heap.size + 2, j, none⟩ = some v → ((w1.setCell ⟨w.heap.size + 3, 0, none⟩ (.int .i64 q)).cell? ⟨w.heap.size + 2, 0 + j, none⟩).isSome = true ∧ (w1.setCell ⟨w.heap.size + 3, 0, none⟩ (.int .i64 q)).frozen? ⟨w.heap.size + 2, 0 + j, none⟩ = false := fun j v h => by
      rw [World.cell?_setCell_other _ _ _ _ (by intro e; injection e; omega), Nat.zero_add, h]
      exact ⟨rfl, by have := rf j; simpa using this⟩
    intro j hj
    match j, hj with
    | 0, _ => exact hoth 0 _ r0
    | 1, _ => exact hoth 1 _ r1
    | 2, _ => exact hoth 2 _ r2
    | 3, _ => exact hoth 3 _ r3
    | 4, _ => exact hoth 4 _ r4
    | 5, _ => exact hoth 5 _ r5
    | 6, _ => exact hoth 6 _ r6
    | 7, _ => exact hoth 7 _ r7
    | 8, _ => exact hoth 8 _ r8
    | 9, _ => exact hoth 9 _ r9
    | 10, _ => exact hoth 10 _ r10
    | 11, _ => exact hoth 11 _ r11
  have hone : (#[.int .i64 q, .int .i64 2, .int .i64 (F.first), .int .i64 (F.first + F.chars.length - 1), .int .i64 n0, .int .i64 n1, .int .i64 n2, .int .i64 n3, .int .i64 F.steps.length, .int .i64 F.kerns.length, .int .i64 F.pieces.length, .int .i64 F.params.length] : Array Value).all (·.oneCell') = true := all_oneCell_toArray (fun v hv => by simp only [List.mem_cons, List.not_mem_nil, or_false] at hv; rcases hv with rfl | rfl | rfl | rfl | rfl | rfl | rfl | rfl | rfl | rfl | rfl | rfl <;> rfl)
  go_wp2_with (first | (refine wpList_load_mid rfl 61 _ rfl (w.heap.size + 3) 0 rfl _ _ hrg Tryz.underlying61 rfl hsz ?_) | (refine wpList_store_mid rfl 61 _ _ rfl (w.heap.size + 2) 0 _ rfl rfl hth hsz hone ?_))
  generalize hWf : (World.setCells _ _ _ _) = Wf
  have hrs : Wf.rangeAt (w.heap.size + 2) 0 [.int .i64 q, .int .i64 2, .int .i64 (F.first), .int .i64 (F.first + F.chars.length - 1), .int .i64 n0, .int .i64 n1, .int .i64 n2, .int .i64 n3, .int .i64 F.steps.length, .int .i64 F.kerns.length, .int .i64 F.pieces.length, .int .i64 F.params.length] := by rw [← hWf]; exact World.rangeAt_setCells_same _ _ _ _ (by simpa using hth)
  have f0 : Wf.cell? ⟨w.heap.size + 1 + 1, 0, none⟩ = some _ := hrs 0 _ rfl
  have f1 : Wf.cell? ⟨w.heap.size + 1 + 1, 1, none⟩ = some _ := hrs 1 _ rfl
  have f2 : Wf.cell? ⟨w.heap.size + 1 + 1, 2, none⟩ = some _ := hrs 2 _ rfl
  have f3 : Wf.cell? ⟨w.heap.size + 1 + 1, 3, none⟩ = some _ := hrs 3 _ rfl
  have f4 : Wf.cell? ⟨w.heap.size + 1 + 1, 4, none⟩ = some _ := hrs 4 _ rfl
  have f5 : Wf.cell? ⟨w.heap.size + 1 + 1, 5, none⟩ = some _ := hrs 5 _ rfl
  have f6 : Wf.cell? ⟨w.heap.size + 1 + 1, 6, none⟩ = some _ := hrs 6 _ rfl
  have f7 : Wf.cell? ⟨w.heap.size + 1 + 1, 7, none⟩ = some _ := hrs 7 _ rfl
  have f8 : Wf.cell? ⟨w.heap.size + 1 + 1, 8, none⟩ = some _ := hrs 8 _ rfl
  have f9 : Wf.cell? ⟨w.heap.size + 1 + 1, 9, none⟩ = some _ := hrs 9 _ rfl
  have f10 : Wf.cell? ⟨w.heap.size + 1 + 1, 10, none⟩ = some _ := hrs 10 _ rfl
  have f11 : Wf.cell? ⟨w.heap.size + 1 + 1, 11, none⟩ = some _ := hrs 11 _ rfl
  have kf : Kept w Wf := by rw [← hWf]; exact below_setCells _ _ _ (Below.setCell kw (by simp; try omega) _) (by omega)
  clear hWf hrs hth hrg hone
  exact bodyPost_ret (v := cntA ⟨q, 2, F.first, F.first + F.chars.length - 1, n0, n1, n2, n3, F.steps.length, F.kerns.length, F.pieces.length, F.params.length⟩) (by simp [results, Tryz.results22, go_sem, f0, f1, f2, f3, f4, f5, f6, f7, f8, f9, f10, f11]) rfl ⟨rfl, kf⟩

theorem countsOf_any (F : Fnt) (a : FAddr) (A0 A1 A2 A3 : Option Addr) (n0 n1 n2 n3 c0 c1 c2 c3 : Nat) (w : World) (hf : 0 ≤ F.first ∧ F.first ≤ 255) (hl : F.chars.length ≤ 256) (hs : F.steps.length ≤ 32510) (hk : F.kerns.length ≤ 32768) (hp : F.pieces.length ≤ 256) (hq : F.params.length ≤ 255) (hn0 : n0 ≤ 1000) (hn1 : n1 ≤ 1000) (hn2 : n2 ≤ 1000) (hn3 : n3 ≤ 1000) :
    Calls Tryz.prog 22 #[fontV F a, .agg #[.slice A0 n0 c0, .slice A1 n1 c1, .slice A2 n2 c2, .slice A3 n3 c3]] w fun e w' => e = .returned (cntA (cntOf F n0 n1 n2 n3)) ∧ Kept w w' := by
  unfold cntOf cnt0
  by_cases h : F.chars.length = 0
  · rw [if_pos h, if_pos h]; exact countsOf_none F a A0 A1 A2 A3 n0 n1 n2 n3 c0 c1 c2 c3 w hf hl hs hk hp hq hn0 hn1 hn2 hn3 h
  · rw [if_neg h, if_neg h]; exact countsOf_some F a A0 A1 A2 A3 n0 n1 n2 n3 c0 c1 c2 c3 w hf hl hs hk hp hq hn0 hn1 hn2 hn3 (by omega)
end Go.Proofs.YtdhidpbenhmfgaaGreat
