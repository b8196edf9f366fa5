/- font.dimensOf. -/
import Derived.Test.YtdhidpbenhmfgaaGreatDims0
namespace Go.Proofs.YtdhidpbenhmfgaaGreat
open Go.RowKit

set_option maxRecDepth 100000 in
set_option maxHeartbeats 8000000 in
theorem dimensOf_any (F : Fnt) (a : FAddr) (w : World) (hF : FontAt w F a w.heap.size) (hl : F.chars.length ≤ 256) :
    Calls Tryz.prog 21 #[fontV F a] w fun e w' => ∃ u0 u1 u2 u3, e = .returned (.agg #[u0, u1, u2, u3]) ∧ Rows4 w' w.heap.size u0 u1 u2 u3 (0 :: risingL (colW F.chars)) (0 :: noZero (risingL (colH F.chars))) (0 :: noZero (risingL (colD F.chars))) (0 :: noZero (risingL (colI F.chars))) ∧ Kept w w' := by
  obtain ⟨i0, hi, hz0, hz1, hz2⟩ := info_parts infoInt
  obtain ⟨W, hW⟩ : ∃ W, W = ((w.alloc (.cells #[.int .u32 F.check, .int .i64 F.design, .int .i64 F.first, .slice a.A0 F.chars.length a.c0, .slice a.A1 F.steps.length a.c1, .slice a.A2 F.kerns.length a.c2, .slice a.A3 F.pieces.length a.c3, .slice a.A4 F.params.length a.c4] 28)).alloc (.cells #[.slice none 0 0, .slice none 0 0, .slice none 0 0, .slice none 0 0] 58)).alloc (.cells #[.slice none 0 0, .slice none 0 0, .slice none 0 0, .slice none 0 0] 58) := ⟨_, rfl⟩
  obtain ⟨R, hR⟩ : ∃ R, R = w.heap.size + 1 := ⟨_, rfl⟩
  obtain ⟨D, hD⟩ : ∃ D, D = w.heap.size + 2 := ⟨_, rfl⟩
  have hk0 : Kept w W := by rw [hW]; exact ((walloc _ _).trans (walloc _ _)).trans (walloc _ _)
  have hB : FBox W w.heap.size F a := by rw [hW]; exact FBox.kept (FBox.kept (FBox.of_obj (mkobj _ _)) (walloc _ _)) (walloc _ _)
  have hRo : DObj W R (.slice none 0 0) (.slice none 0 0) (.slice none 0 0) (.slice none 0 0) := by
    rw [hW, hR]
    have h1 := mkobj (w.alloc (.cells #[.int .u32 F.check, .int .i64 F.design, .int .i64 F.first, .slice a.A0 F.chars.length a.c0, .slice a.A1 F.steps.length a.c1, .slice a.A2 F.kerns.length a.c2, .slice a.A3 F.pieces.length a.c3, .slice a.A4 F.params.length a.c4] 28)) (.cells #[.slice none 0 0, .slice none 0 0, .slice none 0 0, .slice none 0 0] 58)
    have h2 := (walloc ((w.alloc (.cells #[.int .u32 F.check, .int .i64 F.design, .int .i64 F.first, .slice a.A0 F.chars.length a.c0, .slice a.A1 F.steps.length a.c1, .slice a.A2 F.kerns.length a.c2, .slice a.A3 F.pieces.length a.c3, .slice a.A4 F.params.length a.c4] 28)).alloc (.cells #[.slice none 0 0, .slice none 0 0, .slice none 0 0, .slice none 0 0] 58)) (.cells #[.slice none 0 0, .slice none 0 0, .slice none 0 0, .slice none 0 0] 58)).block (w.heap.size + 1) (by simp)
    unfold DObj
    rw [h2]
    simpa using h1
  have hDo : DObj W D (.slice none 0 0) (.slice none 0 0) (.slice none 0 0) (.slice none 0 0) := by
    rw [hW, hD]
    have h1 := mkobj ((w.alloc (.cells #[.int .u32 F.check, .int .i64 F.design, .int .i64 F.first, .slice a.A0 F.chars.length a.c0, .slice a.A1 F.steps.length a.c1, .slice a.A2 F.kerns.length a.c2, .slice a.A3 F.pieces.length a.c3, .slice a.A4 F.params.length a.c4] 28)).alloc (.cells #[.slice none 0 0, .slice none 0 0, .slice none 0 0, .slice none 0 0] 58)) (.cells #[.slice none 0 0, .slice none 0 0, .slice none 0 0, .slice none 0 0] 58)
    unfold DObj
    simpa using h1
  have hFW : ∀ wr, Below D W wr → FBox wr w.heap.size F a := fun wr hb =>
    have q : ∀ o, wr.cell? ⟨w.heap.size, o, none⟩ = W.cell? ⟨w.heap.size, o, none⟩ := fun o => hb.cell (p := ⟨w.heap.size, o, none⟩) (by show w.heap.size < D; omega)
    ⟨(q 0).trans hB.b0, (q 1).trans hB.b1, (q 2).trans hB.b2, (q 3).trans hB.b3, (q 4).trans hB.b4, (q 5).trans hB.b5, (q 6).trans hB.b6, (q 7).trans hB.b7, Nat.lt_of_lt_of_le hB.lt hb.size⟩
  have hend : ∀ wr, Below D W wr → Kept w wr := fun wr hb => Below.trans hk0 (hb.mono (by omega))
  have HFm := Lib.hid hF.m
  have HW := Lib.hid hW
  have HR := Lib.hid hR
  have HD := Lib.hid hD
  have hRD : R < D := by omega
  have hwR : w.heap.size < R := by omega
  have hwD : w.heap.size < D := by omega
  have hRD1 : R < D + 1 := by omega
  have hwD1 : w.heap.size ≤ D + 1 := by omega
  have hwR1 : w.heap.size ≤ R := by omega
  clear hW hF hB hk0
  have hR' : w.heap.size + 1 = R := hR.symm
  have hD' : R + 1 = D := by omega
  have hRs := Lib.hid hR
  clear hR hD
  go_enter Tryz.func21, Tryz.ntmps21
  go_wp2_with (fail)
  rw [← HW.out]
  clear hR' hD'
  go_loopw [9] (fun s9 wr => DimLoop F W R D s9 wr) (fun s9 _ => F.chars.length - (intOf s9).toNat)
  case atStart => exact ⟨0, _, _, _, _, Nat.zero_le _, rfl, hDo, hRo, ⟨World.ownsRow_nil _ _ _ _, World.ownsRow_nil _ _ _ _, World.ownsRow_nil _ _ _ _, World.ownsRow_nil _ _ _ _, apart_nil _, apart_nil _, apart_nil _, apart_nil _, apart_nil _, apart_nil _⟩, Below.refl _ _⟩
  case round =>
    obtain ⟨k, v0, v1, v2, v3, hk, rfl, hat⟩ := hrel
    obtain ⟨hobj, hres, hrows, hbel⟩ := hat
    by_cases hlt : k < F.chars.length
    · have d0 : decide ((k : Int) < F.chars.length) = true := decide_eq_true (by omega)
      obtain ⟨b, o, hA, hbl, hcell⟩ := HFm.out (by omega)
      obtain ⟨c0, c1, c2, c3, c4, c5⟩ := hcell k hlt
      have hq : ∀ j, wr.cell? ⟨b, j, none⟩ = w.cell? ⟨b, j, none⟩ := fun j => (hend wr hbel).cell (p := ⟨b, j, none⟩) hbl
      have e0 := (hq _).trans c0
      have e1 := (hq _).trans c1
      have e2 := (hq _).trans c2
      have e3 := (hq _).trans c3
      have e4 := (hq _).trans c4
      have e5 := (hq _).trans c5
      clear hq c0 c1 c2 c3 c4 c5 hcell
      have hnext := there_next hlt
      have hcl := col_len (F.chars.take k)
      have hkl : (F.chars.take k).length ≤ k := by rw [List.length_take]; exact Nat.min_le_left _ _
      have Hcols : Hid (colW (F.chars.take (k + 1)) = colW (F.chars.take k) ++ (if F.chars[k].tag = -1 then [] else [F.chars[k].w]) ∧ colH (F.chars.take (k + 1)) = colH (F.chars.take k) ++ (if F.chars[k].tag = -1 then [] else [F.chars[k].h]) ∧ colD (F.chars.take (k + 1)) = colD (F.chars.take k) ++ (if F.chars[k].tag = -1 then [] else [F.chars[k].d]) ∧ colI (F.chars.take (k + 1)) = colI (F.chars.take k) ++ (if F.chars[k].tag = -1 then [] else [F.chars[k].it])) := by
        unfold Hid colW colH colD colI
        rw [hnext]
        by_cases ht : F.chars[k].tag = -1
        · simp [ht]
        · simp [ht]
      clear hnext
      generalize F.chars[k] = m at *
      obtain ⟨mw, mh, md, mi, mt, mr⟩ := m
      dsimp only at *
      obtain ⟨A0, n0, A1, n1, A2, n2, A3, n3, A4, n4⟩ := a
      obtain rfl : A0 = some ⟨b, o, none⟩ := hA
      obtain ⟨b0, b1, b2, b3, b4, b5, b6, b7, bl⟩ := hFW wr hbel
      obtain ⟨U, hU⟩ : ∃ U, U = wr.alloc (.cells #[.int .i64 mw, .int .i64 mh, .int .i64 md, .int .i64 mi, .int .i64 mt, .int .i64 mr] 43) := ⟨_, rfl⟩
      have kU : Kept wr U := by rw [hU]; exact walloc _ _
      have hbU : Below D W U := Below.trans hbel (kU.mono (by have := hobj.cells.2.2.2.2.2; omega))
      have hmU : U.heap[wr.heap.size]? = some (.cells #[.int .i64 mw, .int .i64 mh, .int .i64 md, .int .i64 mi, .int .i64 mt, .int .i64 mr] 43 (0, 0)) := by rw [hU]; exact mkobj _ _
      have hMlt : D < wr.heap.size := hobj.cells.2.2.2.2.2
      have HU := Lib.hid hU
      have HRw := Lib.hid hrows
      obtain ⟨z0, z1, z2, z3, zf, zl⟩ := hobj.cells
      have hoU := hobj.grown (row := none) (grown_kept kU) (by simp)
      have hsU := hres.grown (row := none) (grown_kept kU) (by simp)
      have hrU := hrows.kept kU
      obtain ⟨t0, t1, t2, t3, t4, t5, tf, tl⟩ := mbox hmU
      clear hU hobj hres hrows
      by_cases ht : mt = -1
      · have z : (mt == -1) = true := by simp [ht]
        rw [if_pos ht, if_pos ht, if_pos ht, if_pos ht] at Hcols
        simp only [List.append_nil] at Hcols
        have HE : Hid (DimAt F W R D (k + 1) v0 v1 v2 v3 U) := Lib.hid ⟨hoU, hsU, by rw [Hcols.out.1, Hcols.out.2.1, Hcols.out.2.2.1, Hcols.out.2.2.2]; exact hrU, hbU⟩
        clear ht Hcols
        go_wp2_with (fail)
        try rw [← HU.out]
        go_roundw
        case rel => exact ⟨k + 1, v0, v1, v2, v3, by omega, by go_num, by first | exact HE.out | (rw [← HU.out]; exact HE.out)⟩
        case measure => simp [intOf]; omega
      · have z : (mt == -1) = false := by simp [ht]
        rw [if_neg ht, if_neg ht, if_neg ht, if_neg ht] at Hcols
        have hsz0 : U.heap.size = wr.heap.size + 1 := by rw [HU.out]; simp
        have HO := Lib.hid hoU
        have HS := Lib.hid hsU
        have HRo := Lib.hid hrU
        obtain ⟨g0, g1, g2, g3, gf, gl⟩ := hoU.cells
        clear ht hoU hsU hrU b0 b1 b2 b4 b5 b6 b7
        go_wp2_with (at_builtin; rw [← HU.out]; refine wpList_append_own_at _ rfl _ _ 25 rfl (D + 1) 3 i0 (.int .i64 0) 1 8 Tryz.underlying25 hi hz0 hz1 hz2 rfl (by decide) v0 (colW (F.chars.take k)).length ((colW (F.chars.take k)).map (Value.int .i64)) rfl (World.ownsRow.alloc HRo.out.r0 _) ⟨(wr.heap.size + 1), 0, none⟩ 1 1 [.int .i64 mw] rfl rfl (fun j u h => hsz0 ▸ cell_one_new U _ _ j u h) ?c1 ?c2 ?c3 ?c4 ?_)
        case c1 => first | rfl | (intro q hq; rw [List.mem_singleton] at hq; subst hq; rfl)
        case c2 => unfold maxLen; omega
        case c3 => omega
        case c4 => first | omega | (simp; omega)
        intro q0 y0 hown0 hgr0 _ hpl0
        obtain ⟨p0, l0, c0, rfl⟩ := own_slice hown0
        have hlm0 : wr.heap.size < U.heap.size := mlt_of hmU
        have ka0 : Kept U (U.alloc (.cells #[.int .i64 mw] 3)) := walloc _ _
        have ho0 := (DObj.grown (row := none) HO.out (grown_kept ka0) (by simp)).low (World.ownsRow.alloc HRo.out.r0 _) (by omega) hgr0
        have hs0 := (DObj.grown (row := none) HS.out (grown_kept ka0) (by simp)).low (World.ownsRow.alloc HRo.out.r0 _) (by omega) hgr0
        have hr0 := (HRo.out.kept ka0).set0 hgr0 (show IRow y0 (D + 1) (.slice p0 l0 c0) ((colW (F.chars.take k)) ++ [mw]) by unfold IRow; rw [List.map_append, show ((colW (F.chars.take k)) ++ [mw]).length = (colW (F.chars.take k)).length + 1 by simp]; exact hown0) (hpl0.imp id fun e => ⟨_, e, by simp; omega⟩)
        have hdl0 : D < U.heap.size := (DObj.cells HO.out).2.2.2.2.2
        have hb0 : Below D W y0 := Below.grown (hbU.alloc (by omega) _) hgr0 (by simp; omega) (fun j e => by have := (World.ownsRow.lt HRw.out.r0 j e).1; omega)
        have hm0 := (hgr0.block wr.heap.size (by simp; omega) (fun e => by have := (World.ownsRow.lt HRw.out.r0 wr.heap.size e.symm).2; omega)).trans ((ka0.block wr.heap.size hlm0).trans hmU)
        obtain ⟨Y0, hY0⟩ : ∃ Y, Y = y0.setCell ⟨D, 0, none⟩ (.slice p0 l0 c0) := ⟨_, rfl⟩
        obtain ⟨w00, w01, w02, w03, w0f, w0l⟩ := ho0.cells
        have O0 := Lib.hid (show DObj Y0 D (.slice p0 l0 c0) v1 v2 v3 by rw [hY0]; exact ho0.set0)
        have S0 := Lib.hid (show DObj Y0 R (.slice none 0 0) (.slice none 0 0) (.slice none 0 0) (.slice none 0 0) by rw [hY0]; exact hs0.grown (grown_setCell _ _ _ _) (by simp; omega))
        have Rr0 := Lib.hid (show Rows4 Y0 (D + 1) (.slice p0 l0 c0) v1 v2 v3 ((colW (F.chars.take k)) ++ [mw]) (colH (F.chars.take k)) (colD (F.chars.take k)) (colI (F.chars.take k)) by rw [hY0]; exact hr0.store (by omega))
        have hB0 : Below D W Y0 := by rw [hY0]; exact hb0.setCell (Nat.le_refl _) _
        have hM0 : Y0.heap[wr.heap.size]? = some (.cells #[.int .i64 mw, .int .i64 mh, .int .i64 md, .int .i64 mi, .int .i64 mt, .int .i64 mr] 43 (0, 0)) := by rw [hY0, (grown_setCell y0 D 0 (.slice p0 l0 c0)).block wr.heap.size (by have := hgr0.size; simp at this; omega) (by simp; omega)]; exact hm0
        obtain ⟨t0, t1, t2, t3, t4, t5, tf, tl⟩ := mbox hm0
        have hsz1 : Y0.heap.size = y0.heap.size := by rw [hY0]; simp [World.setCell]
        have HY0 := Lib.hid hY0
        clear hY0 hm0 hown0 hgr0 hpl0 ho0 hs0 hr0
        -- store 0
        go_wp2_with (at_builtin; rw [← HY0.out]; refine wpList_append_own_at _ rfl _ _ 25 rfl (D + 1) 3 i0 (.int .i64 0) 1 8 Tryz.underlying25 hi hz0 hz1 hz2 rfl (by decide) v1 (colH (F.chars.take k)).length ((colH (F.chars.take k)).map (Value.int .i64)) rfl (World.ownsRow.alloc Rr0.out.r1 _) ⟨y0.heap.size, 0, none⟩ 1 1 [.int .i64 mh] rfl rfl (fun j u h => hsz1 ▸ cell_one_new Y0 _ _ j u h) ?c1 ?c2 ?c3 ?c4 ?_)
        case c1 => first | rfl | (intro q hq; rw [List.mem_singleton] at hq; subst hq; rfl)
        case c2 => unfold maxLen; omega
        case c3 => omega
        case c4 => first | omega | (simp; omega)
        intro q1 y1 hown1 hgr1 _ hpl1
        obtain ⟨p1, l1, c1, rfl⟩ := own_slice hown1
        have hlm1 : wr.heap.size < Y0.heap.size := mlt_of hM0
        have ka1 : Kept Y0 (Y0.alloc (.cells #[.int .i64 mh] 3)) := walloc _ _
        have ho1 := (DObj.grown (row := none) O0.out (grown_kept ka1) (by simp)).low (World.ownsRow.alloc Rr0.out.r1 _) (by omega) hgr1
        have hs1 := (DObj.grown (row := none) S0.out (grown_kept ka1) (by simp)).low (World.ownsRow.alloc Rr0.out.r1 _) (by omega) hgr1
        have hr1 := (Rr0.out.kept ka1).set1 hgr1 (show IRow y1 (D + 1) (.slice p1 l1 c1) ((colH (F.chars.take k)) ++ [mh]) by unfold IRow; rw [List.map_append, show ((colH (F.chars.take k)) ++ [mh]).length = (colH (F.chars.take k)).length + 1 by simp]; exact hown1) (hpl1.imp id fun e => ⟨_, e, by simp; omega⟩)
        have hdl1 : D < Y0.heap.size := (DObj.cells O0.out).2.2.2.2.2
        have hb1 : Below D W y1 := Below.grown (hB0.alloc (by omega) _) hgr1 (by simp; omega) (fun j e => by have := (World.ownsRow.lt HRw.out.r1 j e).1; omega)
        have hm1 := (hgr1.block wr.heap.size (by simp; omega) (fun e => by have := (World.ownsRow.lt HRw.out.r1 wr.heap.size e.symm).2; omega)).trans ((ka1.block wr.heap.size hlm1).trans hM0)
        obtain ⟨Y1, hY1⟩ : ∃ Y, Y = y1.setCell ⟨D, 1, none⟩ (.slice p1 l1 c1) := ⟨_, rfl⟩
        obtain ⟨w10, w11, w12, w13, w1f, w1l⟩ := ho1.cells
        have O1 := Lib.hid (show DObj Y1 D (.slice p0 l0 c0) (.slice p1 l1 c1) v2 v3 by rw [hY1]; exact ho1.set1)
        have S1 := Lib.hid (show DObj Y1 R (.slice none 0 0) (.slice none 0 0) (.slice none 0 0) (.slice none 0 0) by rw [hY1]; exact hs1.grown (grown_setCell _ _ _ _) (by simp; omega))
        have Rr1 := Lib.hid (show Rows4 Y1 (D + 1) (.slice p0 l0 c0) (.slice p1 l1 c1) v2 v3 ((colW (F.chars.take k)) ++ [mw]) ((colH (F.chars.take k)) ++ [mh]) (colD (F.chars.take k)) (colI (F.chars.take k)) by rw [hY1]; exact hr1.store (by omega))
        have hB1 : Below D W Y1 := by rw [hY1]; exact hb1.setCell (Nat.le_refl _) _
        have hM1 : Y1.heap[wr.heap.size]? = some (.cells #[.int .i64 mw, .int .i64 mh, .int .i64 md, .int .i64 mi, .int .i64 mt, .int .i64 mr] 43 (0, 0)) := by rw [hY1, (grown_setCell y1 D 1 (.slice p1 l1 c1)).block wr.heap.size (by have := hgr1.size; simp at this; omega) (by simp; omega)]; exact hm1
        obtain ⟨t0, t1, t2, t3, t4, t5, tf, tl⟩ := mbox hm1
        have hsz2 : Y1.heap.size = y1.heap.size := by rw [hY1]; simp [World.setCell]
        have HY1 := Lib.hid hY1
        clear hY1 hm1 hown1 hgr1 hpl1 ho1 hs1 hr1
        -- store 1
        go_wp2_with (at_builtin; rw [← HY1.out]; refine wpList_append_own_at _ rfl _ _ 25 rfl (D + 1) 3 i0 (.int .i64 0) 1 8 Tryz.underlying25 hi hz0 hz1 hz2 rfl (by decide) v2 (colD (F.chars.take k)).length ((colD (F.chars.take k)).map (Value.int .i64)) rfl (World.ownsRow.alloc Rr1.out.r2 _) ⟨y1.heap.size, 0, none⟩ 1 1 [.int .i64 md] rfl rfl (fun j u h => hsz2 ▸ cell_one_new Y1 _ _ j u h) ?c1 ?c2 ?c3 ?c4 ?_)
        case c1 => first | rfl | (intro q hq; rw [List.mem_singleton] at hq; subst hq; rfl)
        case c2 => unfold maxLen; omega
        case c3 => omega
        case c4 => first | omega | (simp; omega)
        intro q2 y2 hown2 hgr2 _ hpl2
        obtain ⟨p2, l2, c2, rfl⟩ := own_slice hown2
        have hlm2 : wr.heap.size < Y1.heap.size := mlt_of hM1
        have ka2 : Kept Y1 (Y1.alloc (.cells #[.int .i64 md] 3)) := walloc _ _
        have ho2 := (DObj.grown (row := none) O1.out (grown_kept ka2) (by simp)).low (World.ownsRow.alloc Rr1.out.r2 _) (by omega) hgr2
        have hs2 := (DObj.grown (row := none) S1.out (grown_kept ka2) (by simp)).low (World.ownsRow.alloc Rr1.out.r2 _) (by omega) hgr2
        have hr2 := (Rr1.out.kept ka2).set2 hgr2 (show IRow y2 (D + 1) (.slice p2 l2 c2) ((colD (F.chars.take k)) ++ [md]) by unfold IRow; rw [List.map_append, show ((colD (F.chars.take k)) ++ [md]).length = (colD (F.chars.take k)).length + 1 by simp]; exact hown2) (hpl2.imp id fun e => ⟨_, e, by simp; omega⟩)
        have hdl2 : D < Y1.heap.size := (DObj.cells O1.out).2.2.2.2.2
        have hb2 : Below D W y2 := Below.grown (hB1.alloc (by omega) _) hgr2 (by simp; omega) (fun j e => by have := (World.ownsRow.lt HRw.out.r2 j e).1; omega)
        have hm2 := (hgr2.block wr.heap.size (by simp; omega) (fun e => by have := (World.ownsRow.lt HRw.out.r2 wr.heap.size e.symm).2; omega)).trans ((ka2.block wr.heap.size hlm2).trans hM1)
        obtain ⟨Y2, hY2⟩ : ∃ Y, Y = y2.setCell ⟨D, 2, none⟩ (.slice p2 l2 c2) := ⟨_, rfl⟩
        obtain ⟨w20, w21, w22, w23, w2f, w2l⟩ := ho2.cells
        have O2 := Lib.hid (show DObj Y2 D (.slice p0 l0 c0) (.slice p1 l1 c1) (.slice p2 l2 c2) v3 by rw [hY2]; exact ho2.set2)
        have S2 := Lib.hid (show DObj Y2 R (.slice none 0 0) (.slice none 0 0) (.slice none 0 0) (.slice none 0 0) by rw [hY2]; exact hs2.grown (grown_setCell _ _ _ _) (by simp; omega))
        have Rr2 := Lib.hid (show Rows4 Y2 (D + 1) (.slice p0 l0 c0) (.slice p1 l1 c1) (.slice p2 l2 c2) v3 ((colW (F.chars.take k)) ++ [mw]) ((colH (F.chars.take k)) ++ [mh]) ((colD (F.chars.take k)) ++ [md]) (colI (F.chars.take k)) by rw [hY2]; exact hr2.store (by omega))
        have hB2 : Below D W Y2 := by rw [hY2]; exact hb2.setCell (Nat.le_refl _) _
        have hM2 : Y2.heap[wr.heap.size]? = some (.cells #[.int .i64 mw, .int .i64 mh, .int .i64 md, .int .i64 mi, .int .i64 mt, .int .i64 mr] 43 (0, 0)) := by rw [hY2, (grown_setCell y2 D 2 (.slice p2 l2 c2)).block wr.heap.size (by have := hgr2.size; simp at this; omega) (by simp; omega)]; exact hm2
        obtain ⟨t0, t1, t2, t3, t4, t5, tf, tl⟩ := mbox hm2
        have hsz3 : Y2.heap.size = y2.heap.size := by rw [hY2]; simp [World.setCell]
        have HY2 := Lib.hid hY2
        clear hY2 hm2 hown2 hgr2 hpl2 ho2 hs2 hr2
        -- store 2
        go_wp2_with (at_builtin; rw [← HY2.out]; refine wpList_append_own_at _ rfl _ _ 25 rfl (D + 1) 3 i0 (.int .i64 0) 1 8 Tryz.underlying25 hi hz0 hz1 hz2 rfl (by decide) v3 (colI (F.chars.take k)).length ((colI (F.chars.take k)).map (Value.int .i64)) rfl (World.ownsRow.alloc Rr2.out.r3 _) ⟨y2.heap.size, 0, none⟩ 1 1 [.int .i64 mi] rfl rfl (fun j u h => hsz3 ▸ cell_one_new Y2 _ _ j u h) ?c1 ?c2 ?c3 ?c4 ?_)
        case c1 => first | rfl | (intro q hq; rw [List.mem_singleton] at hq; subst hq; rfl)
        case c2 => unfold maxLen; omega
        case c3 => omega
        case c4 => first | omega | (simp; omega)
        intro q3 y3 hown3 hgr3 _ hpl3
        obtain ⟨p3, l3, c3, rfl⟩ := own_slice hown3
        have hlm3 : wr.heap.size < Y2.heap.size := mlt_of hM2
        have ka3 : Kept Y2 (Y2.alloc (.cells #[.int .i64 mi] 3)) := walloc _ _
        have ho3 := (DObj.grown (row := none) O2.out (grown_kept ka3) (by simp)).low (World.ownsRow.alloc Rr2.out.r3 _) (by omega) hgr3
        have hs3 := (DObj.grown (row := none) S2.out (grown_kept ka3) (by simp)).low (World.ownsRow.alloc Rr2.out.r3 _) (by omega) hgr3
        have hr3 := (Rr2.out.kept ka3).set3 hgr3 (show IRow y3 (D + 1) (.slice p3 l3 c3) ((colI (F.chars.take k)) ++ [mi]) by unfold IRow; rw [List.map_append, show ((colI (F.chars.take k)) ++ [mi]).length = (colI (F.chars.take k)).length + 1 by simp]; exact hown3) (hpl3.imp id fun e => ⟨_, e, by simp; omega⟩)
        have hdl3 : D < Y2.heap.size := (DObj.cells O2.out).2.2.2.2.2
        have hb3 : Below D W y3 := Below.grown (hB2.alloc (by omega) _) hgr3 (by simp; omega) (fun j e => by have := (World.ownsRow.lt HRw.out.r3 j e).1; omega)
        have hm3 := (hgr3.block wr.heap.size (by simp; omega) (fun e => by have := (World.ownsRow.lt HRw.out.r3 wr.heap.size e.symm).2; omega)).trans ((ka3.block wr.heap.size hlm3).trans hM2)
        obtain ⟨Y3, hY3⟩ : ∃ Y, Y = y3.setCell ⟨D, 3, none⟩ (.slice p3 l3 c3) := ⟨_, rfl⟩
        obtain ⟨w30, w31, w32, w33, w3f, w3l⟩ := ho3.cells
        have O3 := Lib.hid (show DObj Y3 D (.slice p0 l0 c0) (.slice p1 l1 c1) (.slice p2 l2 c2) (.slice p3 l3 c3) by rw [hY3]; exact ho3.set3)
        have S3 := Lib.hid (show DObj Y3 R (.slice none 0 0) (.slice none 0 0) (.slice none 0 0) (.slice none 0 0) by rw [hY3]; exact hs3.grown (grown_setCell _ _ _ _) (by simp; omega))
        have Rr3 := Lib.hid (show Rows4 Y3 (D + 1) (.slice p0 l0 c0) (.slice p1 l1 c1) (.slice p2 l2 c2) (.slice p3 l3 c3) ((colW (F.chars.take k)) ++ [mw]) ((colH (F.chars.take k)) ++ [mh]) ((colD (F.chars.take k)) ++ [md]) ((colI (F.chars.take k)) ++ [mi]) by rw [hY3]; exact hr3.store (by omega))
        have hB3 : Below D W Y3 := by rw [hY3]; exact hb3.setCell (Nat.le_refl _) _
        have hM3 : Y3.heap[wr.heap.size]? = some (.cells #[.int .i64 mw, .int .i64 mh, .int .i64 md, .int .i64 mi, .int .i64 mt, .int .i64 mr] 43 (0, 0)) := by rw [hY3, (grown_setCell y3 D 3 (.slice p3 l3 c3)).block wr.heap.size (by have := hgr3.size; simp at this; omega) (by simp; omega)]; exact hm3
        obtain ⟨t0, t1, t2, t3, t4, t5, tf, tl⟩ := mbox hm3
        have hsz4 : Y3.heap.size = y3.heap.size := by rw [hY3]; simp [World.setCell]
        have HY3 := Lib.hid hY3
        clear hY3 hm3 hown3 hgr3 hpl3 ho3 hs3 hr3
        -- store 3
        go_wp2_with (fail)
        try rw [← HY3.out]
        go_roundw
        case rel => exact ⟨k + 1, (.slice p0 l0 c0), (.slice p1 l1 c1), (.slice p2 l2 c2), (.slice p3 l3 c3), by omega, by go_num, by first | exact ⟨O3.out, S3.out, by rw [Hcols.out.1, Hcols.out.2.1, Hcols.out.2.2.1, Hcols.out.2.2.2]; exact Rr3.out, hB3⟩ | (rw [← HY3.out]; exact ⟨O3.out, S3.out, by rw [Hcols.out.1, Hcols.out.2.1, Hcols.out.2.2.1, Hcols.out.2.2.2]; exact Rr3.out, hB3⟩)⟩
        case measure => simp [intOf]; omega
    · have d0 : decide ((k : Int) < F.chars.length) = false := decide_eq_false (by omega)
      have hall : F.chars.take k = F.chars := List.take_of_length_le (by omega)
      rw [hall] at hrows
      have hcl := col_len F.chars
      obtain ⟨X0, hX0⟩ : ∃ X, X = colW F.chars := ⟨_, rfl⟩
      rw [← hX0] at hrows hcl
      have HX0 := Lib.hid hX0
      clear hX0
      obtain ⟨X1, hX1⟩ : ∃ X, X = colH F.chars := ⟨_, rfl⟩
      rw [← hX1] at hrows hcl
      have HX1 := Lib.hid hX1
      clear hX1
      obtain ⟨X2, hX2⟩ : ∃ X, X = colD F.chars := ⟨_, rfl⟩
      rw [← hX2] at hrows hcl
      have HX2 := Lib.hid hX2
      clear hX2
      obtain ⟨X3, hX3⟩ : ∃ X, X = colI F.chars := ⟨_, rfl⟩
      rw [← hX3] at hrows hcl
      have HX3 := Lib.hid hX3
      clear hX3
      obtain ⟨l0, l1, l2, l3⟩ := hcl
      have ri := fun (X : List Int) (h : X.length ≤ 256) => Nat.le_trans (rising_len X) h
      have wz := fun (X : List Int) (h : X.length ≤ 256) => Nat.le_trans (noZero_len X) h
      have m0 : X0.length ≤ 256 := by omega
      have m1 : X1.length ≤ 256 := by omega
      have m2 : X2.length ≤ 256 := by omega
      have m3 : X3.length ≤ 256 := by omega
      obtain ⟨a0, b0, c0, rfl⟩ := own_slice hrows.r0
      obtain ⟨a1, b1, c1, rfl⟩ := own_slice hrows.r1
      obtain ⟨a2, b2, c2, rfl⟩ := own_slice hrows.r2
      obtain ⟨a3, b3, c3, rfl⟩ := own_slice hrows.r3
      have h0 : DimSt W R D (.slice a0 b0 c0) (.slice a1 b1 c1) (.slice a2 b2 c2) (.slice a3 b3 c3) (.slice a0 b0 c0) (.slice a1 b1 c1) (.slice a2 b2 c2) (.slice a3 b3 c3) X0 X1 X2 X3 wr.drew := ⟨⟨hobj, hres⟩, hrows.same rfl, hbel.drew⟩
      have hS : ∀ w', DObj w' D (.slice a0 b0 c0) (.slice a1 b1 c1) (.slice a2 b2 c2) (.slice a3 b3 c3) → Hid (w'.cell? ⟨D, 0, none⟩ = some (.slice a0 b0 c0) ∧ w'.cell? ⟨D, 1, none⟩ = some (.slice a1 b1 c1) ∧ w'.cell? ⟨D, 2, none⟩ = some (.slice a2 b2 c2) ∧ w'.cell? ⟨D, 3, none⟩ = some (.slice a3 b3 c3)) := fun w' hh => by
        obtain ⟨y0, y1, y2, y3, yf, yl⟩ := hh.cells
        exact Lib.hid ⟨y0, y1, y2, y3⟩
      have hbx : DObj wr.drew D (.slice a0 b0 c0) (.slice a1 b1 c1) (.slice a2 b2 c2) (.slice a3 b3 c3) := hobj
      obtain ⟨y0, y1, y2, y3, yf, yl⟩ := hobj.cells
      have tk0 : True := trivial
      clear hall hrows hobj hres hbel l0 l1 l2 l3
      go_wp2_with (fail)
      go_region_held3 (fun w' => w'.cell? ⟨D, 0, none⟩ = some (.slice a0 b0 c0) ∧ w'.cell? ⟨D, 1, none⟩ = some (.slice a1 b1 c1) ∧ w'.cell? ⟨D, 2, none⟩ = some (.slice a2 b2 c2) ∧ w'.cell? ⟨D, 3, none⟩ = some (.slice a3 b3 c3)) (first | exact (hS _ (by assumption)).out | exact (hS _ ((((hbx.grown (grown_setCell _ _ _ _) (by simp; omega)).grown (grown_setCell _ _ _ _) (by simp; omega)).grown (grown_setCell _ _ _ _) (by simp; omega)).grown (grown_setCell _ _ _ _) (by simp; omega))).out) (first
        | (have _t := tk0; go_at_call 54; refine (rising_own _ (D + 1) _ _ h0.rows.r0 m0).mono ?_; rintro e j1 ⟨z1, rfl, hr, ho, hg⟩; obtain ⟨_, _, _, rfl⟩ := own_slice hr; have h1 := h0.set0 hg hr (.inl ho); clear hbx; have hbx := h1.box.1; have tk1 : True := trivial; clear tk0 _t h0 hr ho hg)
        | (have _t := tk1; go_at_call 53; refine (behindZero_own _ (D + 1) _ _ h1.rows.r0 (ri _ m0) (by have := h1.box.1.cells.2.2.2.2.2; omega)).mono ?_; rintro e j2 ⟨z2, rfl, hr, ho, hg⟩; obtain ⟨_, _, _, rfl⟩ := own_slice hr; have h2 := h1.set0 (grown_kept hg) hr (.inr ho); clear hbx; have hbx := h2.box.1; have tk2 : True := trivial; clear tk1 _t h1 hr ho hg)
        | (have _t := tk2; go_at_call 54; refine (rising_own _ (D + 1) _ _ h2.rows.r1 m1).mono ?_; rintro e j3 ⟨z3, rfl, hr, ho, hg⟩; obtain ⟨_, _, _, rfl⟩ := own_slice hr; have h3 := h2.set1 hg hr (.inl ho); clear hbx; have hbx := h3.box.1; have tk3 : True := trivial; clear tk2 _t h2 hr ho hg)
        | (have _t := tk3; go_at_call 55; refine (withoutZero_own _ (D + 1) _ _ h3.rows.r1 (ri _ m1)).mono ?_; rintro e j4 ⟨z4, rfl, hr, ho, hg⟩; obtain ⟨_, _, _, rfl⟩ := own_slice hr; have h4 := h3.set1 hg hr (.inl ho); clear hbx; have hbx := h4.box.1; have tk4 : True := trivial; clear tk3 _t h3 hr ho hg)
        | (have _t := tk4; go_at_call 53; refine (behindZero_own _ (D + 1) _ _ h4.rows.r1 (wz _ (ri _ m1)) (by have := h4.box.1.cells.2.2.2.2.2; omega)).mono ?_; rintro e j5 ⟨z5, rfl, hr, ho, hg⟩; obtain ⟨_, _, _, rfl⟩ := own_slice hr; have h5 := h4.set1 (grown_kept hg) hr (.inr ho); clear hbx; have hbx := h5.box.1; have tk5 : True := trivial; clear tk4 _t h4 hr ho hg)
        | (have _t := tk5; go_at_call 54; refine (rising_own _ (D + 1) _ _ h5.rows.r2 m2).mono ?_; rintro e j6 ⟨z6, rfl, hr, ho, hg⟩; obtain ⟨_, _, _, rfl⟩ := own_slice hr; have h6 := h5.set2 hg hr (.inl ho); clear hbx; have hbx := h6.box.1; have tk6 : True := trivial; clear tk5 _t h5 hr ho hg)
        | (have _t := tk6; go_at_call 55; refine (withoutZero_own _ (D + 1) _ _ h6.rows.r2 (ri _ m2)).mono ?_; rintro e j7 ⟨z7, rfl, hr, ho, hg⟩; obtain ⟨_, _, _, rfl⟩ := own_slice hr; have h7 := h6.set2 hg hr (.inl ho); clear hbx; have hbx := h7.box.1; have tk7 : True := trivial; clear tk6 _t h6 hr ho hg)
        | (have _t := tk7; go_at_call 53; refine (behindZero_own _ (D + 1) _ _ h7.rows.r2 (wz _ (ri _ m2)) (by have := h7.box.1.cells.2.2.2.2.2; omega)).mono ?_; rintro e j8 ⟨z8, rfl, hr, ho, hg⟩; obtain ⟨_, _, _, rfl⟩ := own_slice hr; have h8 := h7.set2 (grown_kept hg) hr (.inr ho); clear hbx; have hbx := h8.box.1; have tk8 : True := trivial; clear tk7 _t h7 hr ho hg)
        | (have _t := tk8; go_at_call 54; refine (rising_own _ (D + 1) _ _ h8.rows.r3 m3).mono ?_; rintro e j9 ⟨z9, rfl, hr, ho, hg⟩; obtain ⟨_, _, _, rfl⟩ := own_slice hr; have h9 := h8.set3 hg hr (.inl ho); clear hbx; have hbx := h9.box.1; have tk9 : True := trivial; clear tk8 _t h8 hr ho hg)
        | (have _t := tk9; go_at_call 55; refine (withoutZero_own _ (D + 1) _ _ h9.rows.r3 (ri _ m3)).mono ?_; rintro e j10 ⟨z10, rfl, hr, ho, hg⟩; obtain ⟨_, _, _, rfl⟩ := own_slice hr; have h10 := h9.set3 hg hr (.inl ho); clear hbx; have hbx := h10.box.1; have tk10 : True := trivial; clear tk9 _t h9 hr ho hg)
        | (have _t := tk10; go_at_call 53; refine (behindZero_own _ (D + 1) _ _ h10.rows.r3 (wz _ (ri _ m3)) (by have := h10.box.1.cells.2.2.2.2.2; omega)).mono ?_; rintro e j11 ⟨z11, rfl, hr, ho, hg⟩; obtain ⟨_, _, _, rfl⟩ := own_slice hr; have h11 := h10.set3 (grown_kept hg) hr (.inr ho); clear hbx; have hbx := h11.box.1; obtain ⟨r0, r1, r2, r3, rf, rl⟩ := h11.box.2.cells; have tk11 : True := trivial; clear tk10 _t h10 hr ho hg))
      all_goals go_wp2_with (fail)
      all_goals exact bodyPost_ret (v := .agg #[_, _, _, _]) (by simp [results, Tryz.results21, go_sem, r0, r1, r2, r3]; exact ⟨rfl, rfl, rfl, rfl⟩) rfl ⟨_, _, _, _, rfl, by rw [← HX0.out, ← HX1.out, ← HX2.out, ← HX3.out]; exact Rows4.base ((((h11.rows.store (D := R) hRD1).store (D := R) hRD1).store (D := R) hRD1).store (D := R) hRD1) hwD1, ((((hend _ h11.below).setCell (p := ⟨R, 0, none⟩) hwR1 _).setCell (p := ⟨R, 1, none⟩) hwR1 _).setCell (p := ⟨R, 2, none⟩) hwR1 _).setCell (p := ⟨R, 3, none⟩) hwR1 _⟩
end Go.Proofs.YtdhidpbenhmfgaaGreat
