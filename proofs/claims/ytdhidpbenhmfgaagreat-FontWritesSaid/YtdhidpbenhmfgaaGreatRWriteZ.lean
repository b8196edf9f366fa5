/- RWrite LawWrites. -/
import Derived.Test.YtdhidpbenhmfgaaGreatRMathWZ
import Derived.Test.YtdhidpbenhmfgaaGreatCWrite
import Derived.Test.YtdhidpbenhmfgaaGreatFCheck
import Derived.Test.YtdhidpbenhmfgaaGreatReg42Z
import Derived.Deep.AppendLies
import Derived.Deep.RegionHeld3
import Derived.Test.YtdhidpbenhmfgaaGreatM38
import Derived.Test.YtdhidpbenhmfgaaGreatOwnF
import Derived.Test.YtdhidpbenhmfgaaGreatFSame2
import Derived.Laws.BytesArg
import Derived.Laws.StructEq
namespace Go.Proofs.YtdhidpbenhmfgaaGreat
open Go.RowKit

/-- an array of four headers -/
def QObj (w : World) (D : Nat) (v0 v1 v2 v3 : Value) : Prop := w.heap[D]? = some (.cells #[v0, v1, v2, v3] 68 (0, 0))
theorem QObj.cells {w : World} {D : Nat} {v0 v1 v2 v3 : Value} (h : QObj w D v0 v1 v2 v3) : w.cell? ⟨D, 0, none⟩ = some v0 ∧ w.cell? ⟨D, 1, none⟩ = some v1 ∧ w.cell? ⟨D, 2, none⟩ = some v2 ∧ w.cell? ⟨D, 3, none⟩ = some v3 ∧ (∀ o, w.frozen? ⟨D, o, none⟩ = false) ∧ D < w.heap.size := by
  unfold QObj at h
  refine ⟨?_, ?_, ?_, ?_, fun o => ?_, (Array.getElem?_eq_some_iff.1 h).1⟩
  all_goals first | simp [World.cell?, h] | simp [World.frozen?, h]
theorem QObj.grown {w w' : World} {D : Nat} {v0 v1 v2 v3 : Value} {row : Option Nat} (h : QObj w D v0 v1 v2 v3) (k : w.grownBy w' row) (hne : row ≠ some D) : QObj w' D v0 v1 v2 v3 := by
  have hl := h.cells.2.2.2.2.2
  unfold QObj at *
  rw [k.block D hl (fun e => hne e.symm)]
  exact h
theorem QObj.low {w w' : World} {D B : Nat} {v0 v1 v2 v3 v : Value} {xs : List Int} (h : QObj w D v0 v1 v2 v3) (hr : IRow w B v xs) (hD : D < B) (k : w.grownBy w' v.ownBlock) : QObj w' D v0 v1 v2 v3 :=
  h.grown k (fun e => by have := (World.ownsRow.lt hr D e).1; omega)
theorem QObj.below {w w' : World} {D G : Nat} {v0 v1 v2 v3 : Value} (h : QObj w D v0 v1 v2 v3) (k : Below G w w') (hD : D < G) : QObj w' D v0 v1 v2 v3 := by
  unfold QObj at *
  rw [k.block D hD]
  exact h
theorem QObj.set0 {w : World} {D : Nat} {v0 v1 v2 v3 u : Value} (h : QObj w D v0 v1 v2 v3) : QObj (w.setCell ⟨D, 0, none⟩ u) D u v1 v2 v3 := block_set1 h
theorem QObj.set1 {w : World} {D : Nat} {v0 v1 v2 v3 u : Value} (h : QObj w D v0 v1 v2 v3) : QObj (w.setCell ⟨D, 1, none⟩ u) D v0 u v2 v3 := block_set1 h
theorem QObj.set2 {w : World} {D : Nat} {v0 v1 v2 v3 u : Value} (h : QObj w D v0 v1 v2 v3) : QObj (w.setCell ⟨D, 2, none⟩ u) D v0 v1 u v3 := block_set1 h
theorem QObj.set3 {w : World} {D : Nat} {v0 v1 v2 v3 u : Value} (h : QObj w D v0 v1 v2 v3) : QObj (w.setCell ⟨D, 3, none⟩ u) D v0 v1 v2 u := block_set1 h
structure QAt (F : Fnt) (W : World) (D k : Nat) (v0 v1 v2 v3 : Value) (wr : World) : Prop where
  obj : QObj wr D v0 v1 v2 v3
  rows : Rows4 wr (D + 1) v0 v1 v2 v3 (colW (F.chars.take k)) (colH (F.chars.take k)) (colD (F.chars.take k)) (colI (F.chars.take k))
  below : Below D W wr
def QLoop (F : Fnt) (W : World) (D : Nat) (s6 : Value) (wr : World) : Prop := ∃ (k : Nat) (v0 v1 v2 v3 : Value), k ≤ F.chars.length ∧ s6 = .int .i64 k ∧ QAt F W D k v0 v1 v2 v3 wr
/-- a character that is there has no number below 0 for its tag -/
theorem tag_there {F : Fnt} (h : fontE F = 0) {m : Met} (hm : m ∈ F.chars) : (m.tag = -1) ↔ m.tag < 0 := by
  rcases font_tag h hm with e | ⟨h0, _⟩
  · omega
  · omega

def TRow (wr : World) (B i j : Nat) (u : Value) (T : List Int) : Prop := if j < i then IRow wr B u (0 :: T) else u = .slice none 0 0
theorem TRow.yes {wr : World} {B i j : Nat} {u : Value} {T : List Int} (h : TRow wr B i j u T) (hj : j < i) : IRow wr B u (0 :: T) := by unfold TRow at h; rwa [if_pos hj] at h
theorem TRow.no {wr : World} {B i j : Nat} {u : Value} {T : List Int} (h : TRow wr B i j u T) (hj : ¬ j < i) : u = .slice none 0 0 := by unfold TRow at h; rwa [if_neg hj] at h
theorem TRow.mk {wr : World} {B i j : Nat} {u : Value} {T : List Int} (h : IRow wr B u (0 :: T)) (hj : j < i) : TRow wr B i j u T := by unfold TRow; rwa [if_pos hj]
theorem TRow.nil {wr : World} {B i j : Nat} {T : List Int} (hj : ¬ j < i) : TRow wr B i j (.slice none 0 0) T := by unfold TRow; rw [if_neg hj]
def T2Loop (F : Fnt) (W : World) (E : Nat) (s9 : Value) (wr : World) : Prop := ∃ (i : Nat) (u0 u1 u2 u3 : Value), i ≤ 4 ∧ s9 = .int .i64 i ∧ QObj wr E u0 u1 u2 u3 ∧ TRow wr (E + 1) i 0 u0 (tW F) ∧ TRow wr (E + 1) i 1 u1 (tH F) ∧ TRow wr (E + 1) i 2 u2 (tD F) ∧ TRow wr (E + 1) i 3 u3 (tI F) ∧ Below E W wr
theorem writeB_no6 {F : Fnt} (h : writeE F = 6) : writeB F = [] := by unfold writeB; rw [if_neg (by omega)]
theorem irow_put {z : World} {E i : Nat} {u v : Value} {xs : List Int} (h : IRow z (E + 1) v xs) : IRow (z.setCell ⟨E, i, none⟩ u) (E + 1) v xs :=
  h.kept (grown_set1 z E i u) (.inr fun e => by have := (World.ownsRow.lt h _ e).1; omega)

def W3Loop (C : Cnt) (B : Nat) (W : World) (s14 s15 : Value) (wr : World) : Prop := ∃ k : Nat, k ≤ 12 ∧ s15 = .int .i64 k ∧ BRow wr B s14 (cntL C k) ∧ Below B W wr
def W4Loop (F : Fnt) (P : List Int) (B : Nat) (W : World) (s14 s16 : Value) (wr : World) : Prop := ∃ k : Nat, k ≤ F.chars.length ∧ s16 = .int .i64 k ∧ BRow wr B s14 (P ++ (F.chars.take k).flatMap fun m => stL (metS (tW F) (tH F) (tD F) (tI F) m)) ∧ Below B W wr
def W6Loop (l : List St) (P : List Int) (B : Nat) (W : World) (s14 s19 : Value) (wr : World) : Prop := ∃ k : Nat, k ≤ l.length ∧ s19 = .int .i64 k ∧ BRow wr B s14 (P ++ (l.take k).flatMap fun x => stL (idS x)) ∧ Below B W wr
def tabL (F : Fnt) (i : Nat) : List Int := match i with
  | 0 => []
  | 1 => numsL (0 :: tW F)
  | 2 => numsL (0 :: tW F) ++ numsL (0 :: tH F)
  | 3 => numsL (0 :: tW F) ++ numsL (0 :: tH F) ++ numsL (0 :: tD F)
  | _ => numsL (0 :: tW F) ++ numsL (0 :: tH F) ++ numsL (0 :: tD F) ++ numsL (0 :: tI F)
def W5Loop (F : Fnt) (P : List Int) (B : Nat) (W : World) (s14 s18 : Value) (wr : World) : Prop := ∃ i : Nat, i ≤ 4 ∧ s18 = .int .i64 i ∧ BRow wr B s14 (P ++ tabL F i) ∧ Below B W wr
theorem nums_len (l : List Int) : (numsL l).length = 4 * l.length := flat_len numS l
theorem placeL_le {S : List Int} (x : Int) : 0 ≤ placeL S x ∧ placeL S x ≤ S.length := by
  unfold placeL
  cases hc : S.contains x with
  | false => simp
  | true =>
    have := count_lt hc
    simp only [if_true]
    omega
theorem there_has {F : Fnt} {m : Met} (hm : m ∈ F.chars) (ht : ¬ m.tag = -1) : m ∈ thereL F.chars := List.mem_filter.2 ⟨hm, by simpa using ht⟩
theorem noZero_not (xs : List Int) : (0 : Int) ∉ noZero (risingL xs) := fun h => by have := (noZero_iff xs 0).1 h; exact this.2 rfl rfl
theorem noZero_or {xs : List Int} {x : Int} (h : x ∈ xs) : x = 0 ∨ x ∈ noZero (risingL xs) := by
  by_cases hx : x = 0
  · exact .inl hx
  · exact .inr ((noZero_iff xs x).2 ⟨h, fun _ => hx⟩)
theorem w6_next {l : List St} {P X : List Int} {B : Nat} {W y : World} {k g cap : Nat} {x : St} (hk : k < l.length) (hnx : (l.take (k + 1)).flatMap (fun x => stL (idS x)) = (l.take k).flatMap (fun x => stL (idS x)) ++ stL (idS x)) (hX : (P ++ (l.take k).flatMap fun x => stL (idS x)) = X)
    (hown : BRow y B (.slice (some ⟨g, 0, none⟩) (X.length + 4) cap) (X ++ [x.skip, x.next, x.op, x.rest])) (hb : Below B W y) : W6Loop l P B W (.slice (some ⟨g, 0, none⟩) (X.length + 4) cap) (.int .i64 ((k : Int) + 1)) y :=
  ⟨k + 1, hk, by simp, by rw [hnx, ← List.append_assoc, hX]; exact hown, hb⟩
/-- words, where the row grows beside all that is below B -/
theorem rw_step {W z : World} {B : Nat} {v : Value} {xs : List Int} {A : Option Addr} {l : List Int} {c : Nat} (hr : BRow z B v xs) (hb : Below B W z) (hl : NumsAt W A l B) (hW : B ≤ W.heap.size) (hn : l.length ≤ 70000) (hx : xs.length ≤ 10000000) :
    Calls Tryz.prog 33 #[v, .slice A l.length c] z fun e w' => ∃ v', e = .returned v' ∧ BRow w' B v' (xs ++ numsL l) ∧ Below B W w' := by
  have hs := hb.size
  refine (rwords_any z B v xs A l c hr ((hl.kept hb).more (by omega)) (fun h0 b o e k => ?_) hn hx (by omega)).mono ?_
  · have h1 := (World.ownsRow.lt hr b k).1
    have h2 := hl.low h0 b o e
    omega
  · rintro e w' ⟨v', rfl, h1, h2, h3⟩
    exact ⟨v', rfl, h1, Below.grown hb h2 (by omega) (fun j e => (World.ownsRow.lt hr j e).1)⟩

set_option maxRecDepth 100000 in
set_option maxHeartbeats 40000000 in
theorem rwrite_good (F : Fnt) (a : FAddr) (w : World) (hF : FontAt w F a w.heap.size) (hw : F.wf) (h : fontE F = 0) :
    Calls Tryz.prog 7 #[fontV F a] w fun e w' => ∃ v, e = .returned (.tuple #[v, .int .i64 (writeE F)]) ∧ BRow w' w.heap.size v (writeB F) ∧ Kept w w' := by
  obtain ⟨i0, hi, hz0, hz1, hz2⟩ := info_parts infoInt
  obtain ⟨j0, ji, jz0, jz1, jz2⟩ := info_parts infoU8
  obtain ⟨W0, hW0⟩ : ∃ W0, W0 = w.alloc (.cells #[.int .u32 F.check, .int .i64 F.design, .int .i64 F.first, .slice a.A0 F.chars.length a.c0, .slice a.A1 F.steps.length a.c1, .slice a.A2 F.kerns.length a.c2, .slice a.A3 F.pieces.length a.c3, .slice a.A4 F.params.length a.c4] 28) := ⟨_, rfl⟩
  have k0 : Kept w W0 := by rw [hW0]; exact walloc _ _
  have hB0 : FBox W0 w.heap.size F a := FBox.of_obj (by rw [hW0]; exact mkobj _ _)
  have hs := fun w' (hk : Kept w w') => Lib.hid (fcheck_any F a w' ((hF.kept hk).more hk.size) hw)
  rw [h] at hs
  have hbd := font_bd h
  have HT : Hid (∀ m ∈ F.chars, (m.tag = -1 ↔ m.tag < 0)) := Lib.hid (fun m hm => tag_there h hm)
  have HFt := Lib.hid (fun m hm => font_tag h (m := m) hm)
  have HF := Lib.hid hF
  have HWF := Lib.hid hw
  have HE := Lib.hid h
  have HW0 := Lib.hid hW0
  clear hW0 hF hw h
  go_enter Tryz.func7, Tryz.ntmps7
  go_wp2_with (fail)
  rw [← HW0.out]
  refine (hs _ k0).out.mono ?_
  rintro e w1 ⟨rfl, k1⟩
  have kw1 : Kept w w1 := k0.trans k1
  obtain ⟨W, hW⟩ : ∃ W, W = w1.alloc (.cells #[.slice none 0 0, .slice none 0 0, .slice none 0 0, .slice none 0 0] 68) := ⟨_, rfl⟩
  obtain ⟨D, hD⟩ : ∃ D, D = w1.heap.size := ⟨_, rfl⟩
  have hwD : w.heap.size < D := by rw [hD]; exact Nat.lt_of_lt_of_le hB0.lt k1.size
  have hDo : QObj W D (.slice none 0 0) (.slice none 0 0) (.slice none 0 0) (.slice none 0 0) := by rw [hW, hD]; exact mkobj _ _
  have kW : Kept w W := by rw [hW]; exact kw1.trans (walloc _ _)
  have hB : FBox W w.heap.size F a := by rw [hW]; exact (hB0.kept k1).kept (walloc _ _)
  have hFW : ∀ wr, Below D W wr → FBox wr w.heap.size F a := fun wr hb =>
    have q : ∀ o, wr.cell? ⟨w.heap.size, o, none⟩ = W.cell? ⟨w.heap.size, o, none⟩ := fun o => hb.cell (p := ⟨w.heap.size, o, none⟩) (by show w.heap.size < D; omega)
    ⟨(q 0).trans hB.b0, (q 1).trans hB.b1, (q 2).trans hB.b2, (q 3).trans hB.b3, (q 4).trans hB.b4, (q 5).trans hB.b5, (q 6).trans hB.b6, (q 7).trans hB.b7, Nat.lt_of_lt_of_le hB.lt hb.size⟩
  have hend : ∀ wr, Below D W wr → Kept w wr := fun wr hb => Below.trans kW (hb.mono (by omega))
  have HFm := Lib.hid HF.out.m
  have HW := Lib.hid hW
  have HD := Lib.hid hD
  have hD' : w1.heap.size = D := hD.symm
  clear hW hD hs k0 k1 kw1 hB0
  go_wp2_with (fail)
  rw [← HW.out]
  clear hD'
  go_loopw [6] (fun s6 wr => QLoop F W D s6 wr) (fun s6 _ => F.chars.length - (intOf s6).toNat)
  case atStart => exact ⟨0, _, _, _, _, Nat.zero_le _, rfl, hDo, ⟨World.ownsRow_nil _ _ _ _, World.ownsRow_nil _ _ _ _, World.ownsRow_nil _ _ _ _, World.ownsRow_nil _ _ _ _, apart_nil _, apart_nil _, apart_nil _, apart_nil _, apart_nil _, apart_nil _⟩, Below.refl _ _⟩
  case round =>
    obtain ⟨k, v0, v1, v2, v3, hk, rfl, hat⟩ := hrel
    obtain ⟨hobj, hrows, hbel⟩ := hat
    by_cases hlt : k < F.chars.length
    · have d0 : decide ((k : Int) < F.chars.length) = true := decide_eq_true (by omega)
      obtain ⟨b, o, hA, hbl, hcell⟩ := HFm.out (by omega)
      obtain ⟨c0, c1, c2, c3, c4, c5⟩ := hcell k hlt
      have hq : ∀ j, wr.cell? ⟨b, j, none⟩ = w.cell? ⟨b, j, none⟩ := fun j => (hend wr hbel).cell (p := ⟨b, j, none⟩) hbl
      have e0 := (hq _).trans c0
      have e1 := (hq _).trans c1
      have e2 := (hq _).trans c2
      have e3 := (hq _).trans c3
      have e4 := (hq _).trans c4
      have e5 := (hq _).trans c5
      clear hq c0 c1 c2 c3 c4 c5 hcell
      have hnext := there_next hlt
      have htg := HT.out _ (List.getElem_mem hlt)
      have hcl := col_len (F.chars.take k)
      have hkl : (F.chars.take k).length ≤ k := by rw [List.length_take]; exact Nat.min_le_left _ _
      have Hcols : Hid (colW (F.chars.take (k + 1)) = colW (F.chars.take k) ++ (if F.chars[k].tag = -1 then [] else [F.chars[k].w]) ∧ colH (F.chars.take (k + 1)) = colH (F.chars.take k) ++ (if F.chars[k].tag = -1 then [] else [F.chars[k].h]) ∧ colD (F.chars.take (k + 1)) = colD (F.chars.take k) ++ (if F.chars[k].tag = -1 then [] else [F.chars[k].d]) ∧ colI (F.chars.take (k + 1)) = colI (F.chars.take k) ++ (if F.chars[k].tag = -1 then [] else [F.chars[k].it])) := by
        unfold Hid colW colH colD colI
        rw [hnext]
        by_cases ht : F.chars[k].tag = -1
        · simp [ht]
        · simp [ht]
      clear hnext
      generalize F.chars[k] = m at *
      obtain ⟨mw, mh, md, mi, mt, mr⟩ := m
      dsimp only at *
      obtain ⟨A0, n0, A1, n1, A2, n2, A3, n3, A4, n4⟩ := a
      obtain rfl : A0 = some ⟨b, o, none⟩ := hA
      obtain ⟨b0, b1, b2, b3, b4, b5, b6, b7, bl⟩ := hFW wr hbel
      obtain ⟨U, hU⟩ : ∃ U, U = wr.alloc (.cells #[.int .i64 mw, .int .i64 mh, .int .i64 md, .int .i64 mi, .int .i64 mt, .int .i64 mr] 43) := ⟨_, rfl⟩
      have kU : Kept wr U := by rw [hU]; exact walloc _ _
      have hbU : Below D W U := Below.trans hbel (kU.mono (by have := hobj.cells.2.2.2.2.2; omega))
      have hmU : U.heap[wr.heap.size]? = some (.cells #[.int .i64 mw, .int .i64 mh, .int .i64 md, .int .i64 mi, .int .i64 mt, .int .i64 mr] 43 (0, 0)) := by rw [hU]; exact mkobj _ _
      have hMlt : D < wr.heap.size := hobj.cells.2.2.2.2.2
      have HU := Lib.hid hU
      have HRw := Lib.hid hrows
      obtain ⟨z0, z1, z2, z3, zf, zl⟩ := hobj.cells
      have hoU := hobj.grown (row := none) (grown_kept kU) (by simp)
      have hrU := hrows.kept kU
      obtain ⟨t0, t1, t2, t3, t4, t5, tf, tl⟩ := mbox hmU
      clear hU hobj hrows
      by_cases ht : mt < 0
      · have z : decide (0 ≤ mt) = false := decide_eq_false (by omega)
        have ht1 : mt = -1 := htg.2 ht
        rw [if_pos ht1, if_pos ht1, if_pos ht1, if_pos ht1] at Hcols
        simp only [List.append_nil] at Hcols
        have HX : Hid (QAt F W D (k + 1) v0 v1 v2 v3 U) := Lib.hid ⟨hoU, by rw [Hcols.out.1, Hcols.out.2.1, Hcols.out.2.2.1, Hcols.out.2.2.2]; exact hrU, hbU⟩
        clear ht ht1 htg Hcols
        go_wp2_with (fail)
        try rw [← HU.out]
        go_roundw
        case rel => exact ⟨k + 1, v0, v1, v2, v3, by omega, by go_num, by first | exact HX.out | (rw [← HU.out]; exact HX.out)⟩
        case measure => simp [intOf]; omega
      · have z : decide (0 ≤ mt) = true := decide_eq_true (by omega)
        have ht1 : ¬ mt = -1 := by omega
        rw [if_neg ht1, if_neg ht1, if_neg ht1, if_neg ht1] at Hcols
        have hsz0 : U.heap.size = wr.heap.size + 1 := by rw [HU.out]; simp
        have O' := Lib.hid hoU
        have Rr' := Lib.hid hrU
        have hBx := hbU
        obtain ⟨g0, g1, g2, g3, gf, gl⟩ := hoU.cells
        clear ht ht1 htg hoU hrU b0 b1 b2 b4 b5 b6 b7
        go_wp2_with (at_builtin; rw [← HU.out]; refine wpList_append_own_at _ rfl _ _ 25 rfl (D + 1) 3 i0 (.int .i64 0) 1 8 Tryz.underlying25 hi hz0 hz1 hz2 rfl (by decide) v0 (colW (F.chars.take k)).length ((colW (F.chars.take k)).map (Value.int .i64)) rfl (World.ownsRow.alloc Rr'.out.r0 _) ⟨(wr.heap.size + 1), 0, none⟩ 1 1 [.int .i64 mw] rfl rfl (fun j u h => hsz0 ▸ cell_one_new U _ _ j u h) ?c1 ?c2 ?c3 ?c4 ?_)
        case c1 => first | rfl | (intro q hq; rw [List.mem_singleton] at hq; subst hq; rfl)
        case c2 => unfold maxLen; omega
        case c3 => omega
        case c4 => first | omega | (simp; omega)
        intro q0 y0 hown0 hgr0 _ hpl0
        obtain ⟨p0, l0, c0, rfl⟩ := own_slice hown0
        have hlm0 : wr.heap.size < U.heap.size := mlt_of hmU
        have ka0 : Kept U (U.alloc (.cells #[.int .i64 mw] 3)) := walloc _ _
        have ho0 := (QObj.grown (row := none) O'.out (grown_kept ka0) (by simp)).low (World.ownsRow.alloc Rr'.out.r0 _) (by omega) hgr0
        have hr0 := (Rr'.out.kept ka0).set0 hgr0 (show IRow y0 (D + 1) (.slice p0 l0 c0) ((colW (F.chars.take k)) ++ [mw]) by unfold IRow; rw [List.map_append, show ((colW (F.chars.take k)) ++ [mw]).length = (colW (F.chars.take k)).length + 1 by simp]; exact hown0) (hpl0.imp id fun e => ⟨_, e, by simp; omega⟩)
        have hdl0 : D < U.heap.size := (QObj.cells O'.out).2.2.2.2.2
        have hb0 : Below D W y0 := Below.grown (hBx.alloc (by omega) _) hgr0 (by simp; omega) (fun j e => by have := (World.ownsRow.lt HRw.out.r0 j e).1; omega)
        have hm0 := (hgr0.block wr.heap.size (by simp; omega) (fun e => by have := (World.ownsRow.lt HRw.out.r0 wr.heap.size e.symm).2; omega)).trans ((ka0.block wr.heap.size hlm0).trans hmU)
        obtain ⟨Y0, hY0⟩ : ∃ Y, Y = y0.setCell ⟨D, 0, none⟩ (.slice p0 l0 c0) := ⟨_, rfl⟩
        obtain ⟨w00, w01, w02, w03, w0f, w0l⟩ := ho0.cells
        have O0 := Lib.hid (show QObj Y0 D (.slice p0 l0 c0) v1 v2 v3 by rw [hY0]; exact ho0.set0)
        have Rr0 := Lib.hid (show Rows4 Y0 (D + 1) (.slice p0 l0 c0) v1 v2 v3 ((colW (F.chars.take k)) ++ [mw]) (colH (F.chars.take k)) (colD (F.chars.take k)) (colI (F.chars.take k)) by rw [hY0]; exact hr0.store (by omega))
        have hB0 : Below D W Y0 := by rw [hY0]; exact hb0.setCell (Nat.le_refl _) _
        have hM0 : Y0.heap[wr.heap.size]? = some (.cells #[.int .i64 mw, .int .i64 mh, .int .i64 md, .int .i64 mi, .int .i64 mt, .int .i64 mr] 43 (0, 0)) := by rw [hY0, (grown_setCell y0 D 0 (.slice p0 l0 c0)).block wr.heap.size (by have := hgr0.size; simp at this; omega) (by simp; omega)]; exact hm0
        obtain ⟨t0, t1, t2, t3, t4, t5, tf, tl⟩ := mbox hm0
        have hsz1 : Y0.heap.size = y0.heap.size := by rw [hY0]; simp [World.setCell]
        have HY0 := Lib.hid hY0
        clear hY0 hm0 hown0 hgr0 hpl0 ho0 hr0
        go_wp2_with (at_builtin; rw [← HY0.out]; refine wpList_append_own_at _ rfl _ _ 25 rfl (D + 1) 3 i0 (.int .i64 0) 1 8 Tryz.underlying25 hi hz0 hz1 hz2 rfl (by decide) v1 (colH (F.chars.take k)).length ((colH (F.chars.take k)).map (Value.int .i64)) rfl (World.ownsRow.alloc Rr0.out.r1 _) ⟨y0.heap.size, 0, none⟩ 1 1 [.int .i64 mh] rfl rfl (fun j u h => hsz1 ▸ cell_one_new Y0 _ _ j u h) ?c1 ?c2 ?c3 ?c4 ?_)
        case c1 => first | rfl | (intro q hq; rw [List.mem_singleton] at hq; subst hq; rfl)
        case c2 => unfold maxLen; omega
        case c3 => omega
        case c4 => first | omega | (simp; omega)
        intro q1 y1 hown1 hgr1 _ hpl1
        obtain ⟨p1, l1, c1, rfl⟩ := own_slice hown1
        have hlm1 : wr.heap.size < Y0.heap.size := mlt_of hM0
        have ka1 : Kept Y0 (Y0.alloc (.cells #[.int .i64 mh] 3)) := walloc _ _
        have ho1 := (QObj.grown (row := none) O0.out (grown_kept ka1) (by simp)).low (World.ownsRow.alloc Rr0.out.r1 _) (by omega) hgr1
        have hr1 := (Rr0.out.kept ka1).set1 hgr1 (show IRow y1 (D + 1) (.slice p1 l1 c1) ((colH (F.chars.take k)) ++ [mh]) by unfold IRow; rw [List.map_append, show ((colH (F.chars.take k)) ++ [mh]).length = (colH (F.chars.take k)).length + 1 by simp]; exact hown1) (hpl1.imp id fun e => ⟨_, e, by simp; omega⟩)
        have hdl1 : D < Y0.heap.size := (QObj.cells O0.out).2.2.2.2.2
        have hb1 : Below D W y1 := Below.grown (hB0.alloc (by omega) _) hgr1 (by simp; omega) (fun j e => by have := (World.ownsRow.lt HRw.out.r1 j e).1; omega)
        have hm1 := (hgr1.block wr.heap.size (by simp; omega) (fun e => by have := (World.ownsRow.lt HRw.out.r1 wr.heap.size e.symm).2; omega)).trans ((ka1.block wr.heap.size hlm1).trans hM0)
        obtain ⟨Y1, hY1⟩ : ∃ Y, Y = y1.setCell ⟨D, 1, none⟩ (.slice p1 l1 c1) := ⟨_, rfl⟩
        obtain ⟨w10, w11, w12, w13, w1f, w1l⟩ := ho1.cells
        have O1 := Lib.hid (show QObj Y1 D (.slice p0 l0 c0) (.slice p1 l1 c1) v2 v3 by rw [hY1]; exact ho1.set1)
        have Rr1 := Lib.hid (show Rows4 Y1 (D + 1) (.slice p0 l0 c0) (.slice p1 l1 c1) v2 v3 ((colW (F.chars.take k)) ++ [mw]) ((colH (F.chars.take k)) ++ [mh]) (colD (F.chars.take k)) (colI (F.chars.take k)) by rw [hY1]; exact hr1.store (by omega))
        have hB1 : Below D W Y1 := by rw [hY1]; exact hb1.setCell (Nat.le_refl _) _
        have hM1 : Y1.heap[wr.heap.size]? = some (.cells #[.int .i64 mw, .int .i64 mh, .int .i64 md, .int .i64 mi, .int .i64 mt, .int .i64 mr] 43 (0, 0)) := by rw [hY1, (grown_setCell y1 D 1 (.slice p1 l1 c1)).block wr.heap.size (by have := hgr1.size; simp at this; omega) (by simp; omega)]; exact hm1
        obtain ⟨t0, t1, t2, t3, t4, t5, tf, tl⟩ := mbox hm1
        have hsz2 : Y1.heap.size = y1.heap.size := by rw [hY1]; simp [World.setCell]
        have HY1 := Lib.hid hY1
        clear hY1 hm1 hown1 hgr1 hpl1 ho1 hr1
        go_wp2_with (at_builtin; rw [← HY1.out]; refine wpList_append_own_at _ rfl _ _ 25 rfl (D + 1) 3 i0 (.int .i64 0) 1 8 Tryz.underlying25 hi hz0 hz1 hz2 rfl (by decide) v2 (colD (F.chars.take k)).length ((colD (F.chars.take k)).map (Value.int .i64)) rfl (World.ownsRow.alloc Rr1.out.r2 _) ⟨y1.heap.size, 0, none⟩ 1 1 [.int .i64 md] rfl rfl (fun j u h => hsz2 ▸ cell_one_new Y1 _ _ j u h) ?c1 ?c2 ?c3 ?c4 ?_)
        case c1 => first | rfl | (intro q hq; rw [List.mem_singleton] at hq; subst hq; rfl)
        case c2 => unfold maxLen; omega
        case c3 => omega
        case c4 => first | omega | (simp; omega)
        intro q2 y2 hown2 hgr2 _ hpl2
        obtain ⟨p2, l2, c2, rfl⟩ := own_slice hown2
        have hlm2 : wr.heap.size < Y1.heap.size := mlt_of hM1
        have ka2 : Kept Y1 (Y1.alloc (.cells #[.int .i64 md] 3)) := walloc _ _
        have ho2 := (QObj.grown (row := none) O1.out (grown_kept ka2) (by simp)).low (World.ownsRow.alloc Rr1.out.r2 _) (by omega) hgr2
        have hr2 := (Rr1.out.kept ka2).set2 hgr2 (show IRow y2 (D + 1) (.slice p2 l2 c2) ((colD (F.chars.take k)) ++ [md]) by unfold IRow; rw [List.map_append, show ((colD (F.chars.take k)) ++ [md]).length = (colD (F.chars.take k)).length + 1 by simp]; exact hown2) (hpl2.imp id fun e => ⟨_, e, by simp; omega⟩)
        have hdl2 : D < Y1.heap.size := (QObj.cells O1.out).2.2.2.2.2
        have hb2 : Below D W y2 := Below.grown (hB1.alloc (by omega) _) hgr2 (by simp; omega) (fun j e => by have := (World.ownsRow.lt HRw.out.r2 j e).1; omega)
        have hm2 := (hgr2.block wr.heap.size (by simp; omega) (fun e => by have := (World.ownsRow.lt HRw.out.r2 wr.heap.size e.symm).2; omega)).trans ((ka2.block wr.heap.size hlm2).trans hM1)
        obtain ⟨Y2, hY2⟩ : ∃ Y, Y = y2.setCell ⟨D, 2, none⟩ (.slice p2 l2 c2) := ⟨_, rfl⟩
        obtain ⟨w20, w21, w22, w23, w2f, w2l⟩ := ho2.cells
        have O2 := Lib.hid (show QObj Y2 D (.slice p0 l0 c0) (.slice p1 l1 c1) (.slice p2 l2 c2) v3 by rw [hY2]; exact ho2.set2)
        have Rr2 := Lib.hid (show Rows4 Y2 (D + 1) (.slice p0 l0 c0) (.slice p1 l1 c1) (.slice p2 l2 c2) v3 ((colW (F.chars.take k)) ++ [mw]) ((colH (F.chars.take k)) ++ [mh]) ((colD (F.chars.take k)) ++ [md]) (colI (F.chars.take k)) by rw [hY2]; exact hr2.store (by omega))
        have hB2 : Below D W Y2 := by rw [hY2]; exact hb2.setCell (Nat.le_refl _) _
        have hM2 : Y2.heap[wr.heap.size]? = some (.cells #[.int .i64 mw, .int .i64 mh, .int .i64 md, .int .i64 mi, .int .i64 mt, .int .i64 mr] 43 (0, 0)) := by rw [hY2, (grown_setCell y2 D 2 (.slice p2 l2 c2)).block wr.heap.size (by have := hgr2.size; simp at this; omega) (by simp; omega)]; exact hm2
        obtain ⟨t0, t1, t2, t3, t4, t5, tf, tl⟩ := mbox hm2
        have hsz3 : Y2.heap.size = y2.heap.size := by rw [hY2]; simp [World.setCell]
        have HY2 := Lib.hid hY2
        clear hY2 hm2 hown2 hgr2 hpl2 ho2 hr2
        go_wp2_with (at_builtin; rw [← HY2.out]; refine wpList_append_own_at _ rfl _ _ 25 rfl (D + 1) 3 i0 (.int .i64 0) 1 8 Tryz.underlying25 hi hz0 hz1 hz2 rfl (by decide) v3 (colI (F.chars.take k)).length ((colI (F.chars.take k)).map (Value.int .i64)) rfl (World.ownsRow.alloc Rr2.out.r3 _) ⟨y2.heap.size, 0, none⟩ 1 1 [.int .i64 mi] rfl rfl (fun j u h => hsz3 ▸ cell_one_new Y2 _ _ j u h) ?c1 ?c2 ?c3 ?c4 ?_)
        case c1 => first | rfl | (intro q hq; rw [List.mem_singleton] at hq; subst hq; rfl)
        case c2 => unfold maxLen; omega
        case c3 => omega
        case c4 => first | omega | (simp; omega)
        intro q3 y3 hown3 hgr3 _ hpl3
        obtain ⟨p3, l3, c3, rfl⟩ := own_slice hown3
        have hlm3 : wr.heap.size < Y2.heap.size := mlt_of hM2
        have ka3 : Kept Y2 (Y2.alloc (.cells #[.int .i64 mi] 3)) := walloc _ _
        have ho3 := (QObj.grown (row := none) O2.out (grown_kept ka3) (by simp)).low (World.ownsRow.alloc Rr2.out.r3 _) (by omega) hgr3
        have hr3 := (Rr2.out.kept ka3).set3 hgr3 (show IRow y3 (D + 1) (.slice p3 l3 c3) ((colI (F.chars.take k)) ++ [mi]) by unfold IRow; rw [List.map_append, show ((colI (F.chars.take k)) ++ [mi]).length = (colI (F.chars.take k)).length + 1 by simp]; exact hown3) (hpl3.imp id fun e => ⟨_, e, by simp; omega⟩)
        have hdl3 : D < Y2.heap.size := (QObj.cells O2.out).2.2.2.2.2
        have hb3 : Below D W y3 := Below.grown (hB2.alloc (by omega) _) hgr3 (by simp; omega) (fun j e => by have := (World.ownsRow.lt HRw.out.r3 j e).1; omega)
        have hm3 := (hgr3.block wr.heap.size (by simp; omega) (fun e => by have := (World.ownsRow.lt HRw.out.r3 wr.heap.size e.symm).2; omega)).trans ((ka3.block wr.heap.size hlm3).trans hM2)
        obtain ⟨Y3, hY3⟩ : ∃ Y, Y = y3.setCell ⟨D, 3, none⟩ (.slice p3 l3 c3) := ⟨_, rfl⟩
        obtain ⟨w30, w31, w32, w33, w3f, w3l⟩ := ho3.cells
        have O3 := Lib.hid (show QObj Y3 D (.slice p0 l0 c0) (.slice p1 l1 c1) (.slice p2 l2 c2) (.slice p3 l3 c3) by rw [hY3]; exact ho3.set3)
        have Rr3 := Lib.hid (show Rows4 Y3 (D + 1) (.slice p0 l0 c0) (.slice p1 l1 c1) (.slice p2 l2 c2) (.slice p3 l3 c3) ((colW (F.chars.take k)) ++ [mw]) ((colH (F.chars.take k)) ++ [mh]) ((colD (F.chars.take k)) ++ [md]) ((colI (F.chars.take k)) ++ [mi]) by rw [hY3]; exact hr3.store (by omega))
        have hB3 : Below D W Y3 := by rw [hY3]; exact hb3.setCell (Nat.le_refl _) _
        have hM3 : Y3.heap[wr.heap.size]? = some (.cells #[.int .i64 mw, .int .i64 mh, .int .i64 md, .int .i64 mi, .int .i64 mt, .int .i64 mr] 43 (0, 0)) := by rw [hY3, (grown_setCell y3 D 3 (.slice p3 l3 c3)).block wr.heap.size (by have := hgr3.size; simp at this; omega) (by simp; omega)]; exact hm3
        obtain ⟨t0, t1, t2, t3, t4, t5, tf, tl⟩ := mbox hm3
        have hsz4 : Y3.heap.size = y3.heap.size := by rw [hY3]; simp [World.setCell]
        have HY3 := Lib.hid hY3
        clear hY3 hm3 hown3 hgr3 hpl3 ho3 hr3
        go_wp2_with (fail)
        try rw [← HY3.out]
        go_roundw
        case rel => exact ⟨k + 1, (.slice p0 l0 c0), (.slice p1 l1 c1), (.slice p2 l2 c2), (.slice p3 l3 c3), by omega, by go_num, by first | exact ⟨O3.out, by rw [Hcols.out.1, Hcols.out.2.1, Hcols.out.2.2.1, Hcols.out.2.2.2]; exact Rr3.out, hB3⟩ | (rw [← HY3.out]; exact ⟨O3.out, by rw [Hcols.out.1, Hcols.out.2.1, Hcols.out.2.2.1, Hcols.out.2.2.2]; exact Rr3.out, hB3⟩)⟩
        case measure => simp [intOf]; omega
    · have d0 : decide ((k : Int) < F.chars.length) = false := decide_eq_false (by omega)
      have hall : F.chars.take k = F.chars := List.take_of_length_le (by omega)
      rw [hall] at hrows
      rename World => wx
      have hcl := col_len F.chars
      obtain ⟨n0, n1, n2, n3⟩ := hcl
      obtain ⟨a0, b0, c0, rfl⟩ := own_slice hrows.r0
      obtain ⟨a1, b1, c1, rfl⟩ := own_slice hrows.r1
      obtain ⟨a2, b2, c2, rfl⟩ := own_slice hrows.r2
      obtain ⟨a3, b3, c3, rfl⟩ := own_slice hrows.r3
      obtain ⟨x0, _, rfl⟩ := own_nums' hrows.r0
      obtain ⟨x1, _, rfl⟩ := own_nums' hrows.r1
      obtain ⟨x2, _, rfl⟩ := own_nums' hrows.r2
      obtain ⟨x3, _, rfl⟩ := own_nums' hrows.r3
      obtain ⟨E, hE⟩ : ∃ E, E = wx.heap.size := ⟨_, rfl⟩
      obtain ⟨W2, hW2⟩ : ∃ W2, W2 = wx.alloc (.cells #[.slice none 0 0, .slice none 0 0, .slice none 0 0, .slice none 0 0] 68) := ⟨_, rfl⟩
      have k2 : Kept wx W2 := by rw [hW2]; exact walloc _ _
      have hEo : QObj W2 E (.slice none 0 0) (.slice none 0 0) (.slice none 0 0) (.slice none 0 0) := by rw [hW2, hE]; exact mkobj _ _
      rw [← hE] at x0 x1 x2 x3
      have hDE : D < E := by rw [hE]; exact hobj.cells.2.2.2.2.2
      have k2E : Below E wx W2 := by rw [hE]; exact k2
      have hD2 : QObj W2 D _ _ _ _ := hobj.below k2E hDE
      have HV0 := fun w' (kk : Below E W2 w') => Lib.hid (rvalues_any false a0 (colW F.chars) c0 w' (tW F) ((x0.kept (k2E.trans kk)).more (Nat.le_trans (Nat.le_of_lt hEo.cells.2.2.2.2.2) kk.size)) (by omega) (rising_strict _) (rising_iff _) (rising_len _))
      have HV1 := fun w' (kk : Below E W2 w') => Lib.hid (rvalues_any true a1 (colH F.chars) c1 w' (tH F) ((x1.kept (k2E.trans kk)).more (Nat.le_trans (Nat.le_of_lt hEo.cells.2.2.2.2.2) kk.size)) (by omega) (noZero_strict _) (noZero_iff _) (Nat.le_trans (noZero_len _) (rising_len _)))
      have HV2 := fun w' (kk : Below E W2 w') => Lib.hid (rvalues_any true a2 (colD F.chars) c2 w' (tD F) ((x2.kept (k2E.trans kk)).more (Nat.le_trans (Nat.le_of_lt hEo.cells.2.2.2.2.2) kk.size)) (by omega) (noZero_strict _) (noZero_iff _) (Nat.le_trans (noZero_len _) (rising_len _)))
      have HV3 := fun w' (kk : Below E W2 w') => Lib.hid (rvalues_any true a3 (colI F.chars) c3 w' (tI F) ((x3.kept (k2E.trans kk)).more (Nat.le_trans (Nat.le_of_lt hEo.cells.2.2.2.2.2) kk.size)) (by omega) (noZero_strict _) (noZero_iff _) (Nat.le_trans (noZero_len _) (rising_len _)))
      generalize colW F.chars = X0 at *
      generalize colH F.chars = X1 at *
      generalize colD F.chars = X2 at *
      generalize colI F.chars = X3 at *
      have hFB2 : ∀ z, Below E W2 z → FBox z w.heap.size F a := fun z hb =>
        have q0 := hFW wx hbel
        have q : ∀ o, z.cell? ⟨w.heap.size, o, none⟩ = wx.cell? ⟨w.heap.size, o, none⟩ := fun o => (k2E.trans hb).cell (p := ⟨w.heap.size, o, none⟩) (by show w.heap.size < E; omega)
        ⟨(q 0).trans q0.b0, (q 1).trans q0.b1, (q 2).trans q0.b2, (q 3).trans q0.b3, (q 4).trans q0.b4, (q 5).trans q0.b5, (q 6).trans q0.b6, (q 7).trans q0.b7, Nat.lt_of_lt_of_le q0.lt (k2E.trans hb).size⟩
      have hend2 : ∀ z, Below E W2 z → Kept w z := fun z hb => Below.trans (hend wx hbel) ((k2E.trans hb).mono (by omega))
      have hE' : wx.heap.size = E := hE.symm
      have HW2 := Lib.hid hW2
      have hwE : w.heap.size < E := by omega
      obtain ⟨z0, z1, z2, z3, z4, z5, z6, z7, zl⟩ := hFW wx hbel
      clear hW2 hE hrows hobj hbel hall k2 k2E x0 x1 x2 x3 hFW hend
      go_wp2_with (fail)
      rw [← HW2.out]
      clear hE' z0 z1 z2 z3 z4 z5 z6 z7 zl
      go_loopw [9] (fun s9 wr => T2Loop F W2 E s9 wr) (fun s9 _ => 4 - (intOf s9).toNat)
      case atStart => exact ⟨0, _, _, _, _, by omega, rfl, hEo, .nil (by omega), .nil (by omega), .nil (by omega), .nil (by omega), Below.refl _ _⟩
      case round =>
        obtain ⟨i, u0, u1, u2, u3, hi4, rfl, hobj, t0, t1, t2, t3, hbel⟩ := hrel
        obtain ⟨d1, d2, d3, d4, df, dl⟩ := (hD2.below hbel hDE).cells
        obtain rfl | rfl | rfl | rfl | rfl : i = 0 ∨ i = 1 ∨ i = 2 ∨ i = 3 ∨ i = 4 := by omega
        · have hcall := HV0 wr hbel
          have hEw : E < wr.heap.size := hobj.cells.2.2.2.2.2
          obtain rfl := t0.no (by omega)
          obtain rfl := t1.no (by omega)
          obtain rfl := t2.no (by omega)
          obtain rfl := t3.no (by omega)
          have HO := Lib.hid hobj
          clear t0 t1 t2 t3 hobj
          go_wp2_with (fail)
          refine hcall.out.mono ?_
          rintro e y ⟨v, rfl, hv, ky⟩
          obtain ⟨A', m', c', rfl⟩ := own_slice hv
          have kyE : Below E wr y := ky.mono (by omega)
          have hy := HO.out.below ky hEw
          obtain ⟨f0, f1, f2, f3, ff, fl⟩ := hy.cells
          have HY := Lib.hid hy
          have hv' := irow_base hv (show E + 1 ≤ wr.heap.size by omega)
          clear hv hy
          go_wp2_with (fail)
          go_roundw
          case rel => exact ⟨1, _, _, _, _, by omega, by go_num, HY.out.set0, .mk (irow_put hv') (by omega), .nil (by omega), .nil (by omega), .nil (by omega), (hbel.trans kyE).setCell (Nat.le_refl _) _⟩
          case measure => simp [intOf]
        · have hcall := HV1 wr hbel
          have hEw : E < wr.heap.size := hobj.cells.2.2.2.2.2
          have r0 := t0.yes (by omega)
          obtain rfl := t1.no (by omega)
          obtain rfl := t2.no (by omega)
          obtain rfl := t3.no (by omega)
          have HO := Lib.hid hobj
          clear t0 t1 t2 t3 hobj
          go_wp2_with (fail)
          refine hcall.out.mono ?_
          rintro e y ⟨v, rfl, hv, ky⟩
          obtain ⟨A', m', c', rfl⟩ := own_slice hv
          have kyE : Below E wr y := ky.mono (by omega)
          have hy := HO.out.below ky hEw
          obtain ⟨f0, f1, f2, f3, ff, fl⟩ := hy.cells
          have HY := Lib.hid hy
          have hv' := irow_base hv (show E + 1 ≤ wr.heap.size by omega)
          clear hv hy
          go_wp2_with (fail)
          go_roundw
          case rel => exact ⟨2, _, _, _, _, by omega, by go_num, HY.out.set1, .mk (irow_put (irow_kept r0 ky)) (by omega), .mk (irow_put hv') (by omega), .nil (by omega), .nil (by omega), (hbel.trans kyE).setCell (Nat.le_refl _) _⟩
          case measure => simp [intOf]
        · have hcall := HV2 wr hbel
          have hEw : E < wr.heap.size := hobj.cells.2.2.2.2.2
          have r0 := t0.yes (by omega)
          have r1 := t1.yes (by omega)
          obtain rfl := t2.no (by omega)
          obtain rfl := t3.no (by omega)
          have HO := Lib.hid hobj
          clear t0 t1 t2 t3 hobj
          go_wp2_with (fail)
          refine hcall.out.mono ?_
          rintro e y ⟨v, rfl, hv, ky⟩
          obtain ⟨A', m', c', rfl⟩ := own_slice hv
          have kyE : Below E wr y := ky.mono (by omega)
          have hy := HO.out.below ky hEw
          obtain ⟨f0, f1, f2, f3, ff, fl⟩ := hy.cells
          have HY := Lib.hid hy
          have hv' := irow_base hv (show E + 1 ≤ wr.heap.size by omega)
          clear hv hy
          go_wp2_with (fail)
          go_roundw
          case rel => exact ⟨3, _, _, _, _, by omega, by go_num, HY.out.set2, .mk (irow_put (irow_kept r0 ky)) (by omega), .mk (irow_put (irow_kept r1 ky)) (by omega), .mk (irow_put hv') (by omega), .nil (by omega), (hbel.trans kyE).setCell (Nat.le_refl _) _⟩
          case measure => simp [intOf]
        · have hcall := HV3 wr hbel
          have hEw : E < wr.heap.size := hobj.cells.2.2.2.2.2
          have r0 := t0.yes (by omega)
          have r1 := t1.yes (by omega)
          have r2 := t2.yes (by omega)
          obtain rfl := t3.no (by omega)
          have HO := Lib.hid hobj
          clear t0 t1 t2 t3 hobj
          go_wp2_with (fail)
          refine hcall.out.mono ?_
          rintro e y ⟨v, rfl, hv, ky⟩
          obtain ⟨A', m', c', rfl⟩ := own_slice hv
          have kyE : Below E wr y := ky.mono (by omega)
          have hy := HO.out.below ky hEw
          obtain ⟨f0, f1, f2, f3, ff, fl⟩ := hy.cells
          have HY := Lib.hid hy
          have hv' := irow_base hv (show E + 1 ≤ wr.heap.size by omega)
          clear hv hy
          go_wp2_with (fail)
          go_roundw
          case rel => exact ⟨4, _, _, _, _, by omega, by go_num, HY.out.set3, .mk (irow_put (irow_kept r0 ky)) (by omega), .mk (irow_put (irow_kept r1 ky)) (by omega), .mk (irow_put (irow_kept r2 ky)) (by omega), .mk (irow_put hv') (by omega), (hbel.trans kyE).setCell (Nat.le_refl _) _⟩
          case measure => simp [intOf]
        · have r0 := t0.yes (by omega)
          have r1 := t1.yes (by omega)
          have r2 := t2.yes (by omega)
          have r3 := t3.yes (by omega)
          clear t0 t1 t2 t3
          rename World => wt
          obtain ⟨a0, b0, c0, rfl⟩ := own_slice r0
          obtain ⟨a1, b1, c1, rfl⟩ := own_slice r1
          obtain ⟨a2, b2, c2, rfl⟩ := own_slice r2
          obtain ⟨a3, b3, c3, rfl⟩ := own_slice r3
          obtain ⟨x0, y0, rfl⟩ := own_nums' r0
          obtain ⟨x1, y1, rfl⟩ := own_nums' r1
          obtain ⟨x2, y2, rfl⟩ := own_nums' r2
          obtain ⟨x3, y3, rfl⟩ := own_nums' r3
          obtain ⟨q0, q1, q2, q3⟩ := tabs_len F
          obtain ⟨bd0, bd1, bd2, bd3, bd4, bd5⟩ := hbd
          have hsz : sizesB F = decide ((0 :: tW F).length ≤ 256 ∧ (0 :: tH F).length ≤ 16 ∧ (0 :: tD F).length ≤ 16 ∧ (0 :: tI F).length ≤ 64 ∧ (wCnt F).lf ≤ 32767) := rfl
          have hlf := wCnt_lf F
          rw [hlf] at hsz
          have l0 : (0 :: tW F).length = (tW F).length + 1 := rfl
          have l1 : (0 :: tH F).length = (tH F).length + 1 := rfl
          have l2 : (0 :: tD F).length = (tD F).length + 1 := rfl
          have l3 : (0 :: tI F).length = (tI F).length + 1 := rfl
          have hwe : writeE F = if sizesB F = true then 0 else 6 := by unfold writeE; rw [if_pos HE.out]
          have Hno : Hid (sizesB F = false → writeE F = 6 ∧ writeB F = []) := Lib.hid (fun hh => by
            have h6 : writeE F = 6 := by rw [hwe, hh]; rfl
            exact ⟨h6, writeB_no6 h6⟩)
          have Hyes : Hid (sizesB F = true → writeE F = 0 ∧ writeB F = writeL F) := Lib.hid (fun hh => by
            have h6 : writeE F = 0 := by rw [hwe, hh]; rfl
            exact ⟨h6, by unfold writeB; rw [if_pos h6]⟩)
          have Hlf : Hid ((wCnt F).lf = 8 + F.chars.length + (0 :: tW F).length + (0 :: tH F).length + (0 :: tD F).length + (0 :: tI F).length + F.steps.length + F.kerns.length + F.pieces.length + F.params.length) := Lib.hid hlf
          have Hsz := Lib.hid hsz
          clear hlf hsz hwe
          generalize hL0 : (0 :: tW F).length = L0 at *
          generalize hL1 : (0 :: tH F).length = L1 at *
          generalize hL2 : (0 :: tD F).length = L2 at *
          generalize hL3 : (0 :: tI F).length = L3 at *
          have HL := Lib.hid (And.intro hL0 (And.intro hL1 (And.intro hL2 hL3)))
          clear hL0 hL1 hL2 hL3
          have hEt : E < wt.heap.size := hobj.cells.2.2.2.2.2
          have kt : Kept w wt := hend2 wt hbel
          have hFB3 : ∀ z, Below wt.heap.size wt z → FBox z w.heap.size F a := fun z hb => hFB2 z (hbel.trans (hb.mono (Nat.le_of_lt hEt)))
          have hQ3 : ∀ z, Below wt.heap.size wt z → QObj z E (.slice a0 L0 c0) (.slice a1 L1 c1) (.slice a2 L2 c2) (.slice a3 L3 c3) := fun z hb => hobj.below hb hEt
          have hend3 : ∀ z, Below wt.heap.size wt z → Kept w z := fun z hb => kt.trans hb
          have HN0 := Lib.hid x0
          have HN1 := Lib.hid x1
          have HN2 := Lib.hid x2
          have HN3 := Lib.hid x3
          obtain ⟨o0, o1, o2, o3, of, ol⟩ := hobj.cells
          obtain ⟨z0, z1, z2, z3, z4, z5, z6, z7, zl⟩ := hFB2 wt hbel
          clear r0 r1 r2 r3 hbel hobj hD2 HV0 HV1 HV2 HV3 hFB2 hend2 x0 x1 x2 x3
          by_cases g0 : 256 < L0
          · have d0 : decide ((256 : Int) < L0) = true := decide_eq_true (by omega)
            have HX := Lib.hid (Hno.out (by rw [Hsz.out]; exact decide_eq_false (by omega)))
            go_wp2_with (fail)
            go_ret2
            rw [HX.out.1, HX.out.2]
            exact ⟨_, rfl, World.ownsRow_nil _ _ _ _, kt⟩
          have f0 : decide ((256 : Int) < L0) = false := decide_eq_false (by omega)
          by_cases g1 : 16 < L1
          · have d0 : decide ((16 : Int) < L1) = true := decide_eq_true (by omega)
            have HX := Lib.hid (Hno.out (by rw [Hsz.out]; exact decide_eq_false (by omega)))
            go_wp2_with (fail)
            go_ret2
            rw [HX.out.1, HX.out.2]
            exact ⟨_, rfl, World.ownsRow_nil _ _ _ _, kt⟩
          have f1 : decide ((16 : Int) < L1) = false := decide_eq_false (by omega)
          by_cases g2 : 16 < L2
          · have d0 : decide ((16 : Int) < L2) = true := decide_eq_true (by omega)
            have HX := Lib.hid (Hno.out (by rw [Hsz.out]; exact decide_eq_false (by omega)))
            go_wp2_with (fail)
            go_ret2
            rw [HX.out.1, HX.out.2]
            exact ⟨_, rfl, World.ownsRow_nil _ _ _ _, kt⟩
          have f2 : decide ((16 : Int) < L2) = false := decide_eq_false (by omega)
          by_cases g3 : 64 < L3
          · have d0 : decide ((64 : Int) < L3) = true := decide_eq_true (by omega)
            have HX := Lib.hid (Hno.out (by rw [Hsz.out]; exact decide_eq_false (by omega)))
            go_wp2_with (fail)
            go_ret2
            rw [HX.out.1, HX.out.2]
            exact ⟨_, rfl, World.ownsRow_nil _ _ _ _, kt⟩
          have f3 : decide ((64 : Int) < L3) = false := decide_eq_false (by omega)
          have u0 : L0 ≤ 256 := by omega
          have u1 : L1 ≤ 16 := by omega
          have u2 : L2 ≤ 16 := by omega
          have u3 : L3 ≤ 64 := by omega
          clear l0 l1 l2 l3 q0 q1 q2 q3 g0 g1 g2 g3
          obtain ⟨LF, hLF⟩ : ∃ LF : Int, 8 + (F.chars.length : Int) + L0 + L1 + L2 + L3 + F.steps.length + F.kerns.length + F.pieces.length + F.params.length = LF := ⟨_, rfl⟩
          have hlf' : (wCnt F).lf = LF := by rw [Hlf.out, hLF]
          have Hlf' := Lib.hid hlf'
          have bLF : 8 ≤ LF ∧ LF ≤ 70000 := by omega
          clear hlf'
          by_cases g5 : F.chars.length = 0
          · have HG5 := Lib.hid g5
            have f5 : ((F.chars.length : Int) == 0) = true := by simp [g5]
            clear g5
            by_cases g6 : 32767 < LF
            · have d0 : decide ((32767 : Int) < LF) = true := decide_eq_true (by omega)
              have HX := Lib.hid (Hno.out (by rw [Hsz.out]; exact decide_eq_false (by have := Hlf.out; have := Hlf'.out; omega)))
              go_wp2_with (fail)
              go_ret2
              rw [HX.out.1, HX.out.2]
              exact ⟨_, rfl, World.ownsRow_nil _ _ _ _, kt⟩
            have f6 : decide ((32767 : Int) < LF) = false := decide_eq_false (by omega)
            have HX := Lib.hid (Hyes.out (by rw [Hsz.out]; exact decide_eq_true (by have := Hlf.out; have := Hlf'.out; omega)))
            have hcnt : wCnt F = ⟨LF, 2, 1, 0, L0, L1, L2, L3, F.steps.length, F.kerns.length, F.pieces.length, F.params.length⟩ := by
              have e0 : wCnt F = ⟨(wCnt F).lf, 2, if F.chars.length = 0 then 1 else F.first, if F.chars.length = 0 then 0 else F.first + F.chars.length - 1, ((0 :: tW F).length : Nat), ((0 :: tH F).length : Nat), ((0 :: tD F).length : Nat), ((0 :: tI F).length : Nat), F.steps.length, F.kerns.length, F.pieces.length, F.params.length⟩ := rfl
              rw [e0, Hlf'.out, HL.out.1, HL.out.2.1, HL.out.2.2.1, HL.out.2.2.2]
              rw [if_pos HG5.out, if_pos HG5.out]
            have hcok := wCnt_ok ⟨bd0.1, bd0.2⟩ bd1 (by rw [Hlf'.out]; omega)
            obtain ⟨W3, hW3⟩ : ∃ W3, W3 = wt.alloc (.cells #[.int .i64 LF, .int .i64 2, .int .i64 1, .int .i64 0, .int .i64 L0, .int .i64 L1, .int .i64 L2, .int .i64 L3, .int .i64 F.steps.length, .int .i64 F.kerns.length, .int .i64 F.pieces.length, .int .i64 F.params.length] 3) := ⟨_, rfl⟩
            have hW3c := mkobj wt (.cells #[.int .i64 LF, .int .i64 2, .int .i64 1, .int .i64 0, .int .i64 L0, .int .i64 L1, .int .i64 L2, .int .i64 L3, .int .i64 F.steps.length, .int .i64 F.kerns.length, .int .i64 F.pieces.length, .int .i64 F.params.length] 3)
            rw [← hW3] at hW3c
            have hW3s : W3.heap.size = wt.heap.size + 1 := by rw [hW3]; simp
            have k3 : Kept wt W3 := by rw [hW3]; exact walloc _ _
            generalize hcc : wCnt F = C at *
            have hcell : ∀ k, k < 12 → W3.cell? ⟨wt.heap.size, k, none⟩ = some (.int .i64 (cget C k)) := by
              intro k hk
              obtain ⟨y0, y1, y2, y3, y4, y5, y6, y7, y8, y9, y10, y11, _, _⟩ := cells12 hW3c
              rw [hcnt]
              match k, hk with
              | 0, _ => exact y0
              | 1, _ => exact y1
              | 2, _ => exact y2
              | 3, _ => exact y3
              | 4, _ => exact y4
              | 5, _ => exact y5
              | 6, _ => exact y6
              | 7, _ => exact y7
              | 8, _ => exact y8
              | 9, _ => exact y9
              | 10, _ => exact y10
              | 11, _ => exact y11
            have HCC := Lib.hid hcc
            have HW3 := Lib.hid hW3
            have Hcok := Lib.hid hcok
            have Hcell := Lib.hid hcell
            clear hcc hcnt hW3 hW3c hcell hcok
            go_wp2_with (fail)
            rw [← HW3.out]
            clear o0 o1 o2 o3 of ol z0 z1 z2 z3 z4 z5 z6 z7 zl f0 f1 f2 f3 f5 f6  hLF
            have hB3 : wt.heap.size + 1 ≤ W3.heap.size := by omega
            obtain ⟨B3, hB3e⟩ : ∃ B3, B3 = wt.heap.size + 1 := ⟨_, rfl⟩
            rw [← hB3e] at hB3 hW3s
            have hBt : wt.heap.size < B3 := by omega
            have hEB : E < B3 := by omega
            have hwB : w.heap.size < B3 := by omega
            clear hB3e
            go_loopw [14, 15] (fun s14 s15 wr => W3Loop C B3 W3 s14 s15 wr) (fun _ s15 _ => 12 - (intOf s15).toNat)
            case atStart => exact ⟨0, by omega, rfl, World.ownsRow_nil _ _ _ _, Below.refl _ _⟩
            case round =>
              obtain ⟨k', hk', rfl, hrow, hb3⟩ := hrel
              by_cases hlt' : k' < 12
              · have c0 := (hb3.cell (p := ⟨wt.heap.size, k', none⟩) hBt).trans (Hcell.out k' hlt')
                obtain ⟨h0, h1⟩ := Hcok.out k' hlt'
                have hnx := cntL_next C k'
                have HCl := Lib.hid (cntL_len C k')
                have hki : (k' : Int) < 12 := by omega
                have hk0 : (0 : Int) ≤ k' := by omega
                generalize hgc : cget C k' = h at *
                have e1 : IntKind.u8.wrap (h / 256) = h / 256 % 256 := by rw [IntKind.wrap_u8]
                have e2 : IntKind.u8.wrap h = h % 256 := by rw [IntKind.wrap_u8]
                have Hgc := Lib.hid hgc
                clear hgc
                unfold halfL at hnx
                generalize h / 256 % 256 = x0 at *
                generalize h % 256 = x1 at *
                have d0 : decide ((k' : Int) < 12) = true := decide_eq_true (by omega)
                have HN := Lib.hid hnx
                have HR := Lib.hid hrow
                have hs3 := hb3.size
                clear hnx hrow
                have hS : ∀ w', Below B3 W3 w' → Hid (w'.cell? ⟨wt.heap.size, k', none⟩ = some (.int .i64 h) ∧ Below B3 W3 w') := fun w' hh => Lib.hid ⟨(hh.cell (p := ⟨wt.heap.size, k', none⟩) hBt).trans ((Hcell.out k' hlt').trans (by rw [Hgc.out])), hh⟩
                have hbd3 : Below B3 W3 wr.drew := hb3.drew
                have hba3 : ∀ o, Below B3 W3 (wr.drew.alloc o) := fun o => hb3.drew.alloc (by show B3 ≤ wr.heap.size; omega) o
                go_wp2_with (fail)
                go_region_held3 (fun w' => w'.cell? ⟨wt.heap.size, k', none⟩ = some (.int .i64 h) ∧ Below B3 W3 w') (first | exact (hS _ (by first | assumption | exact hba3 _)).out) (first | (refine step_bytes (by rfl) _ _ (by rfl) B3 wr.heap.size _ (cntL C k') [x0, x1] 2 2 (by rfl) (World.ownsRow.alloc (w := wr.drew) HR.out _) (by rfl) rfl (mkobj wr.drew _) (by omega) (by rw [HCl.out]; omega) (by simp; omega) ?_; intro g cap y hown hgrow; have hky : Below B3 W3 y := Below.grown (hba3 _) hgrow (by simp; omega) (fun j e => (World.ownsRow.lt HR.out j e).1)))
                all_goals go_wp2_with (fail)
                all_goals go_roundw
                case rel => exact ⟨k' + 1, by omega, by go_num, by rw [HN.out]; exact hown, hky⟩
                case measure => simp [intOf]; omega
              · obtain rfl : k' = 12 := by omega
                rename World => z3
                have d0 : decide (((12 : Nat) : Int) < 12) = false := rfl
                obtain ⟨p3, l3, c3', rfl⟩ := own_slice hrow
                have toT : ∀ z, Below B3 W3 z → Below wt.heap.size wt z := fun z hb => Below.trans (B := wt.heap.size) k3 (hb.mono (by omega))
                have hFB : ∀ z, Below B3 W3 z → FBox z w.heap.size F a := fun z hb => hFB3 z (toT z hb)
                have hQ : ∀ z, Below B3 W3 z → QObj z E (.slice a0 L0 c0) (.slice a1 L1 c1) (.slice a2 L2 c2) (.slice a3 L3 c3) := fun z hb => hQ3 z (toT z hb)
                have hen : ∀ z, Below B3 W3 z → Kept w z := fun z hb => hend3 z (toT z hb)
                have hN0 : Hid (NumsAt W3 a0 (0 :: tW F) B3) := Lib.hid ((HN0.out.kept k3).more (by omega))
                have hN1 : Hid (NumsAt W3 a1 (0 :: tH F) B3) := Lib.hid ((HN1.out.kept k3).more (by omega))
                have hN2 : Hid (NumsAt W3 a2 (0 :: tD F) B3) := Lib.hid ((HN2.out.kept k3).more (by omega))
                have hN3 : Hid (NumsAt W3 a3 (0 :: tI F) B3) := Lib.hid ((HN3.out.kept k3).more (by omega))
                obtain ⟨b0, b1, b2, b3, b4, b5, b6, b7, bl⟩ := hFB z3 hb3
                obtain ⟨W4, hW4⟩ : ∃ W4, W4 = z3.alloc (.cells #[.int .i64 F.check, .int .i64 F.design] 3) := ⟨_, rfl⟩
                have hw4 : W4.heap[z3.heap.size]? = some (.cells #[.int .i64 F.check, .int .i64 F.design] 3 (0, 0)) := by rw [hW4]; exact mkobj _ _
                have k4 : Kept z3 W4 := by rw [hW4]; exact walloc _ _
                have hw4s : W4.heap.size = z3.heap.size + 1 := by rw [hW4]; simp
                have hb3s := hb3.size
                have hr4 := brow_kept hrow k4
                have hb4 : Below B3 W3 W4 := hb3.trans (k4.mono (by omega))
                have hcl := cntL_len C 12
                have hcall : Calls Tryz.prog 33 #[.slice p3 l3 c3', .slice (some ⟨z3.heap.size, 0, none⟩) 2 2] W4 fun e w' => ∃ v', e = .returned v' ∧ BRow w' B3 v' (cntL C 12 ++ numsL [F.check, F.design]) ∧ W4.grownBy w' (Value.ownBlock (.slice p3 l3 c3')) ∧ Placed W4 (.slice p3 l3 c3') v' :=
                  rwords_any W4 B3 (.slice p3 l3 c3') (cntL C 12) (some ⟨z3.heap.size, 0, none⟩) [F.check, F.design] 2 hr4 (nums2 hw4 (by omega)) (fun _ b o e k => by cases e; have := (BRow.lt hrow _ k).2; omega) (by simp) (by omega) (by omega)
                have HCall := Lib.hid hcall
                have hch := HWF.out.check
                have HR3 := Lib.hid hrow
                have HW4 := Lib.hid hW4
                clear hW4 hcall hrow hFB3 hQ3 hend3 toT hw4
                go_wp2_with (fail)
                rw [← HW4.out]
                refine HCall.out.mono ?_
                rintro e z4 ⟨v4, rfl, hrow, hg4, _⟩
                have hbz : Below B3 W3 z4 := Below.grown hb4 hg4 (by omega) (fun j e => (BRow.lt HR3.out j e).1)
                have hPl : (cntL C 12 ++ numsL [F.check, F.design]).length = 32 := by rw [List.length_append, hcl, nums_len]; rfl
                obtain ⟨P4, hP4⟩ : ∃ P4, P4 = cntL C 12 ++ numsL [F.check, F.design] := ⟨_, rfl⟩
                rw [← hP4] at hrow hPl
                have HP4 := Lib.hid hP4
                clear hP4 hg4 b0 b1 b2 b3 b4 b5 b6 b7 bl d0 hcl hr4 k4 hw4s hb4 hb3 hb3s hch
                obtain ⟨b0, b1, b2, b3, b4, b5, b6, b7, bl⟩ := hFB z4 hbz
                go_wp2_with (fail)
                clear b0 b1 b2 b3 b4 b5 b6 b7 bl
                go_loopw [14, 16] (fun s14 s16 wr => W4Loop F P4 B3 W3 s14 s16 wr) (fun _ s16 _ => F.chars.length - (intOf s16).toNat)
                case atStart => exact ⟨0, Nat.zero_le _, rfl, by rw [List.take_zero, List.flatMap_nil, List.append_nil]; exact hrow, hbz⟩
                case round =>
                  clear hrow hbz
                  obtain ⟨k', hk', rfl, hrow, hb4⟩ := hrel
                  obtain ⟨b0, b1, b2, b3, b4, b5, b6, b7, bl⟩ := hFB wr hb4
                  by_cases hlt' : k' < F.chars.length
                  · exact absurd HG5.out (by omega)
                  · have d0 : decide ((k' : Int) < F.chars.length) = false := decide_eq_false (by omega)
                    rename World => z5
                    rw [List.take_of_length_le (by omega)] at hrow
                    have hml : (metsL F).length = 4 * F.chars.length := flat_len _ _
                    have hQl : (P4 ++ metsL F).length ≤ 2000 := by rw [List.length_append, hPl, hml]; omega
                    obtain ⟨Q5, hQ5⟩ : ∃ Q5, Q5 = P4 ++ metsL F := ⟨_, rfl⟩
                    rw [show (P4 ++ F.chars.flatMap fun m => stL (metS (tW F) (tH F) (tD F) (tI F) m)) = Q5 from hQ5.symm] at hrow
                    rw [← hQ5] at hQl
                    have HQ5 := Lib.hid hQ5
                    clear hQ5 hml hPl
                    go_wp2_with (fail)
                    go_loopw [14, 18] (fun s14 s18 wr => W5Loop F Q5 B3 W3 s14 s18 wr) (fun _ s18 _ => 4 - (intOf s18).toNat)
                    case atStart => exact ⟨0, by omega, rfl, by rw [show tabL F 0 = [] from rfl, List.append_nil]; exact hrow, hb4⟩
                    case round =>
                      clear hrow hb4 b0 b1 b2 b3 b4 b5 b6 b7 bl d0
                      obtain ⟨i, hi4, rfl, hrow, hb5⟩ := hrel
                      have hs5 := hb5.size
                      obtain ⟨y0, y1, y2, y3, yf, yl⟩ := (hQ wr hb5).cells
                      have tl0 : ∀ j, (tabL F j).length ≤ 2000 := by
                        intro j
                        obtain ⟨e0, e1, e2, e3⟩ := HL.out
                        have m0 := nums_len (0 :: tW F)
                        have m1 := nums_len (0 :: tH F)
                        have m2 := nums_len (0 :: tD F)
                        have m3 := nums_len (0 :: tI F)
                        rw [e0] at m0
                        rw [e1] at m1
                        rw [e2] at m2
                        rw [e3] at m3
                        unfold tabL
                        split <;> first | omega | (simp only [List.length_append, List.length_nil]; omega)
                      have hXl : ∀ j, (Q5 ++ tabL F j).length ≤ 4000 := fun j => by rw [List.length_append]; have := tl0 j; omega
                      clear tl0
                      obtain rfl | rfl | rfl | rfl | rfl : i = 0 ∨ i = 1 ∨ i = 2 ∨ i = 3 ∨ i = 4 := by omega
                      · have hcall := rw_step (c := c0) hrow hb5 hN0.out hB3 (by rw [HL.out.1]; omega) (by have := hXl 0; omega)
                        rw [HL.out.1, show (Q5 ++ tabL F 0) ++ numsL (0 :: tW F) = Q5 ++ tabL F 1 by simp [tabL]] at hcall
                        have HCl := Lib.hid hcall
                        clear hcall hrow hXl
                        go_wp2_with (fail)
                        refine HCl.out.mono ?_
                        rintro e y ⟨v', rfl, h1, h2⟩
                        go_wp2_with (fail)
                        go_roundw
                        case rel => exact ⟨1, by omega, by go_num, h1, h2⟩
                        case measure => simp [intOf]
                      · have hcall := rw_step (c := c1) hrow hb5 hN1.out hB3 (by rw [HL.out.2.1]; omega) (by have := hXl 1; omega)
                        rw [HL.out.2.1, show (Q5 ++ tabL F 1) ++ numsL (0 :: tH F) = Q5 ++ tabL F 2 by simp [tabL, List.append_assoc]] at hcall
                        have HCl := Lib.hid hcall
                        clear hcall hrow hXl
                        go_wp2_with (fail)
                        refine HCl.out.mono ?_
                        rintro e y ⟨v', rfl, h1, h2⟩
                        go_wp2_with (fail)
                        go_roundw
                        case rel => exact ⟨2, by omega, by go_num, h1, h2⟩
                        case measure => simp [intOf]
                      · have hcall := rw_step (c := c2) hrow hb5 hN2.out hB3 (by rw [HL.out.2.2.1]; omega) (by have := hXl 2; omega)
                        rw [HL.out.2.2.1, show (Q5 ++ tabL F 2) ++ numsL (0 :: tD F) = Q5 ++ tabL F 3 by simp [tabL, List.append_assoc]] at hcall
                        have HCl := Lib.hid hcall
                        clear hcall hrow hXl
                        go_wp2_with (fail)
                        refine HCl.out.mono ?_
                        rintro e y ⟨v', rfl, h1, h2⟩
                        go_wp2_with (fail)
                        go_roundw
                        case rel => exact ⟨3, by omega, by go_num, h1, h2⟩
                        case measure => simp [intOf]
                      · have hcall := rw_step (c := c3) hrow hb5 hN3.out hB3 (by rw [HL.out.2.2.2]; omega) (by have := hXl 3; omega)
                        rw [HL.out.2.2.2, show (Q5 ++ tabL F 3) ++ numsL (0 :: tI F) = Q5 ++ tabL F 4 by simp [tabL, List.append_assoc]] at hcall
                        have HCl := Lib.hid hcall
                        clear hcall hrow hXl
                        go_wp2_with (fail)
                        refine HCl.out.mono ?_
                        rintro e y ⟨v', rfl, h1, h2⟩
                        go_wp2_with (fail)
                        go_roundw
                        case rel => exact ⟨4, by omega, by go_num, h1, h2⟩
                        case measure => simp [intOf]
                      · have hQl6 := hXl 4
                        rename World => z6
                        obtain ⟨Q6, hQ6⟩ : ∃ Q6, Q6 = Q5 ++ tabL F 4 := ⟨_, rfl⟩
                        rw [← hQ6] at hrow hQl6
                        have HQ6 := Lib.hid hQ6
                        clear hQ6 hXl y0 y1 y2 y3 yf yl
                        obtain ⟨b0, b1, b2, b3, b4, b5, b6, b7, bl⟩ := hFB z6 hb5
                        go_wp2_with (fail)
                        go_loopw [14, 19] (fun s14 s19 wr => W6Loop F.steps Q6 B3 W3 s14 s19 wr) (fun _ s19 _ => F.steps.length - (intOf s19).toNat)
                        case atStart => exact ⟨0, Nat.zero_le _, rfl, by rw [List.take_zero, List.flatMap_nil, List.append_nil]; exact hrow, hb5⟩
                        case round =>
                          clear hrow hb5 hs5 b0 b1 b2 b3 b4 b5 b6 b7 bl
                          obtain ⟨k6, hk6, rfl, hrow, hb6⟩ := hrel
                          have hs6 := hb6.size
                          obtain ⟨b0, b1, b2, b3, b4, b5, b6, b7, bl⟩ := hFB wr hb6
                          by_cases hlt6 : k6 < F.steps.length
                          · have d0 : decide ((k6 : Int) < F.steps.length) = true := decide_eq_true (by omega)
                            obtain ⟨b, o, hA, hbl, hcell⟩ := HF.out.s (by omega)
                            obtain ⟨g0, g1, g2, g3⟩ := hcell k6 hlt6
                            have hnx := flat_next idS hlt6
                            have hfl := flat_len idS (F.steps.take k6)
                            have hkl : (F.steps.take k6).length ≤ k6 := by rw [List.length_take]; exact Nat.min_le_left _ _
                            obtain ⟨x, hx⟩ : ∃ x, F.steps[k6] = x := ⟨_, rfl⟩
                            rw [hx] at g0 g1 g2 g3 hnx
                            obtain ⟨A0, n0, A1, n1, A2, n2, A3, n3, A4, n4⟩ := a
                            obtain rfl : A1 = some ⟨b, o, none⟩ := hA
                            have hS : ∀ w', Kept wr w' → Hid (w'.cell? ⟨w.heap.size, 4, none⟩ = some (.slice (some ⟨b, o, none⟩) F.steps.length n1) ∧ w'.cell? ⟨b, o + k6 * 4, none⟩ = some (.int .u8 x.skip) ∧ w'.cell? ⟨b, o + k6 * 4 + 1, none⟩ = some (.int .u8 x.next) ∧ w'.cell? ⟨b, o + k6 * 4 + 2, none⟩ = some (.int .u8 x.op) ∧ w'.cell? ⟨b, o + k6 * 4 + 3, none⟩ = some (.int .u8 x.rest)) := fun w' kk => by
                              have hz : Below B3 W3 w' := hb6.trans (kk.mono (by omega))
                              have hq : ∀ j, w'.cell? ⟨b, j, none⟩ = w.cell? ⟨b, j, none⟩ := fun j => (hen w' hz).cell (p := ⟨b, j, none⟩) hbl
                              exact Lib.hid ⟨(hFB w' hz).b4, (hq _).trans g0, (hq _).trans g1, (hq _).trans g2, (hq _).trans g3⟩
                            have hlenX : (Q6 ++ (F.steps.take k6).flatMap fun x => stL (idS x)).length ≤ 1000000 := by rw [List.length_append, hfl]; omega
                            have Hnx := Lib.hid hnx
                            obtain ⟨X, hX⟩ : ∃ X, (Q6 ++ (F.steps.take k6).flatMap fun x => stL (idS x)) = X := ⟨_, rfl⟩
                            rw [hX] at hrow hlenX
                            have HXX := Lib.hid hX
                            have Hrow := Lib.hid hrow
                            have HhS := Lib.hid hS
                            have kwd : Kept wr wr.drew := (Kept.refl wr).drew
                            have hbb : b < B3 := by omega
                            clear g0 g1 g2 g3 hnx hfl hkl hrow hx hS hcell hX
                            go_wp2_with (fail)
                            refine wp_region_noPanic (reg50_ok w.heap.size B3 b o F.steps.length n1 k6 x.skip x.next x.op x.rest _ _ wr _ _ _ _ _ _ _ _ _ _ _ _ _ _ _ _ _ _ _ _ _ _ _ _ _ _ _ _ _ _ _ _ _ _ _ _ _ _ _ _ _ _ _ _ _ _ _ _ _ _ _ _ _ _ _ _ _ _ _ _ _ _ _ _ _ _ _ _ _ _ _ _ _ _ _ _ _ _ _ _ _ _ _ _ _ _ _ _ _ _ _ _ _ _ _ _ _ _ _ _ _ _ _ _ _ _ _ _ _ _ _ _ _ _ _ _ _ _ _ _ _ _ _ _ _ _ _ _ _ _ _ _ _ _ _ _ _ _ _ _ _ _ _ _ _ _ _ _ _ _ _ _ _ _ _ _ _ _ _ _ _ _ _ _ _ _ _ _ _ _ _ _ _ _ _ _ _ _ _ _ _ _ _ _ _ _ _ _ _ _ _ _ _ _ _ _ _ _ _ _ _ _ _ _ _ _ _ _ _ _ _ _ _ _ _ _ _ _ _ _ _ _ _ _ _ _ _ _ _ _ _ _ _ _ _ _ _ _ _ _ _ _ _ _ _ _ _ _ _ _ _ _ _ _ _ _ _ _ _ _ _ _ _ _ _ _ _ _ _ _ _ _ _ _ _ _ _ _ _ _ _ _ _ _ _ _ _ _ _ _ _ _ _ _ _ _ _ _ _ _ _ _ _ _ _ _ _ _ _ _ _ _ _ _ _ _ _ _ _ _ _ _ _ _ _ _ _ _ _ _ _ _ _ _ _ _ _ _ _ _ _ _ hlt6 HhS.out Hrow.out hlenX (by omega) hwB hbb ?_)
                            intro g cap y m275 m276 m277 m278 m279 m280 m281 m282 m283 m284 m285 m286 m287 m288 m289 m290 m291 m292 m293 m294 m295 m296 m297 m298 m299 m300 m301 hown hgrow
                            have hky : Below B3 W3 y := Below.grown (hb6.trans ((kwd.trans (walloc _ _)).mono (by omega))) hgrow (by simp; omega) (fun j e => (BRow.lt Hrow.out j e).1)
                            clear hgrow
                            go_wp2_with (fail)
                            go_roundw
                            case rel => first | exact w6_next hlt6 Hnx.out HXX.out hown hky | exact ⟨_, _, _, _, _, _, _, _, _, _, _, _, _, _, _, _, _, _, _, _, _, _, _, _, _, _, _, _, _, _, _, _, _, _, _, _, w6_next hlt6 Hnx.out HXX.out hown hky, rfl⟩
                            case measure => simp [intOf]; omega
                          · have d0 : decide ((k6 : Int) < F.steps.length) = false := decide_eq_false (by omega)
                            rename World => z7
                            have hsl : (stsL F.steps).length = 4 * F.steps.length := flat_len idS F.steps
                            have hQl7 : (Q6 ++ stsL F.steps).length ≤ 200000 := by rw [List.length_append, hsl]; omega
                            obtain ⟨Q7, hQ7⟩ : ∃ Q7, Q7 = Q6 ++ stsL F.steps := ⟨_, rfl⟩
                            rw [List.take_of_length_le (by omega), show (Q6 ++ F.steps.flatMap fun x => stL (idS x)) = Q7 from hQ7.symm] at hrow
                            rw [← hQ7] at hQl7
                            have hK : NumsAt W3 a.A2 F.kerns B3 := (HF.out.k.kept (hen W3 (Below.refl _ _))).more (Nat.le_of_lt hwB)
                            have hcall := rw_step (c := a.c2) hrow hb6 hK hB3 (by omega) (by omega)
                            have hkl : (numsL F.kerns).length = 4 * F.kerns.length := nums_len _
                            have hQl8 : (Q7 ++ numsL F.kerns).length ≤ 400000 := by rw [List.length_append, hkl]; omega
                            obtain ⟨Q8, hQ8⟩ : ∃ Q8, Q8 = Q7 ++ numsL F.kerns := ⟨_, rfl⟩
                            rw [← hQ8] at hcall hQl8
                            have HQ7 := Lib.hid hQ7
                            have HQ8 := Lib.hid hQ8
                            have HCl := Lib.hid hcall
                            clear hQ7 hQ8 hcall hrow hsl hkl hK
                            go_wp2_with (fail)
                            refine HCl.out.mono ?_
                            rintro e z8 ⟨v8, rfl, hrow, hb8⟩
                            clear b0 b1 b2 b3 b4 b5 b6 b7 bl d0
                            obtain ⟨b0, b1, b2, b3, b4, b5, b6, b7, bl⟩ := hFB z8 hb8
                            go_wp2_with (fail)
                            go_loopw [14, 20] (fun s14 s20 wr => W6Loop F.pieces Q8 B3 W3 s14 s20 wr) (fun _ s20 _ => F.pieces.length - (intOf s20).toNat)
                            case atStart => exact ⟨0, Nat.zero_le _, rfl, by rw [List.take_zero, List.flatMap_nil, List.append_nil]; exact hrow, hb8⟩
                            case round =>
                              clear hrow hb8 b0 b1 b2 b3 b4 b5 b6 b7 bl
                              obtain ⟨k7, hk7, rfl, hrow, hb7⟩ := hrel
                              have hs7 := hb7.size
                              obtain ⟨b0, b1, b2, b3, b4, b5, b6, b7, bl⟩ := hFB wr hb7
                              by_cases hlt7 : k7 < F.pieces.length
                              · have d0 : decide ((k7 : Int) < F.pieces.length) = true := decide_eq_true (by omega)
                                obtain ⟨b, o, hA, hbl, hcell⟩ := HF.out.p (by omega)
                                obtain ⟨g0, g1, g2, g3⟩ := hcell k7 hlt7
                                have hnx := flat_next idS hlt7
                                have hfl := flat_len idS (F.pieces.take k7)
                                have hkl : (F.pieces.take k7).length ≤ k7 := by rw [List.length_take]; exact Nat.min_le_left _ _
                                obtain ⟨x, hx⟩ : ∃ x, F.pieces[k7] = x := ⟨_, rfl⟩
                                rw [hx] at g0 g1 g2 g3 hnx
                                obtain ⟨A0, n0, A1, n1, A2, n2, A3, n3, A4, n4⟩ := a
                                obtain rfl : A3 = some ⟨b, o, none⟩ := hA
                                have hS : ∀ w', Kept wr w' → Hid (w'.cell? ⟨w.heap.size, 6, none⟩ = some (.slice (some ⟨b, o, none⟩) F.pieces.length n3) ∧ w'.cell? ⟨b, o + k7 * 4, none⟩ = some (.int .u8 x.skip) ∧ w'.cell? ⟨b, o + k7 * 4 + 1, none⟩ = some (.int .u8 x.next) ∧ w'.cell? ⟨b, o + k7 * 4 + 2, none⟩ = some (.int .u8 x.op) ∧ w'.cell? ⟨b, o + k7 * 4 + 3, none⟩ = some (.int .u8 x.rest)) := fun w' kk => by
                                  have hz : Below B3 W3 w' := hb7.trans (kk.mono (by omega))
                                  have hq : ∀ j, w'.cell? ⟨b, j, none⟩ = w.cell? ⟨b, j, none⟩ := fun j => (hen w' hz).cell (p := ⟨b, j, none⟩) hbl
                                  exact Lib.hid ⟨(hFB w' hz).b6, (hq _).trans g0, (hq _).trans g1, (hq _).trans g2, (hq _).trans g3⟩
                                have hlenX : (Q8 ++ (F.pieces.take k7).flatMap fun x => stL (idS x)).length ≤ 1000000 := by rw [List.length_append, hfl]; omega
                                have Hnx := Lib.hid hnx
                                obtain ⟨X, hX⟩ : ∃ X, (Q8 ++ (F.pieces.take k7).flatMap fun x => stL (idS x)) = X := ⟨_, rfl⟩
                                rw [hX] at hrow hlenX
                                have HXX := Lib.hid hX
                                have Hrow := Lib.hid hrow
                                have HhS := Lib.hid hS
                                have kwd : Kept wr wr.drew := (Kept.refl wr).drew
                                have hbb : b < B3 := by omega
                                clear g0 g1 g2 g3 hnx hfl hkl hrow hx hS hcell hX
                                go_wp2_with (fail)
                                refine wp_region_noPanic (reg55_ok w.heap.size B3 b o F.pieces.length n3 k7 x.skip x.next x.op x.rest _ _ wr _ _ _ _ _ _ _ _ _ _ _ _ _ _ _ _ _ _ _ _ _ _ _ _ _ _ _ _ _ _ _ _ _ _ _ _ _ _ _ _ _ _ _ _ _ _ _ _ _ _ _ _ _ _ _ _ _ _ _ _ _ _ _ _ _ _ _ _ _ _ _ _ _ _ _ _ _ _ _ _ _ _ _ _ _ _ _ _ _ _ _ _ _ _ _ _ _ _ _ _ _ _ _ _ _ _ _ _ _ _ _ _ _ _ _ _ _ _ _ _ _ _ _ _ _ _ _ _ _ _ _ _ _ _ _ _ _ _ _ _ _ _ _ _ _ _ _ _ _ _ _ _ _ _ _ _ _ _ _ _ _ _ _ _ _ _ _ _ _ _ _ _ _ _ _ _ _ _ _ _ _ _ _ _ _ _ _ _ _ _ _ _ _ _ _ _ _ _ _ _ _ _ _ _ _ _ _ _ _ _ _ _ _ _ _ _ _ _ _ _ _ _ _ _ _ _ _ _ _ _ _ _ _ _ _ _ _ _ _ _ _ _ _ _ _ _ _ _ _ _ _ _ _ _ _ _ _ _ _ _ _ _ _ _ _ _ _ _ _ _ _ _ _ _ _ _ _ _ _ _ _ _ _ _ _ _ _ _ _ _ _ _ _ _ _ _ _ _ _ _ _ _ _ _ _ _ _ _ _ _ _ _ _ _ _ _ _ _ _ _ _ _ _ _ _ _ _ _ _ _ _ _ _ _ _ _ _ _ _ _ _ _ hlt7 HhS.out Hrow.out hlenX (by omega) hwB hbb ?_)
                                intro g cap y m313 m314 m315 m316 m317 m318 m319 m320 m321 m322 m323 m324 m325 m326 m327 m328 m329 m330 m331 m332 m333 m334 m335 m336 m337 m338 m339 hown hgrow
                                have hky : Below B3 W3 y := Below.grown (hb7.trans ((kwd.trans (walloc _ _)).mono (by omega))) hgrow (by simp; omega) (fun j e => (BRow.lt Hrow.out j e).1)
                                clear hgrow
                                go_wp2_with (fail)
                                go_roundw
                                case rel => first | exact w6_next hlt7 Hnx.out HXX.out hown hky | exact ⟨_, _, _, _, _, _, _, _, _, _, _, _, _, _, _, _, _, _, _, _, _, _, _, _, _, _, _, _, _, _, _, _, _, _, _, _, w6_next hlt7 Hnx.out HXX.out hown hky, rfl⟩
                                case measure => simp [intOf]; omega
                              · have d0 : decide ((k7 : Int) < F.pieces.length) = false := decide_eq_false (by omega)
                                rename World => z9
                                have hsl : (stsL F.pieces).length = 4 * F.pieces.length := flat_len idS F.pieces
                                have hQl9 : (Q8 ++ stsL F.pieces).length ≤ 500000 := by rw [List.length_append, hsl]; omega
                                obtain ⟨Q9, hQ9⟩ : ∃ Q9, Q9 = Q8 ++ stsL F.pieces := ⟨_, rfl⟩
                                rw [List.take_of_length_le (by omega), show (Q8 ++ F.pieces.flatMap fun x => stL (idS x)) = Q9 from hQ9.symm] at hrow
                                rw [← hQ9] at hQl9
                                have hK : NumsAt W3 a.A4 F.params B3 := (HF.out.q.kept (hen W3 (Below.refl _ _))).more (Nat.le_of_lt hwB)
                                have hcall := rw_step (c := a.c4) hrow hb7 hK hB3 (by omega) (by omega)
                                have hend : Q9 ++ numsL F.params = writeL F := by
                                  rw [hQ9, HQ8.out, HQ7.out, HQ6.out, HQ5.out, HP4.out, ← HCC.out]
                                  unfold writeL tabL
                                  simp only [List.append_assoc]
                                rw [hend] at hcall
                                have HCl := Lib.hid hcall
                                clear hQ9 hcall hrow hsl hK hend hQl9
                                go_wp2_with (fail)
                                refine HCl.out.mono ?_
                                rintro e za ⟨va, rfl, hrow, hba⟩
                                obtain ⟨Aa, la, ca, rfl⟩ := own_slice hrow
                                go_wp2_with (fail)
                                go_ret2
                                rw [HX.out.1, HX.out.2]
                                exact ⟨_, rfl, own_base hrow (Nat.le_of_lt hwB), hen za hba⟩
          · have HG5 := Lib.hid g5
            have f5 : ((F.chars.length : Int) == 0) = false := by simp [g5]
            have g5p : 0 < F.chars.length := Nat.pos_of_ne_zero g5
            obtain ⟨EC, hEC⟩ : ∃ EC : Int, F.first + (F.chars.length : Int) - 1 = EC := ⟨_, rfl⟩
            have bEC : -1 ≤ EC ∧ EC ≤ 1000 := by omega
            clear g5
            by_cases g6 : 32767 < LF
            · have d0 : decide ((32767 : Int) < LF) = true := decide_eq_true (by omega)
              have HX := Lib.hid (Hno.out (by rw [Hsz.out]; exact decide_eq_false (by have := Hlf.out; have := Hlf'.out; omega)))
              go_wp2_with (fail)
              go_ret2
              rw [HX.out.1, HX.out.2]
              exact ⟨_, rfl, World.ownsRow_nil _ _ _ _, kt⟩
            have f6 : decide ((32767 : Int) < LF) = false := decide_eq_false (by omega)
            have HX := Lib.hid (Hyes.out (by rw [Hsz.out]; exact decide_eq_true (by have := Hlf.out; have := Hlf'.out; omega)))
            have hcnt : wCnt F = ⟨LF, 2, F.first, EC, L0, L1, L2, L3, F.steps.length, F.kerns.length, F.pieces.length, F.params.length⟩ := by
              have e0 : wCnt F = ⟨(wCnt F).lf, 2, if F.chars.length = 0 then 1 else F.first, if F.chars.length = 0 then 0 else F.first + F.chars.length - 1, ((0 :: tW F).length : Nat), ((0 :: tH F).length : Nat), ((0 :: tD F).length : Nat), ((0 :: tI F).length : Nat), F.steps.length, F.kerns.length, F.pieces.length, F.params.length⟩ := rfl
              rw [e0, Hlf'.out, HL.out.1, HL.out.2.1, HL.out.2.2.1, HL.out.2.2.2]
              rw [if_neg HG5.out, if_neg HG5.out, hEC]
            have hcok := wCnt_ok ⟨bd0.1, bd0.2⟩ bd1 (by rw [Hlf'.out]; omega)
            obtain ⟨W3, hW3⟩ : ∃ W3, W3 = wt.alloc (.cells #[.int .i64 LF, .int .i64 2, .int .i64 F.first, .int .i64 EC, .int .i64 L0, .int .i64 L1, .int .i64 L2, .int .i64 L3, .int .i64 F.steps.length, .int .i64 F.kerns.length, .int .i64 F.pieces.length, .int .i64 F.params.length] 3) := ⟨_, rfl⟩
            have hW3c := mkobj wt (.cells #[.int .i64 LF, .int .i64 2, .int .i64 F.first, .int .i64 EC, .int .i64 L0, .int .i64 L1, .int .i64 L2, .int .i64 L3, .int .i64 F.steps.length, .int .i64 F.kerns.length, .int .i64 F.pieces.length, .int .i64 F.params.length] 3)
            rw [← hW3] at hW3c
            have hW3s : W3.heap.size = wt.heap.size + 1 := by rw [hW3]; simp
            have k3 : Kept wt W3 := by rw [hW3]; exact walloc _ _
            generalize hcc : wCnt F = C at *
            have hcell : ∀ k, k < 12 → W3.cell? ⟨wt.heap.size, k, none⟩ = some (.int .i64 (cget C k)) := by
              intro k hk
              obtain ⟨y0, y1, y2, y3, y4, y5, y6, y7, y8, y9, y10, y11, _, _⟩ := cells12 hW3c
              rw [hcnt]
              match k, hk with
              | 0, _ => exact y0
              | 1, _ => exact y1
              | 2, _ => exact y2
              | 3, _ => exact y3
              | 4, _ => exact y4
              | 5, _ => exact y5
              | 6, _ => exact y6
              | 7, _ => exact y7
              | 8, _ => exact y8
              | 9, _ => exact y9
              | 10, _ => exact y10
              | 11, _ => exact y11
            have HCC := Lib.hid hcc
            have HW3 := Lib.hid hW3
            have Hcok := Lib.hid hcok
            have Hcell := Lib.hid hcell
            clear hcc hcnt hW3 hW3c hcell hcok
            go_wp2_with (fail)
            rw [← HW3.out]
            clear o0 o1 o2 o3 of ol z0 z1 z2 z3 z4 z5 z6 z7 zl f0 f1 f2 f3 f5 f6 hEC hLF
            have hB3 : wt.heap.size + 1 ≤ W3.heap.size := by omega
            obtain ⟨B3, hB3e⟩ : ∃ B3, B3 = wt.heap.size + 1 := ⟨_, rfl⟩
            rw [← hB3e] at hB3 hW3s
            have hBt : wt.heap.size < B3 := by omega
            have hEB : E < B3 := by omega
            have hwB : w.heap.size < B3 := by omega
            clear hB3e
            go_loopw [14, 15] (fun s14 s15 wr => W3Loop C B3 W3 s14 s15 wr) (fun _ s15 _ => 12 - (intOf s15).toNat)
            case atStart => exact ⟨0, by omega, rfl, World.ownsRow_nil _ _ _ _, Below.refl _ _⟩
            case round =>
              obtain ⟨k', hk', rfl, hrow, hb3⟩ := hrel
              by_cases hlt' : k' < 12
              · have c0 := (hb3.cell (p := ⟨wt.heap.size, k', none⟩) hBt).trans (Hcell.out k' hlt')
                obtain ⟨h0, h1⟩ := Hcok.out k' hlt'
                have hnx := cntL_next C k'
                have HCl := Lib.hid (cntL_len C k')
                have hki : (k' : Int) < 12 := by omega
                have hk0 : (0 : Int) ≤ k' := by omega
                generalize hgc : cget C k' = h at *
                have e1 : IntKind.u8.wrap (h / 256) = h / 256 % 256 := by rw [IntKind.wrap_u8]
                have e2 : IntKind.u8.wrap h = h % 256 := by rw [IntKind.wrap_u8]
                have Hgc := Lib.hid hgc
                clear hgc
                unfold halfL at hnx
                generalize h / 256 % 256 = x0 at *
                generalize h % 256 = x1 at *
                have d0 : decide ((k' : Int) < 12) = true := decide_eq_true (by omega)
                have HN := Lib.hid hnx
                have HR := Lib.hid hrow
                have hs3 := hb3.size
                clear hnx hrow
                have hS : ∀ w', Below B3 W3 w' → Hid (w'.cell? ⟨wt.heap.size, k', none⟩ = some (.int .i64 h) ∧ Below B3 W3 w') := fun w' hh => Lib.hid ⟨(hh.cell (p := ⟨wt.heap.size, k', none⟩) hBt).trans ((Hcell.out k' hlt').trans (by rw [Hgc.out])), hh⟩
                have hbd3 : Below B3 W3 wr.drew := hb3.drew
                have hba3 : ∀ o, Below B3 W3 (wr.drew.alloc o) := fun o => hb3.drew.alloc (by show B3 ≤ wr.heap.size; omega) o
                go_wp2_with (fail)
                go_region_held3 (fun w' => w'.cell? ⟨wt.heap.size, k', none⟩ = some (.int .i64 h) ∧ Below B3 W3 w') (first | exact (hS _ (by first | assumption | exact hba3 _)).out) (first | (refine step_bytes (by rfl) _ _ (by rfl) B3 wr.heap.size _ (cntL C k') [x0, x1] 2 2 (by rfl) (World.ownsRow.alloc (w := wr.drew) HR.out _) (by rfl) rfl (mkobj wr.drew _) (by omega) (by rw [HCl.out]; omega) (by simp; omega) ?_; intro g cap y hown hgrow; have hky : Below B3 W3 y := Below.grown (hba3 _) hgrow (by simp; omega) (fun j e => (World.ownsRow.lt HR.out j e).1)))
                all_goals go_wp2_with (fail)
                all_goals go_roundw
                case rel => exact ⟨k' + 1, by omega, by go_num, by rw [HN.out]; exact hown, hky⟩
                case measure => simp [intOf]; omega
              · obtain rfl : k' = 12 := by omega
                rename World => z3
                have d0 : decide (((12 : Nat) : Int) < 12) = false := rfl
                obtain ⟨p3, l3, c3', rfl⟩ := own_slice hrow
                have toT : ∀ z, Below B3 W3 z → Below wt.heap.size wt z := fun z hb => Below.trans (B := wt.heap.size) k3 (hb.mono (by omega))
                have hFB : ∀ z, Below B3 W3 z → FBox z w.heap.size F a := fun z hb => hFB3 z (toT z hb)
                have hQ : ∀ z, Below B3 W3 z → QObj z E (.slice a0 L0 c0) (.slice a1 L1 c1) (.slice a2 L2 c2) (.slice a3 L3 c3) := fun z hb => hQ3 z (toT z hb)
                have hen : ∀ z, Below B3 W3 z → Kept w z := fun z hb => hend3 z (toT z hb)
                have hN0 : Hid (NumsAt W3 a0 (0 :: tW F) B3) := Lib.hid ((HN0.out.kept k3).more (by omega))
                have hN1 : Hid (NumsAt W3 a1 (0 :: tH F) B3) := Lib.hid ((HN1.out.kept k3).more (by omega))
                have hN2 : Hid (NumsAt W3 a2 (0 :: tD F) B3) := Lib.hid ((HN2.out.kept k3).more (by omega))
                have hN3 : Hid (NumsAt W3 a3 (0 :: tI F) B3) := Lib.hid ((HN3.out.kept k3).more (by omega))
                obtain ⟨b0, b1, b2, b3, b4, b5, b6, b7, bl⟩ := hFB z3 hb3
                obtain ⟨W4, hW4⟩ : ∃ W4, W4 = z3.alloc (.cells #[.int .i64 F.check, .int .i64 F.design] 3) := ⟨_, rfl⟩
                have hw4 : W4.heap[z3.heap.size]? = some (.cells #[.int .i64 F.check, .int .i64 F.design] 3 (0, 0)) := by rw [hW4]; exact mkobj _ _
                have k4 : Kept z3 W4 := by rw [hW4]; exact walloc _ _
                have hw4s : W4.heap.size = z3.heap.size + 1 := by rw [hW4]; simp
                have hb3s := hb3.size
                have hr4 := brow_kept hrow k4
                have hb4 : Below B3 W3 W4 := hb3.trans (k4.mono (by omega))
                have hcl := cntL_len C 12
                have hcall : Calls Tryz.prog 33 #[.slice p3 l3 c3', .slice (some ⟨z3.heap.size, 0, none⟩) 2 2] W4 fun e w' => ∃ v', e = .returned v' ∧ BRow w' B3 v' (cntL C 12 ++ numsL [F.check, F.design]) ∧ W4.grownBy w' (Value.ownBlock (.slice p3 l3 c3')) ∧ Placed W4 (.slice p3 l3 c3') v' :=
                  rwords_any W4 B3 (.slice p3 l3 c3') (cntL C 12) (some ⟨z3.heap.size, 0, none⟩) [F.check, F.design] 2 hr4 (nums2 hw4 (by omega)) (fun _ b o e k => by cases e; have := (BRow.lt hrow _ k).2; omega) (by simp) (by omega) (by omega)
                have HCall := Lib.hid hcall
                have hch := HWF.out.check
                have HR3 := Lib.hid hrow
                have HW4 := Lib.hid hW4
                clear hW4 hcall hrow hFB3 hQ3 hend3 toT hw4
                go_wp2_with (fail)
                rw [← HW4.out]
                refine HCall.out.mono ?_
                rintro e z4 ⟨v4, rfl, hrow, hg4, _⟩
                have hbz : Below B3 W3 z4 := Below.grown hb4 hg4 (by omega) (fun j e => (BRow.lt HR3.out j e).1)
                have hPl : (cntL C 12 ++ numsL [F.check, F.design]).length = 32 := by rw [List.length_append, hcl, nums_len]; rfl
                obtain ⟨P4, hP4⟩ : ∃ P4, P4 = cntL C 12 ++ numsL [F.check, F.design] := ⟨_, rfl⟩
                rw [← hP4] at hrow hPl
                have HP4 := Lib.hid hP4
                clear hP4 hg4 b0 b1 b2 b3 b4 b5 b6 b7 bl d0 hcl hr4 k4 hw4s hb4 hb3 hb3s hch
                obtain ⟨b0, b1, b2, b3, b4, b5, b6, b7, bl⟩ := hFB z4 hbz
                go_wp2_with (fail)
                clear b0 b1 b2 b3 b4 b5 b6 b7 bl
                go_loopw [14, 16] (fun s14 s16 wr => W4Loop F P4 B3 W3 s14 s16 wr) (fun _ s16 _ => F.chars.length - (intOf s16).toNat)
                case atStart => exact ⟨0, Nat.zero_le _, rfl, by rw [List.take_zero, List.flatMap_nil, List.append_nil]; exact hrow, hbz⟩
                case round =>
                  clear hrow hbz
                  obtain ⟨k', hk', rfl, hrow, hb4⟩ := hrel
                  obtain ⟨b0, b1, b2, b3, b4, b5, b6, b7, bl⟩ := hFB wr hb4
                  by_cases hlt' : k' < F.chars.length
                  · have d0 : decide ((k' : Int) < F.chars.length) = true := decide_eq_true (by omega)
                    obtain ⟨b, o, hA, hbl, hcell⟩ := HFm.out (by omega)
                    obtain ⟨g0, g1, g2, g3, g4, g5⟩ := hcell k' hlt'
                    have hq : ∀ j, wr.cell? ⟨b, j, none⟩ = w.cell? ⟨b, j, none⟩ := fun j => (hen wr hb4).cell (p := ⟨b, j, none⟩) hbl
                    have e0 := (hq _).trans g0
                    have e1 := (hq _).trans g1
                    have e2 := (hq _).trans g2
                    have e3 := (hq _).trans g3
                    have e4 := (hq _).trans g4
                    have e5 := (hq _).trans g5
                    clear hq g0 g1 g2 g3 g4 g5 hcell
                    have hmm := List.getElem_mem hlt'
                    have hft := HFt.out _ hmm
                    have hnx := flat_next (metS (tW F) (tH F) (tD F) (tI F)) hlt'
                    have hfl := flat_len (metS (tW F) (tH F) (tD F) (tI F)) (F.chars.take k')
                    have hkl : (F.chars.take k').length ≤ k' := by rw [List.length_take]; exact Nat.min_le_left _ _
                    have hin : ¬ F.chars[k'].tag = -1 → F.chars[k'].w ∈ colW F.chars ∧ F.chars[k'].h ∈ colH F.chars ∧ F.chars[k'].d ∈ colD F.chars ∧ F.chars[k'].it ∈ colI F.chars := fun ht => by
                      have := there_has hmm ht
                      exact ⟨List.mem_map.2 ⟨_, this, rfl⟩, List.mem_map.2 ⟨_, this, rfl⟩, List.mem_map.2 ⟨_, this, rfl⟩, List.mem_map.2 ⟨_, this, rfl⟩⟩
                    clear hmm
                    generalize F.chars[k'] = m at *
                    obtain ⟨mw, mh, md, mi, mt, mr⟩ := m
                    dsimp only at *
                    obtain ⟨A0, n0, A1, n1, A2, n2, A3, n3, A4, n4⟩ := a
                    obtain rfl : A0 = some ⟨b, o, none⟩ := hA
                    obtain ⟨U, hU⟩ : ∃ U, U = wr.alloc (.cells #[.int .i64 mw, .int .i64 mh, .int .i64 md, .int .i64 mi, .int .i64 mt, .int .i64 mr] 43) := ⟨_, rfl⟩
                    have kU : Kept wr U := by rw [hU]; exact walloc _ _
                    have hs4 := hb4.size
                    have hbU : Below B3 W3 U := hb4.trans (kU.mono (by omega))
                    have hmU : U.heap[wr.heap.size]? = some (.cells #[.int .i64 mw, .int .i64 mh, .int .i64 md, .int .i64 mi, .int .i64 mt, .int .i64 mr] 43 (0, 0)) := by rw [hU]; exact mkobj _ _
                    have hsU : U.heap.size = wr.heap.size + 1 := by rw [hU]; simp
                    have hrU := brow_kept hrow kU
                    obtain ⟨t0, t1, t2, t3, t4, t5, tf, tl⟩ := mbox hmU
                    have HU := Lib.hid hU
                    have HrU := Lib.hid hrU
                    have hlenX : (P4 ++ (F.chars.take k').flatMap fun m => stL (metS (tW F) (tH F) (tD F) (tI F) m)).length ≤ 2000 := by rw [List.length_append, hPl, hfl]; omega
                    generalize hX : (P4 ++ (F.chars.take k').flatMap fun m => stL (metS (tW F) (tH F) (tD F) (tI F) m)) = X at *
                    have HX4 := Lib.hid hX
                    have Hnx := Lib.hid hnx
                    have hMv := fun (e : Value.ownBlock _ = some wr.heap.size) => (show False by have := (BRow.lt hrow _ e).2; omega)
                    clear hU hX hnx hfl hkl hrU hrow
                    by_cases ht : mt < 0
                    · have z : decide (mt < 0) = true := decide_eq_true ht
                      have hst : metS (tW F) (tH F) (tD F) (tI F) ⟨mw, mh, md, mi, mt, mr⟩ = ⟨0, 0, 0, 0⟩ := by unfold metS; rw [if_pos (by dsimp only; omega)]
                      have Hst := Lib.hid hst
                      clear ht hin hst hft
                      go_wp2_with (at_builtin; rw [← HU.out]; refine wpList_append_own_at _ rfl _ _ 30 rfl B3 5 j0 (.int .u8 0) 1 1 Tryz.underlying30 ji jz0 jz1 jz2 rfl (by decide) _ _ _ rfl (World.ownsRow.alloc HrU.out _) ⟨(wr.heap.size + 1), 0, none⟩ 4 4 [.int .u8 0, .int .u8 0, .int .u8 0, .int .u8 0] rfl rfl (fun j u h => hsU ▸ cells_new U _ _ j u h) ?c1 ?c2 ?c3 ?c4 ?_)
                      case c1 => first | rfl | (intro q hq; simp at hq; rcases hq with rfl | rfl | rfl | rfl <;> rfl) | simp
                      case c2 => unfold maxLen; omega
                      case c3 => omega
                      case c4 => first | omega | (simp; omega)
                      intro q y hown hgr _ _
                      have hrow' : BRow y B3 q (X ++ [0, 0, 0, 0]) := by
                        unfold BRow; rw [List.map_append, List.length_append]; exact hown
                      have hky : Below B3 W3 y := Below.grown (hbU.alloc (by omega) _) hgr (by simp; omega) (fun j e => (BRow.lt HrU.out j e).1)
                      clear hown hgr
                      go_wp2_with (fail)
                      go_roundw
                      case rel => exact ⟨k' + 1, by omega, by go_num, by rw [Hnx.out, Hst.out, ← List.append_assoc, HX4.out]; exact hrow', hky⟩
                      case measure => simp [intOf]; omega
                    · have z : decide (mt < 0) = false := decide_eq_false ht
                      have hm1 : ¬ mt = -1 := by omega
                      obtain ⟨i0', i1', i2', i3'⟩ := hin hm1
                      have hft' : 0 ≤ mt ∧ mt ≤ 3 ∧ 0 ≤ mr ∧ mr ≤ 255 := by rcases hft with e | e; exact absurd e hm1; exact e
                      obtain ⟨ft0, ft1, ft2, ft3⟩ := hft'
                      have toU : ∀ w', Kept U w' → Below B3 W3 w' := fun w' kk => hbU.trans (kk.mono (by omega))
                      have q0 : (tW F).length ≤ 255 := by have := HL.out.1; rw [List.length_cons] at this; omega
                      have q1 : (tH F).length ≤ 15 := by have := HL.out.2.1; rw [List.length_cons] at this; omega
                      have q2 : (tD F).length ≤ 15 := by have := HL.out.2.2.1; rw [List.length_cons] at this; omega
                      have q3 : (tI F).length ≤ 63 := by have := HL.out.2.2.2; rw [List.length_cons] at this; omega
                      have hP0 : ∀ w', Kept U w' → Hid (Calls Tryz.prog 34 #[.slice a0 L0 c0, .int .i64 mw, .int .i64 1] w' fun e w'' => e = .returned (.int .u8 (placeL (tW F) mw)) ∧ w' = w'') := fun w' kk => Lib.hid (by
                        have q := rplace_any a0 (tW F) c0 mw 1 w' B3 (hN0.out.kept (toU w' kk)) q0 (rising_strict _) (.inl ⟨rfl, rising_has i0'⟩)
                        rw [HL.out.1] at q; exact q)
                      have hP1 : ∀ w', Kept U w' → Hid (Calls Tryz.prog 34 #[.slice a1 L1 c1, .int .i64 mh, .int .i64 0] w' fun e w'' => e = .returned (.int .u8 (placeL (tH F) mh)) ∧ w' = w'') := fun w' kk => Lib.hid (by
                        have q := rplace_any a1 (tH F) c1 mh 0 w' B3 (hN1.out.kept (toU w' kk)) (by omega) (noZero_strict _) (.inr ⟨rfl, noZero_not _, noZero_or i1'⟩)
                        rw [HL.out.2.1] at q; exact q)
                      have hP2 : ∀ w', Kept U w' → Hid (Calls Tryz.prog 34 #[.slice a2 L2 c2, .int .i64 md, .int .i64 0] w' fun e w'' => e = .returned (.int .u8 (placeL (tD F) md)) ∧ w' = w'') := fun w' kk => Lib.hid (by
                        have q := rplace_any a2 (tD F) c2 md 0 w' B3 (hN2.out.kept (toU w' kk)) (by omega) (noZero_strict _) (.inr ⟨rfl, noZero_not _, noZero_or i2'⟩)
                        rw [HL.out.2.2.1] at q; exact q)
                      have hP3 : ∀ w', Kept U w' → Hid (Calls Tryz.prog 34 #[.slice a3 L3 c3, .int .i64 mi, .int .i64 0] w' fun e w'' => e = .returned (.int .u8 (placeL (tI F) mi)) ∧ w' = w'') := fun w' kk => Lib.hid (by
                        have q := rplace_any a3 (tI F) c3 mi 0 w' B3 (hN3.out.kept (toU w' kk)) (by omega) (noZero_strict _) (.inr ⟨rfl, noZero_not _, noZero_or i3'⟩)
                        rw [HL.out.2.2.2] at q; exact q)
                      have hst : metS (tW F) (tH F) (tD F) (tI F) ⟨mw, mh, md, mi, mt, mr⟩ = ⟨placeL (tW F) mw, placeL (tH F) mh * 16 + placeL (tD F) md, placeL (tI F) mi * 4 + mt, mr⟩ := by unfold metS; rw [if_neg hm1]
                      obtain ⟨c00, c01⟩ := placeL_le (S := tW F) mw
                      obtain ⟨c10, c11⟩ := placeL_le (S := tH F) mh
                      obtain ⟨c20, c21⟩ := placeL_le (S := tD F) md
                      obtain ⟨c30, c31⟩ := placeL_le (S := tI F) mi
                      generalize placeL (tW F) mw = p0 at *
                      generalize placeL (tH F) mh = p1 at *
                      generalize placeL (tD F) md = p2 at *
                      generalize placeL (tI F) mi = p3 at *
                      obtain ⟨r1, hr1⟩ : ∃ r, p1 * 16 + p2 = r := ⟨_, rfl⟩
                      obtain ⟨r2, hr2⟩ : ∃ r, p3 * 4 + mt = r := ⟨_, rfl⟩
                      rw [hr1, hr2] at hst
                      obtain ⟨s1, hs1⟩ : ∃ r, 16 * p1 = r := ⟨_, rfl⟩
                      obtain ⟨s2, hs2⟩ : ∃ r, 4 * p3 = r := ⟨_, rfl⟩
                      have w1 : IntKind.u8.wrap (16 * p1) = s1 := by rw [IntKind.wrap_u8]; omega
                      have w2 : IntKind.u8.wrap (s1 + p2) = r1 := by rw [IntKind.wrap_u8]; omega
                      have w3 : IntKind.u8.wrap (4 * p3) = s2 := by rw [IntKind.wrap_u8]; omega
                      have w4 : IntKind.u8.wrap mt = mt := by rw [IntKind.wrap_u8]; omega
                      have w5 : IntKind.u8.wrap (s2 + mt) = r2 := by rw [IntKind.wrap_u8]; omega
                      have w6 : IntKind.u8.wrap mr = mr := by rw [IntKind.wrap_u8]; omega
                      have Hst := Lib.hid hst
                      have hS : ∀ w', Kept U w' → Hid (w'.cell? ⟨E, 0, none⟩ = some (.slice a0 L0 c0) ∧ w'.cell? ⟨E, 1, none⟩ = some (.slice a1 L1 c1) ∧ w'.cell? ⟨E, 2, none⟩ = some (.slice a2 L2 c2) ∧ w'.cell? ⟨E, 3, none⟩ = some (.slice a3 L3 c3) ∧ w'.cell? ⟨wr.heap.size, 0, none⟩ = some (.int .i64 mw) ∧ w'.cell? ⟨wr.heap.size, 1, none⟩ = some (.int .i64 mh) ∧ w'.cell? ⟨wr.heap.size, 2, none⟩ = some (.int .i64 md) ∧ w'.cell? ⟨wr.heap.size, 3, none⟩ = some (.int .i64 mi) ∧ w'.cell? ⟨wr.heap.size, 4, none⟩ = some (.int .i64 mt) ∧ w'.cell? ⟨wr.heap.size, 5, none⟩ = some (.int .i64 mr)) := fun w' kk => by
                        obtain ⟨y0, y1, y2, y3, _, _⟩ := (hQ w' (toU w' kk)).cells
                        obtain ⟨x0, x1, x2, x3, x4, x5, _, _⟩ := mbox ((kk.block wr.heap.size (by omega)).trans hmU)
                        exact Lib.hid ⟨y0, y1, y2, y3, x0, x1, x2, x3, x4, x5⟩
                      obtain ⟨y0, y1, y2, y3, yf, yl⟩ := (hQ U hbU).cells
                      have kUd : Kept U U.drew := (Kept.refl U).drew
                      have tk0 : True := trivial
                      have hbUa : ∀ o, Kept U (U.drew.alloc o) := fun o => kUd.trans (walloc _ _)
                      have hs5 : U.heap.size ≥ B3 := by omega
                      clear hst hr1 hr2 hs1 hs2 ht hm1 i0' i1' i2' i3' hft ft0 ft1 ft2 ft3 c00 c01 c10 c11 c20 c21 c30 c31 q0 q1 q2 q3 hin
                      go_wp2_with (fail)
                      try rw [← HU.out]
                      refine wp_region_noPanic (reg42_ok E wr.heap.size B3 L0 L1 L2 L3 c0 c1 c2 c3 a0 a1 a2 a3 mw mh md mi mt mr p0 p1 p2 p3 s1 s2 r1 r2 _ X U _ _ _ _ _ _ _ _ _ _ _ _ _ _ _ _ _ _ _ _ _ _ _ _ _ _ _ _ _ _ _ _ _ _ _ _ _ _ _ _ _ _ _ _ _ _ _ _ _ _ _ _ _ _ _ _ _ _ _ _ _ _ _ _ _ _ _ _ _ _ _ _ _ _ _ _ _ _ _ _ _ _ _ _ _ _ _ _ _ _ _ _ _ _ _ _ _ _ _ _ _ _ _ _ _ _ _ _ _ _ _ _ _ _ _ _ _ _ _ _ _ _ _ _ _ _ _ _ _ _ _ _ _ _ _ _ _ _ _ _ _ _ _ _ _ _ _ _ _ _ _ _ _ _ _ _ _ _ _ _ _ _ _ _ _ _ _ _ _ _ _ _ _ _ _ _ _ _ _ _ _ _ _ _ _ _ _ _ _ _ _ _ _ _ _ _ _ _ _ _ _ _ _ _ _ _ _ _ _ _ _ _ _ _ _ _ _ _ _ _ _ _ _ _ _ _ _ _ _ _ _ _ _ _ _ _ _ _ _ _ _ _ _ _ _ _ _ _ _ _ _ _ _ _ _ _ _ _ _ _ _ _ _ _ _ _ _ _ _ _ _ _ _ _ _ _ _ _ _ _ _ _ _ _ _ _ _ _ _ _ _ _ _ _ _ _ _ _ _ _ _ _ _ _ _ _ _ _ _ _ _ _ _ _ _ _ _ _ _ _ _ _ _ _ _ _ _ _ _ _ _ _ _ _ _ _ _ _ _ _ _ _ w1 w2 w3 w4 w5 w6 hP0 hP1 hP2 hP3 hS HrU.out (by omega) (by omega) hEB (by omega) hMv ?_)
                      intro g cap y n226 n227 n228 n229 n230 n231 n232 n233 n234 n235 n236 n237 n238 n239 n240 n241 n242 n243 n244 n245 n246 n247 n248 n249 n250 n251 n252 n253 n254 n255 n256 n257 n258 hown hgrow
                      have hky : Below B3 W3 y := Below.grown (toU _ (hbUa _)) hgrow (by simp; omega) (fun j e => (BRow.lt HrU.out j e).1)
                      all_goals go_wp2_with (fail)
                      all_goals go_roundw
                      case rel => exact ⟨k' + 1, by omega, by go_num, by rw [Hnx.out, Hst.out, ← List.append_assoc, HX4.out]; exact hown, hky⟩
                      case measure => simp [intOf]; omega
                  · have d0 : decide ((k' : Int) < F.chars.length) = false := decide_eq_false (by omega)
                    rename World => z5
                    rw [List.take_of_length_le (by omega)] at hrow
                    have hml : (metsL F).length = 4 * F.chars.length := flat_len _ _
                    have hQl : (P4 ++ metsL F).length ≤ 2000 := by rw [List.length_append, hPl, hml]; omega
                    obtain ⟨Q5, hQ5⟩ : ∃ Q5, Q5 = P4 ++ metsL F := ⟨_, rfl⟩
                    rw [show (P4 ++ F.chars.flatMap fun m => stL (metS (tW F) (tH F) (tD F) (tI F) m)) = Q5 from hQ5.symm] at hrow
                    rw [← hQ5] at hQl
                    have HQ5 := Lib.hid hQ5
                    clear hQ5 hml hPl
                    go_wp2_with (fail)
                    go_loopw [14, 18] (fun s14 s18 wr => W5Loop F Q5 B3 W3 s14 s18 wr) (fun _ s18 _ => 4 - (intOf s18).toNat)
                    case atStart => exact ⟨0, by omega, rfl, by rw [show tabL F 0 = [] from rfl, List.append_nil]; exact hrow, hb4⟩
                    case round =>
                      clear hrow hb4 b0 b1 b2 b3 b4 b5 b6 b7 bl d0
                      obtain ⟨i, hi4, rfl, hrow, hb5⟩ := hrel
                      have hs5 := hb5.size
                      obtain ⟨y0, y1, y2, y3, yf, yl⟩ := (hQ wr hb5).cells
                      have tl0 : ∀ j, (tabL F j).length ≤ 2000 := by
                        intro j
                        obtain ⟨e0, e1, e2, e3⟩ := HL.out
                        have m0 := nums_len (0 :: tW F)
                        have m1 := nums_len (0 :: tH F)
                        have m2 := nums_len (0 :: tD F)
                        have m3 := nums_len (0 :: tI F)
                        rw [e0] at m0
                        rw [e1] at m1
                        rw [e2] at m2
                        rw [e3] at m3
                        unfold tabL
                        split <;> first | omega | (simp only [List.length_append, List.length_nil]; omega)
                      have hXl : ∀ j, (Q5 ++ tabL F j).length ≤ 4000 := fun j => by rw [List.length_append]; have := tl0 j; omega
                      clear tl0
                      obtain rfl | rfl | rfl | rfl | rfl : i = 0 ∨ i = 1 ∨ i = 2 ∨ i = 3 ∨ i = 4 := by omega
                      · have hcall := rw_step (c := c0) hrow hb5 hN0.out hB3 (by rw [HL.out.1]; omega) (by have := hXl 0; omega)
                        rw [HL.out.1, show (Q5 ++ tabL F 0) ++ numsL (0 :: tW F) = Q5 ++ tabL F 1 by simp [tabL]] at hcall
                        have HCl := Lib.hid hcall
                        clear hcall hrow hXl
                        go_wp2_with (fail)
                        refine HCl.out.mono ?_
                        rintro e y ⟨v', rfl, h1, h2⟩
                        go_wp2_with (fail)
                        go_roundw
                        case rel => exact ⟨1, by omega, by go_num, h1, h2⟩
                        case measure => simp [intOf]
                      · have hcall := rw_step (c := c1) hrow hb5 hN1.out hB3 (by rw [HL.out.2.1]; omega) (by have := hXl 1; omega)
                        rw [HL.out.2.1, show (Q5 ++ tabL F 1) ++ numsL (0 :: tH F) = Q5 ++ tabL F 2 by simp [tabL, List.append_assoc]] at hcall
                        have HCl := Lib.hid hcall
                        clear hcall hrow hXl
                        go_wp2_with (fail)
                        refine HCl.out.mono ?_
                        rintro e y ⟨v', rfl, h1, h2⟩
                        go_wp2_with (fail)
                        go_roundw
                        case rel => exact ⟨2, by omega, by go_num, h1, h2⟩
                        case measure => simp [intOf]
                      · have hcall := rw_step (c := c2) hrow hb5 hN2.out hB3 (by rw [HL.out.2.2.1]; omega) (by have := hXl 2; omega)
                        rw [HL.out.2.2.1, show (Q5 ++ tabL F 2) ++ numsL (0 :: tD F) = Q5 ++ tabL F 3 by simp [tabL, List.append_assoc]] at hcall
                        have HCl := Lib.hid hcall
                        clear hcall hrow hXl
                        go_wp2_with (fail)
                        refine HCl.out.mono ?_
                        rintro e y ⟨v', rfl, h1, h2⟩
                        go_wp2_with (fail)
                        go_roundw
                        case rel => exact ⟨3, by omega, by go_num, h1, h2⟩
                        case measure => simp [intOf]
                      · have hcall := rw_step (c := c3) hrow hb5 hN3.out hB3 (by rw [HL.out.2.2.2]; omega) (by have := hXl 3; omega)
                        rw [HL.out.2.2.2, show (Q5 ++ tabL F 3) ++ numsL (0 :: tI F) = Q5 ++ tabL F 4 by simp [tabL, List.append_assoc]] at hcall
                        have HCl := Lib.hid hcall
                        clear hcall hrow hXl
                        go_wp2_with (fail)
                        refine HCl.out.mono ?_
                        rintro e y ⟨v', rfl, h1, h2⟩
                        go_wp2_with (fail)
                        go_roundw
                        case rel => exact ⟨4, by omega, by go_num, h1, h2⟩
                        case measure => simp [intOf]
                      · have hQl6 := hXl 4
                        rename World => z6
                        obtain ⟨Q6, hQ6⟩ : ∃ Q6, Q6 = Q5 ++ tabL F 4 := ⟨_, rfl⟩
                        rw [← hQ6] at hrow hQl6
                        have HQ6 := Lib.hid hQ6
                        clear hQ6 hXl y0 y1 y2 y3 yf yl
                        obtain ⟨b0, b1, b2, b3, b4, b5, b6, b7, bl⟩ := hFB z6 hb5
                        go_wp2_with (fail)
                        go_loopw [14, 19] (fun s14 s19 wr => W6Loop F.steps Q6 B3 W3 s14 s19 wr) (fun _ s19 _ => F.steps.length - (intOf s19).toNat)
                        case atStart => exact ⟨0, Nat.zero_le _, rfl, by rw [List.take_zero, List.flatMap_nil, List.append_nil]; exact hrow, hb5⟩
                        case round =>
                          clear hrow hb5 hs5 b0 b1 b2 b3 b4 b5 b6 b7 bl
                          obtain ⟨k6, hk6, rfl, hrow, hb6⟩ := hrel
                          have hs6 := hb6.size
                          obtain ⟨b0, b1, b2, b3, b4, b5, b6, b7, bl⟩ := hFB wr hb6
                          by_cases hlt6 : k6 < F.steps.length
                          · have d0 : decide ((k6 : Int) < F.steps.length) = true := decide_eq_true (by omega)
                            obtain ⟨b, o, hA, hbl, hcell⟩ := HF.out.s (by omega)
                            obtain ⟨g0, g1, g2, g3⟩ := hcell k6 hlt6
                            have hnx := flat_next idS hlt6
                            have hfl := flat_len idS (F.steps.take k6)
                            have hkl : (F.steps.take k6).length ≤ k6 := by rw [List.length_take]; exact Nat.min_le_left _ _
                            obtain ⟨x, hx⟩ : ∃ x, F.steps[k6] = x := ⟨_, rfl⟩
                            rw [hx] at g0 g1 g2 g3 hnx
                            obtain ⟨A0, n0, A1, n1, A2, n2, A3, n3, A4, n4⟩ := a
                            obtain rfl : A1 = some ⟨b, o, none⟩ := hA
                            have hS : ∀ w', Kept wr w' → Hid (w'.cell? ⟨w.heap.size, 4, none⟩ = some (.slice (some ⟨b, o, none⟩) F.steps.length n1) ∧ w'.cell? ⟨b, o + k6 * 4, none⟩ = some (.int .u8 x.skip) ∧ w'.cell? ⟨b, o + k6 * 4 + 1, none⟩ = some (.int .u8 x.next) ∧ w'.cell? ⟨b, o + k6 * 4 + 2, none⟩ = some (.int .u8 x.op) ∧ w'.cell? ⟨b, o + k6 * 4 + 3, none⟩ = some (.int .u8 x.rest)) := fun w' kk => by
                              have hz : Below B3 W3 w' := hb6.trans (kk.mono (by omega))
                              have hq : ∀ j, w'.cell? ⟨b, j, none⟩ = w.cell? ⟨b, j, none⟩ := fun j => (hen w' hz).cell (p := ⟨b, j, none⟩) hbl
                              exact Lib.hid ⟨(hFB w' hz).b4, (hq _).trans g0, (hq _).trans g1, (hq _).trans g2, (hq _).trans g3⟩
                            have hlenX : (Q6 ++ (F.steps.take k6).flatMap fun x => stL (idS x)).length ≤ 1000000 := by rw [List.length_append, hfl]; omega
                            have Hnx := Lib.hid hnx
                            obtain ⟨X, hX⟩ : ∃ X, (Q6 ++ (F.steps.take k6).flatMap fun x => stL (idS x)) = X := ⟨_, rfl⟩
                            rw [hX] at hrow hlenX
                            have HXX := Lib.hid hX
                            have Hrow := Lib.hid hrow
                            have HhS := Lib.hid hS
                            have kwd : Kept wr wr.drew := (Kept.refl wr).drew
                            have hbb : b < B3 := by omega
                            clear g0 g1 g2 g3 hnx hfl hkl hrow hx hS hcell hX
                            go_wp2_with (fail)
                            refine wp_region_noPanic (reg50_ok w.heap.size B3 b o F.steps.length n1 k6 x.skip x.next x.op x.rest _ _ wr _ _ _ _ _ _ _ _ _ _ _ _ _ _ _ _ _ _ _ _ _ _ _ _ _ _ _ _ _ _ _ _ _ _ _ _ _ _ _ _ _ _ _ _ _ _ _ _ _ _ _ _ _ _ _ _ _ _ _ _ _ _ _ _ _ _ _ _ _ _ _ _ _ _ _ _ _ _ _ _ _ _ _ _ _ _ _ _ _ _ _ _ _ _ _ _ _ _ _ _ _ _ _ _ _ _ _ _ _ _ _ _ _ _ _ _ _ _ _ _ _ _ _ _ _ _ _ _ _ _ _ _ _ _ _ _ _ _ _ _ _ _ _ _ _ _ _ _ _ _ _ _ _ _ _ _ _ _ _ _ _ _ _ _ _ _ _ _ _ _ _ _ _ _ _ _ _ _ _ _ _ _ _ _ _ _ _ _ _ _ _ _ _ _ _ _ _ _ _ _ _ _ _ _ _ _ _ _ _ _ _ _ _ _ _ _ _ _ _ _ _ _ _ _ _ _ _ _ _ _ _ _ _ _ _ _ _ _ _ _ _ _ _ _ _ _ _ _ _ _ _ _ _ _ _ _ _ _ _ _ _ _ _ _ _ _ _ _ _ _ _ _ _ _ _ _ _ _ _ _ _ _ _ _ _ _ _ _ _ _ _ _ _ _ _ _ _ _ _ _ _ _ _ _ _ _ _ _ _ _ _ _ _ _ _ _ _ _ _ _ _ _ _ _ _ _ _ _ _ _ _ _ _ _ _ _ _ _ _ _ _ _ hlt6 HhS.out Hrow.out hlenX (by omega) hwB hbb ?_)
                            intro g cap y m275 m276 m277 m278 m279 m280 m281 m282 m283 m284 m285 m286 m287 m288 m289 m290 m291 m292 m293 m294 m295 m296 m297 m298 m299 m300 m301 hown hgrow
                            have hky : Below B3 W3 y := Below.grown (hb6.trans ((kwd.trans (walloc _ _)).mono (by omega))) hgrow (by simp; omega) (fun j e => (BRow.lt Hrow.out j e).1)
                            clear hgrow
                            go_wp2_with (fail)
                            go_roundw
                            case rel => first | exact w6_next hlt6 Hnx.out HXX.out hown hky | exact ⟨_, _, _, _, _, _, _, _, _, _, _, _, _, _, _, _, _, _, _, _, _, _, _, _, _, _, _, _, _, _, _, _, _, _, _, _, w6_next hlt6 Hnx.out HXX.out hown hky, rfl⟩
                            case measure => simp [intOf]; omega
                          · have d0 : decide ((k6 : Int) < F.steps.length) = false := decide_eq_false (by omega)
                            rename World => z7
                            have hsl : (stsL F.steps).length = 4 * F.steps.length := flat_len idS F.steps
                            have hQl7 : (Q6 ++ stsL F.steps).length ≤ 200000 := by rw [List.length_append, hsl]; omega
                            obtain ⟨Q7, hQ7⟩ : ∃ Q7, Q7 = Q6 ++ stsL F.steps := ⟨_, rfl⟩
                            rw [List.take_of_length_le (by omega), show (Q6 ++ F.steps.flatMap fun x => stL (idS x)) = Q7 from hQ7.symm] at hrow
                            rw [← hQ7] at hQl7
                            have hK : NumsAt W3 a.A2 F.kerns B3 := (HF.out.k.kept (hen W3 (Below.refl _ _))).more (Nat.le_of_lt hwB)
                            have hcall := rw_step (c := a.c2) hrow hb6 hK hB3 (by omega) (by omega)
                            have hkl : (numsL F.kerns).length = 4 * F.kerns.length := nums_len _
                            have hQl8 : (Q7 ++ numsL F.kerns).length ≤ 400000 := by rw [List.length_append, hkl]; omega
                            obtain ⟨Q8, hQ8⟩ : ∃ Q8, Q8 = Q7 ++ numsL F.kerns := ⟨_, rfl⟩
                            rw [← hQ8] at hcall hQl8
                            have HQ7 := Lib.hid hQ7
                            have HQ8 := Lib.hid hQ8
                            have HCl := Lib.hid hcall
                            clear hQ7 hQ8 hcall hrow hsl hkl hK
                            go_wp2_with (fail)
                            refine HCl.out.mono ?_
                            rintro e z8 ⟨v8, rfl, hrow, hb8⟩
                            clear b0 b1 b2 b3 b4 b5 b6 b7 bl d0
                            obtain ⟨b0, b1, b2, b3, b4, b5, b6, b7, bl⟩ := hFB z8 hb8
                            go_wp2_with (fail)
                            go_loopw [14, 20] (fun s14 s20 wr => W6Loop F.pieces Q8 B3 W3 s14 s20 wr) (fun _ s20 _ => F.pieces.length - (intOf s20).toNat)
                            case atStart => exact ⟨0, Nat.zero_le _, rfl, by rw [List.take_zero, List.flatMap_nil, List.append_nil]; exact hrow, hb8⟩
                            case round =>
                              clear hrow hb8 b0 b1 b2 b3 b4 b5 b6 b7 bl
                              obtain ⟨k7, hk7, rfl, hrow, hb7⟩ := hrel
                              have hs7 := hb7.size
                              obtain ⟨b0, b1, b2, b3, b4, b5, b6, b7, bl⟩ := hFB wr hb7
                              by_cases hlt7 : k7 < F.pieces.length
                              · have d0 : decide ((k7 : Int) < F.pieces.length) = true := decide_eq_true (by omega)
                                obtain ⟨b, o, hA, hbl, hcell⟩ := HF.out.p (by omega)
                                obtain ⟨g0, g1, g2, g3⟩ := hcell k7 hlt7
                                have hnx := flat_next idS hlt7
                                have hfl := flat_len idS (F.pieces.take k7)
                                have hkl : (F.pieces.take k7).length ≤ k7 := by rw [List.length_take]; exact Nat.min_le_left _ _
                                obtain ⟨x, hx⟩ : ∃ x, F.pieces[k7] = x := ⟨_, rfl⟩
                                rw [hx] at g0 g1 g2 g3 hnx
                                obtain ⟨A0, n0, A1, n1, A2, n2, A3, n3, A4, n4⟩ := a
                                obtain rfl : A3 = some ⟨b, o, none⟩ := hA
                                have hS : ∀ w', Kept wr w' → Hid (w'.cell? ⟨w.heap.size, 6, none⟩ = some (.slice (some ⟨b, o, none⟩) F.pieces.length n3) ∧ w'.cell? ⟨b, o + k7 * 4, none⟩ = some (.int .u8 x.skip) ∧ w'.cell? ⟨b, o + k7 * 4 + 1, none⟩ = some (.int .u8 x.next) ∧ w'.cell? ⟨b, o + k7 * 4 + 2, none⟩ = some (.int .u8 x.op) ∧ w'.cell? ⟨b, o + k7 * 4 + 3, none⟩ = some (.int .u8 x.rest)) := fun w' kk => by
                                  have hz : Below B3 W3 w' := hb7.trans (kk.mono (by omega))
                                  have hq : ∀ j, w'.cell? ⟨b, j, none⟩ = w.cell? ⟨b, j, none⟩ := fun j => (hen w' hz).cell (p := ⟨b, j, none⟩) hbl
                                  exact Lib.hid ⟨(hFB w' hz).b6, (hq _).trans g0, (hq _).trans g1, (hq _).trans g2, (hq _).trans g3⟩
                                have hlenX : (Q8 ++ (F.pieces.take k7).flatMap fun x => stL (idS x)).length ≤ 1000000 := by rw [List.length_append, hfl]; omega
                                have Hnx := Lib.hid hnx
                                obtain ⟨X, hX⟩ : ∃ X, (Q8 ++ (F.pieces.take k7).flatMap fun x => stL (idS x)) = X := ⟨_, rfl⟩
                                rw [hX] at hrow hlenX
                                have HXX := Lib.hid hX
                                have Hrow := Lib.hid hrow
                                have HhS := Lib.hid hS
                                have kwd : Kept wr wr.drew := (Kept.refl wr).drew
                                have hbb : b < B3 := by omega
                                clear g0 g1 g2 g3 hnx hfl hkl hrow hx hS hcell hX
                                go_wp2_with (fail)
                                refine wp_region_noPanic (reg55_ok w.heap.size B3 b o F.pieces.length n3 k7 x.skip x.next x.op x.rest _ _ wr _ _ _ _ _ _ _ _ _ _ _ _ _ _ _ _ _ _ _ _ _ _ _ _ _ _ _ _ _ _ _ _ _ _ _ _ _ _ _ _ _ _ _ _ _ _ _ _ _ _ _ _ _ _ _ _ _ _ _ _ _ _ _ _ _ _ _ _ _ _ _ _ _ _ _ _ _ _ _ _ _ _ _ _ _ _ _ _ _ _ _ _ _ _ _ _ _ _ _ _ _ _ _ _ _ _ _ _ _ _ _ _ _ _ _ _ _ _ _ _ _ _ _ _ _ _ _ _ _ _ _ _ _ _ _ _ _ _ _ _ _ _ _ _ _ _ _ _ _ _ _ _ _ _ _ _ _ _ _ _ _ _ _ _ _ _ _ _ _ _ _ _ _ _ _ _ _ _ _ _ _ _ _ _ _ _ _ _ _ _ _ _ _ _ _ _ _ _ _ _ _ _ _ _ _ _ _ _ _ _ _ _ _ _ _ _ _ _ _ _ _ _ _ _ _ _ _ _ _ _ _ _ _ _ _ _ _ _ _ _ _ _ _ _ _ _ _ _ _ _ _ _ _ _ _ _ _ _ _ _ _ _ _ _ _ _ _ _ _ _ _ _ _ _ _ _ _ _ _ _ _ _ _ _ _ _ _ _ _ _ _ _ _ _ _ _ _ _ _ _ _ _ _ _ _ _ _ _ _ _ _ _ _ _ _ _ _ _ _ _ _ _ _ _ _ _ _ _ _ _ _ _ _ _ _ _ _ _ _ _ _ _ hlt7 HhS.out Hrow.out hlenX (by omega) hwB hbb ?_)
                                intro g cap y m313 m314 m315 m316 m317 m318 m319 m320 m321 m322 m323 m324 m325 m326 m327 m328 m329 m330 m331 m332 m333 m334 m335 m336 m337 m338 m339 hown hgrow
                                have hky : Below B3 W3 y := Below.grown (hb7.trans ((kwd.trans (walloc _ _)).mono (by omega))) hgrow (by simp; omega) (fun j e => (BRow.lt Hrow.out j e).1)
                                clear hgrow
                                go_wp2_with (fail)
                                go_roundw
                                case rel => first | exact w6_next hlt7 Hnx.out HXX.out hown hky | exact ⟨_, _, _, _, _, _, _, _, _, _, _, _, _, _, _, _, _, _, _, _, _, _, _, _, _, _, _, _, _, _, _, _, _, _, _, _, w6_next hlt7 Hnx.out HXX.out hown hky, rfl⟩
                                case measure => simp [intOf]; omega
                              · have d0 : decide ((k7 : Int) < F.pieces.length) = false := decide_eq_false (by omega)
                                rename World => z9
                                have hsl : (stsL F.pieces).length = 4 * F.pieces.length := flat_len idS F.pieces
                                have hQl9 : (Q8 ++ stsL F.pieces).length ≤ 500000 := by rw [List.length_append, hsl]; omega
                                obtain ⟨Q9, hQ9⟩ : ∃ Q9, Q9 = Q8 ++ stsL F.pieces := ⟨_, rfl⟩
                                rw [List.take_of_length_le (by omega), show (Q8 ++ F.pieces.flatMap fun x => stL (idS x)) = Q9 from hQ9.symm] at hrow
                                rw [← hQ9] at hQl9
                                have hK : NumsAt W3 a.A4 F.params B3 := (HF.out.q.kept (hen W3 (Below.refl _ _))).more (Nat.le_of_lt hwB)
                                have hcall := rw_step (c := a.c4) hrow hb7 hK hB3 (by omega) (by omega)
                                have hend : Q9 ++ numsL F.params = writeL F := by
                                  rw [hQ9, HQ8.out, HQ7.out, HQ6.out, HQ5.out, HP4.out, ← HCC.out]
                                  unfold writeL tabL
                                  simp only [List.append_assoc]
                                rw [hend] at hcall
                                have HCl := Lib.hid hcall
                                clear hQ9 hcall hrow hsl hK hend hQl9
                                go_wp2_with (fail)
                                refine HCl.out.mono ?_
                                rintro e za ⟨va, rfl, hrow, hba⟩
                                obtain ⟨Aa, la, ca, rfl⟩ := own_slice hrow
                                go_wp2_with (fail)
                                go_ret2
                                rw [HX.out.1, HX.out.2]
                                exact ⟨_, rfl, own_base hrow (Nat.le_of_lt hwB), hen za hba⟩
end Go.Proofs.YtdhidpbenhmfgaaGreat
namespace Go.Proofs.YtdhidpbenhmfgaaGreat
open Go.RowKit

abbrev fboxL (F : Fnt) (a : FAddr) : Obj := .cells #[.int .u32 F.check, .int .i64 F.design, .int .i64 F.first, .slice a.A0 F.chars.length a.c0, .slice a.A1 F.steps.length a.c1, .slice a.A2 F.kerns.length a.c2, .slice a.A3 F.pieces.length a.c3, .slice a.A4 F.params.length a.c4] 28
def FIl (w : World) (B : Nat) (F : Fnt) (a : FAddr) : Prop := FObj w B (.int .u32 F.check) (.int .i64 F.design) (.int .i64 F.first) (.slice a.A0 F.chars.length a.c0) (.slice a.A1 F.steps.length a.c1) (.slice a.A2 F.kerns.length a.c2) (.slice a.A3 F.pieces.length a.c3) (.slice a.A4 F.params.length a.c4)
theorem fil_new (w : World) (F : Fnt) (a : FAddr) : FIl (w.alloc (fboxL F a)) w.heap.size F a := mkobj _ _
theorem FIl.kept {w w' : World} {B : Nat} {F : Fnt} {a : FAddr} (h : FIl w B F a) (k : Kept w w') : FIl w' B F a := FObj.grown (row := none) h (grown_kept k) (by simp)
theorem fal_kept {w w' : World} {F : Fnt} {a : FAddr} (h : FontAt w F a w.heap.size) (k : Kept w w') : FontAt w' F a w'.heap.size := (h.kept k).more k.size
theorem rowl_kept {w w' : World} {B : Nat} {v : Value} {l : List Int} (h : BRow w B v l) (k : Kept w w') : BRow w' B v l := h.kept (grown_kept (row := none) k) (own_none _)
theorem row_text {w : World} {B n c : Nat} {A : Option Addr} {l : List Int} (h : BRow w B (.slice A n c) l) : (convert 30 9 (.slice A n c)).run Tryz.prog w = .ok (.string (strOfNums l)) w := by
  rcases h.2 with ⟨e, h0⟩ | ⟨g, cap, cur, e, _, hg, _⟩
  · cases e
    obtain rfl : l = [] := List.eq_nil_of_length_eq_zero h0
    exact run_convert_bytes_nil w 30 5 Tryz.underlying30 Tryz.underlying5 _ _ 9 Tryz.underlying9
  · cases e
    refine run_convert_bytes_arg w 30 5 Tryz.underlying30 Tryz.underlying5 g 0 _ _ l rfl (fun i hi => ?_) 9 Tryz.underlying9
    have q := World.ownsRow.cells h (g := g) rfl i (.int .u8 (l.getD i 0)) (by rw [List.getElem?_map, List.getElem?_eq_getElem hi, List.getD_eq_getElem?_getD, List.getElem?_eq_getElem hi]; rfl)
    rw [Go.Addr.add_mid] at q
    exact q

set_option maxRecDepth 100000 in
set_option maxHeartbeats 2000000 in
theorem rwrite_bad (F : Fnt) (a : FAddr) (w : World) (hF : FontAt w F a w.heap.size) (hw : F.wf) (h : fontE F = 40) :
    Calls Tryz.prog 7 #[fontV F a] w fun e w' => ∃ v, e = .returned (.tuple #[v, .int .i64 40]) ∧ BRow w' w.heap.size v [] ∧ Kept w w' := by
  obtain ⟨W, hW⟩ : ∃ W, W = w.alloc (fboxL F a) := ⟨_, rfl⟩
  have hk0 : Kept w W := by rw [hW]; exact walloc _ _
  have hs := fun w' (hk : Kept w w') => Lib.hid (fcheck_any F a w' ((hF.kept hk).more hk.size) hw)
  have HW := Lib.hid hW
  clear hW
  rw [h] at hs
  clear h hF hw
  go_enter Tryz.func7, Tryz.ntmps7
  go_wp2_with (fail)
  rw [← HW.out]
  refine (hs _ hk0).out.mono ?_
  rintro e w1 ⟨rfl, k1⟩
  have kw : Kept w w1 := hk0.trans k1
  go_wp2_with (fail)
  go_ret2
  exact ⟨_, rfl, World.ownsRow_nil _ _ _ _, kw⟩
theorem rwrite_any (F : Fnt) (a : FAddr) (w : World) (hF : FontAt w F a w.heap.size) (hw : F.wf) :
    Calls Tryz.prog 7 #[fontV F a] w fun e w' => ∃ v, e = .returned (.tuple #[v, .int .i64 (writeE F)]) ∧ BRow w' w.heap.size v (writeB F) ∧ Kept w w' := by
  by_cases h : fontE F = 0
  · exact rwrite_good F a w hF hw h
  · have h40 : fontE F = 40 := by unfold fontE at h ⊢; split at h; exact absurd rfl h; rw [if_neg (by assumption)]
    have e40 : writeE F = 40 := by unfold writeE; rw [if_neg h]
    rw [show writeB F = [] by unfold writeB; rw [if_neg (by omega)], e40]
    exact rwrite_bad F a w hF hw h40

set_option maxRecDepth 100000 in
set_option maxHeartbeats 16000000 in
theorem fontWrites_walk (w : World) (F : Fnt) (a : FAddr) (hF : FontAt w F a w.heap.size) (hw : F.wf) (hf : FFit F a) :
    Calls Tryz.prog 3 #[fontV F a] w fun e w' => e = .returned (.bool true) ∧ Kept w w' := by
  have hk := fun w => Lib.hid (know3_any w)
  have Hown := Lib.hid (own_any F a (w.alloc (fboxL F a)) (fal_kept hF (walloc _ _)) hw hf)
  have FA := fun w' (k : Kept w w') => fal_kept hF k
  have cW := fun (b : FAddr) w' (h : FontAt w' F b w'.heap.size) => Lib.hid (write_any F b w' h hw)
  have rW := fun w' (k : Kept w w') => Lib.hid (rwrite_any F a w' (FA w' k) hw)
  have cC := fun (b : FAddr) w' (h : FontAt w' F b w'.heap.size) => Lib.hid (ccheck_any F b w' h hw)
  have rC := fun w' (k : Kept w w') => Lib.hid (fcheck_any F a w' (FA w' k) hw)
  have hS := fun (b : FAddr) w' (h : FontAt w' F b w'.heap.size) (k : Kept w w') => Lib.hid (sameF_any F F b a w' h (FA w' k) hw hw)
  rw [decide_eq_true rfl] at hS
  generalize fontE F = t at *
  generalize writeE F = q at *
  generalize writeB F = L at *
  have OA := Lib.hid (fil_new w F a)
  have KA := Lib.hid (walloc w (fboxL F a))
  clear hF hw hf FA
  go_enter Tryz.func3, Tryz.ntmps3
  go_wp2_with (fail)
  refine Hown.out.mono ?_
  rintro e1 w1 ⟨b, rfl, hG, k1⟩
  have K1 := Lib.hid (KA.out.trans k1)
  obtain ⟨W2, hW2⟩ : ∃ W2, W2 = w1.alloc (fboxL F b) := ⟨_, rfl⟩
  have OB : Hid (FIl W2 w1.heap.size F b) := Lib.hid (by rw [hW2]; exact fil_new w1 F b)
  have OA2 : Hid (FIl W2 w.heap.size F a) := Lib.hid (by rw [hW2]; exact (OA.out.kept k1).kept (walloc _ _))
  have K2 : Hid (Kept w W2) := Lib.hid (by rw [hW2]; exact K1.out.trans (walloc _ _))
  have HG : Hid (FontAt W2 F b W2.heap.size) := Lib.hid (by rw [hW2]; exact fal_kept hG (walloc _ _))
  have HW2 := Lib.hid hW2
  clear hW2 hG k1
  go_wp2_with (fail)
  rw [← HW2.out]
  refine (cW b W2 HG.out).out.mono ?_
  rintro e2 z1 ⟨v1, rfl, hr1, k1⟩
  obtain ⟨A1, n1, c1, rfl⟩ := own_slice hr1
  have J1 := Lib.hid k1
  have R1 := Lib.hid hr1
  obtain ⟨x0, x1, x2, x3, x4, x5, x6, x7, xf, xl⟩ := FObj.cells (OA2.out.kept k1)
  clear k1 hr1
  go_wp2_with (fail)
  refine (rW z1 (K2.out.trans J1.out)).out.mono ?_
  rintro e3 z2 ⟨v2, rfl, hr2, k2⟩
  obtain ⟨A2, n2, c2, rfl⟩ := own_slice hr2
  clear x0 x1 x2 x3 x4 x5 x6 x7 xf xl
  have J2 := Lib.hid (J1.out.trans k2)
  have R2 := Lib.hid hr2
  have R1' := Lib.hid (rowl_kept R1.out k2)
  obtain ⟨T, hT⟩ : ∃ T, strOfNums L = T := ⟨_, rfl⟩
  have HT := Lib.hid hT
  clear hT k2 hr2
  have hX : ∀ w', Kept z2 w' → Hid (w'.cell? ⟨w.heap.size, 0, none⟩ = some (.int .u32 F.check) ∧ w'.cell? ⟨w.heap.size, 1, none⟩ = some (.int .i64 F.design) ∧ w'.cell? ⟨w.heap.size, 2, none⟩ = some (.int .i64 F.first) ∧ w'.cell? ⟨w.heap.size, 3, none⟩ = some (.slice a.A0 F.chars.length a.c0) ∧ w'.cell? ⟨w.heap.size, 4, none⟩ = some (.slice a.A1 F.steps.length a.c1) ∧ w'.cell? ⟨w.heap.size, 5, none⟩ = some (.slice a.A2 F.kerns.length a.c2) ∧ w'.cell? ⟨w.heap.size, 6, none⟩ = some (.slice a.A3 F.pieces.length a.c3) ∧ w'.cell? ⟨w.heap.size, 7, none⟩ = some (.slice a.A4 F.params.length a.c4) ∧ w'.cell? ⟨w1.heap.size, 0, none⟩ = some (.int .u32 F.check) ∧ w'.cell? ⟨w1.heap.size, 1, none⟩ = some (.int .i64 F.design) ∧ w'.cell? ⟨w1.heap.size, 2, none⟩ = some (.int .i64 F.first) ∧ w'.cell? ⟨w1.heap.size, 3, none⟩ = some (.slice b.A0 F.chars.length b.c0) ∧ w'.cell? ⟨w1.heap.size, 4, none⟩ = some (.slice b.A1 F.steps.length b.c1) ∧ w'.cell? ⟨w1.heap.size, 5, none⟩ = some (.slice b.A2 F.kerns.length b.c2) ∧ w'.cell? ⟨w1.heap.size, 6, none⟩ = some (.slice b.A3 F.pieces.length b.c3) ∧ w'.cell? ⟨w1.heap.size, 7, none⟩ = some (.slice b.A4 F.params.length b.c4) ∧ (convert 30 9 (.slice A1 n1 c1)).run Tryz.prog w' = .ok (.string T) w' ∧ (convert 30 9 (.slice A2 n2 c2)).run Tryz.prog w' = .ok (.string T) w') := fun w' kk => by
    obtain ⟨x0, x1, x2, x3, x4, x5, x6, x7, _, _⟩ := FObj.cells (OA2.out.kept (J2.out.trans kk))
    obtain ⟨y0, y1, y2, y3, y4, y5, y6, y7, _, _⟩ := FObj.cells (OB.out.kept (J2.out.trans kk))
    have cv1 := row_text (rowl_kept R1'.out kk)
    have cv2 := row_text (rowl_kept R2.out kk)
    rw [HT.out] at cv1 cv2
    exact Lib.hid ⟨x0, x1, x2, x3, x4, x5, x6, x7, y0, y1, y2, y3, y4, y5, y6, y7, cv1, cv2⟩
  obtain ⟨x0, x1, x2, x3, x4, x5, x6, x7, y0, y1, y2, y3, y4, y5, y6, y7, cv1, cv2⟩ := (hX z2 (Kept.refl _)).out
  have kb : Kept z2 z2.drew := (Kept.refl z2).drew
  have tk0 : True := trivial
  go_wp2_with (fail)
  go_region_held2 (fun w' => w'.cell? ⟨w.heap.size, 0, none⟩ = some (.int .u32 F.check) ∧ w'.cell? ⟨w.heap.size, 1, none⟩ = some (.int .i64 F.design) ∧ w'.cell? ⟨w.heap.size, 2, none⟩ = some (.int .i64 F.first) ∧ w'.cell? ⟨w.heap.size, 3, none⟩ = some (.slice a.A0 F.chars.length a.c0) ∧ w'.cell? ⟨w.heap.size, 4, none⟩ = some (.slice a.A1 F.steps.length a.c1) ∧ w'.cell? ⟨w.heap.size, 5, none⟩ = some (.slice a.A2 F.kerns.length a.c2) ∧ w'.cell? ⟨w.heap.size, 6, none⟩ = some (.slice a.A3 F.pieces.length a.c3) ∧ w'.cell? ⟨w.heap.size, 7, none⟩ = some (.slice a.A4 F.params.length a.c4) ∧ w'.cell? ⟨w1.heap.size, 0, none⟩ = some (.int .u32 F.check) ∧ w'.cell? ⟨w1.heap.size, 1, none⟩ = some (.int .i64 F.design) ∧ w'.cell? ⟨w1.heap.size, 2, none⟩ = some (.int .i64 F.first) ∧ w'.cell? ⟨w1.heap.size, 3, none⟩ = some (.slice b.A0 F.chars.length b.c0) ∧ w'.cell? ⟨w1.heap.size, 4, none⟩ = some (.slice b.A1 F.steps.length b.c1) ∧ w'.cell? ⟨w1.heap.size, 5, none⟩ = some (.slice b.A2 F.kerns.length b.c2) ∧ w'.cell? ⟨w1.heap.size, 6, none⟩ = some (.slice b.A3 F.pieces.length b.c3) ∧ w'.cell? ⟨w1.heap.size, 7, none⟩ = some (.slice b.A4 F.params.length b.c4) ∧ (convert 30 9 (.slice A1 n1 c1)).run Tryz.prog w' = .ok (.string T) w' ∧ (convert 30 9 (.slice A2 n2 c2)).run Tryz.prog w' = .ok (.string T) w') (first | exact (hX _ (by first | assumption | exact Below.drew (by assumption))).out) (first
    | (have _t := tk0; go_at_call 9; refine (cC b _ (fal_kept HG.out (J2.out.trans kb))).out.mono ?_; rintro e y1 ⟨rfl, j1⟩; have kc := kb.trans j1; clear kb j1; have kb := kc; clear kc; have tk1 : True := trivial; clear tk0 _t)
    | (go_at_call 8; refine (num3_any _ _).mono ?_; rintro e w' ⟨rfl, rfl⟩)
    | (have _t := tk1; go_at_call 10; refine (rC _ (K2.out.trans (J2.out.trans kb))).out.mono ?_; rintro e y2 ⟨rfl, j2⟩; have kc := kb.trans j2; clear kb j2; have kb := kc; clear kc; have tk2 : True := trivial; clear tk1 _t)
    | (have _t := tk2; go_at_call 11; refine (hS b _ (fal_kept HG.out (J2.out.trans kb)) (K2.out.trans (J2.out.trans kb))).out.mono ?_; rintro e y3 ⟨rfl, j3⟩; have kc := kb.trans j3; clear kb j3; have kb := kc; clear kc; have tk3 : True := trivial; clear tk2 _t)
    | (have _t := tk3; go_at_call 12; refine (hk _).out.mono ?_; rintro e y4 ⟨rfl, j4⟩; have kc := kb.trans j4; clear kb j4; have kb := kc; clear kc; have tk4 : True := trivial; clear tk3 _t))
  all_goals go_wp2_with (fail)
  all_goals go_ret
  all_goals exact ⟨ret_bool (by first | rfl | decide | simp), K2.out.trans (J2.out.trans kb)⟩
end Go.Proofs.YtdhidpbenhmfgaaGreat
