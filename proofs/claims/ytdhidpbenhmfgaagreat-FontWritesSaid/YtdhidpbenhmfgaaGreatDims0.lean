/- font.dimensOf: what its walk says. -/
import Derived.Test.YtdhidpbenhmfgaaGreatOwnInts
import Derived.Test.YtdhidpbenhmfgaaGreatM4
import Derived.Maps.AppendAt
import Derived.Deep.RegionHeld3
namespace Go.Proofs.YtdhidpbenhmfgaaGreat
open Go.RowKit

def Apart (u v : Value) : Prop := ∀ g, u.ownBlock = some g → v.ownBlock ≠ some g
theorem apart_nil (v : Value) : Apart (.slice none 0 0) v := fun g e => by simp [Value.ownBlock] at e
theorem Apart.symm {u v : Value} (h : Apart u v) : Apart v u := fun g e k => h g k e
/-- four rows of the call's own, in blocks of their own -/
structure Rows4 (w : World) (B : Nat) (v0 v1 v2 v3 : Value) (x0 x1 x2 x3 : List Int) : Prop where
  r0 : IRow w B v0 x0
  r1 : IRow w B v1 x1
  r2 : IRow w B v2 x2
  r3 : IRow w B v3 x3
  a01 : Apart v0 v1
  a02 : Apart v0 v2
  a03 : Apart v0 v3
  a12 : Apart v1 v2
  a13 : Apart v1 v3
  a23 : Apart v2 v3
theorem irow_grown {w w' : World} {B : Nat} {v : Value} {xs : List Int} {row : Option Nat} (h : IRow w B v xs) (k : w.grownBy w' row) (hne : ∀ g, row = some g → v.ownBlock ≠ some g) : IRow w' B v xs := by
  refine World.ownsRow.kept h k ?_
  cases ho : v.ownBlock with
  | none => exact .inl rfl
  | some g => exact .inr fun e => hne g e.symm ho
theorem irow_kept {w w' : World} {B : Nat} {v : Value} {xs : List Int} (h : IRow w B v xs) (k : Kept w w') : IRow w' B v xs := irow_grown (row := none) h (grown_kept k) (by simp)
theorem Rows4.kept {w w' : World} {B : Nat} {v0 v1 v2 v3 : Value} {x0 x1 x2 x3 : List Int} (h : Rows4 w B v0 v1 v2 v3 x0 x1 x2 x3) (k : Kept w w') : Rows4 w' B v0 v1 v2 v3 x0 x1 x2 x3 :=
  ⟨irow_kept h.r0 k, irow_kept h.r1 k, irow_kept h.r2 k, irow_kept h.r3 k, h.a01, h.a02, h.a03, h.a12, h.a13, h.a23⟩
theorem apart_new {w : World} {B : Nat} {v u u' : Value} {xs : List Int} (ha : Apart u v) (hv : IRow w B v xs) (hp : u'.ownBlock = u.ownBlock ∨ ∃ g, u'.ownBlock = some g ∧ w.heap.size ≤ g) : Apart u' v := fun g e k => by
  rcases hp with hp | ⟨g', hp, hg⟩
  · exact ha g (hp ▸ e) k
  · rw [hp] at e
    cases e
    have := (World.ownsRow.lt hv g k).2
    omega
theorem Rows4.set0 {w w' : World} {B : Nat} {v0 v1 v2 v3 u : Value} {x0 x1 x2 x3 y : List Int} (h : Rows4 w B v0 v1 v2 v3 x0 x1 x2 x3) (k : w.grownBy w' v0.ownBlock) (hu : IRow w' B u y) (hp : u.ownBlock = v0.ownBlock ∨ ∃ g, u.ownBlock = some g ∧ w.heap.size ≤ g) :
    Rows4 w' B u v1 v2 v3 y x1 x2 x3 :=
  ⟨hu, irow_grown h.r1 k (h.a01), irow_grown h.r2 k (h.a02), irow_grown h.r3 k (h.a03), apart_new h.a01 h.r1 hp, apart_new h.a02 h.r2 hp, apart_new h.a03 h.r3 hp, h.a12, h.a13, h.a23⟩
theorem Rows4.set1 {w w' : World} {B : Nat} {v0 v1 v2 v3 u : Value} {x0 x1 x2 x3 y : List Int} (h : Rows4 w B v0 v1 v2 v3 x0 x1 x2 x3) (k : w.grownBy w' v1.ownBlock) (hu : IRow w' B u y) (hp : u.ownBlock = v1.ownBlock ∨ ∃ g, u.ownBlock = some g ∧ w.heap.size ≤ g) :
    Rows4 w' B v0 u v2 v3 x0 y x2 x3 :=
  ⟨irow_grown h.r0 k (h.a01.symm), hu, irow_grown h.r2 k (h.a12), irow_grown h.r3 k (h.a13), (apart_new h.a01.symm h.r0 hp).symm, h.a02, h.a03, apart_new h.a12 h.r2 hp, apart_new h.a13 h.r3 hp, h.a23⟩
theorem Rows4.set2 {w w' : World} {B : Nat} {v0 v1 v2 v3 u : Value} {x0 x1 x2 x3 y : List Int} (h : Rows4 w B v0 v1 v2 v3 x0 x1 x2 x3) (k : w.grownBy w' v2.ownBlock) (hu : IRow w' B u y) (hp : u.ownBlock = v2.ownBlock ∨ ∃ g, u.ownBlock = some g ∧ w.heap.size ≤ g) :
    Rows4 w' B v0 v1 u v3 x0 x1 y x3 :=
  ⟨irow_grown h.r0 k (h.a02.symm), irow_grown h.r1 k (h.a12.symm), hu, irow_grown h.r3 k (h.a23), h.a01, (apart_new h.a02.symm h.r0 hp).symm, h.a03, (apart_new h.a12.symm h.r1 hp).symm, h.a13, apart_new h.a23 h.r3 hp⟩
theorem Rows4.set3 {w w' : World} {B : Nat} {v0 v1 v2 v3 u : Value} {x0 x1 x2 x3 y : List Int} (h : Rows4 w B v0 v1 v2 v3 x0 x1 x2 x3) (k : w.grownBy w' v3.ownBlock) (hu : IRow w' B u y) (hp : u.ownBlock = v3.ownBlock ∨ ∃ g, u.ownBlock = some g ∧ w.heap.size ≤ g) :
    Rows4 w' B v0 v1 v2 u x0 x1 x2 y :=
  ⟨irow_grown h.r0 k (h.a03.symm), irow_grown h.r1 k (h.a13.symm), irow_grown h.r2 k (h.a23.symm), hu, h.a01, h.a02, (apart_new h.a03.symm h.r0 hp).symm, h.a12, (apart_new h.a13.symm h.r1 hp).symm, (apart_new h.a23.symm h.r2 hp).symm⟩
theorem grown_setCell (w : World) (b j : Nat) (v : Value) : w.grownBy (w.setCell ⟨b, j, none⟩ v) (some b) :=
  ⟨rfl, rfl, rfl, by simp [World.setCell], fun k hk hne => by
    have : b ≠ k := fun e => hne (by rw [e])
    simp [World.setCell, Array.getElem?_modify, this]⟩
theorem Rows4.store {w : World} {B D j : Nat} {v0 v1 v2 v3 u : Value} {x0 x1 x2 x3 : List Int} (h : Rows4 w B v0 v1 v2 v3 x0 x1 x2 x3) (hD : D < B) : Rows4 (w.setCell ⟨D, j, none⟩ u) B v0 v1 v2 v3 x0 x1 x2 x3 := by
  have k := grown_setCell w D j u
  have q : ∀ {v : Value} {xs : List Int}, IRow w B v xs → IRow (w.setCell ⟨D, j, none⟩ u) B v xs := fun hr => irow_grown hr k (fun g e k => by
    cases e
    have := (World.ownsRow.lt hr D k).1
    omega)
  exact ⟨q h.r0, q h.r1, q h.r2, q h.r3, h.a01, h.a02, h.a03, h.a12, h.a13, h.a23⟩
theorem irow_base {w : World} {B B' : Nat} {v : Value} {xs : List Int} (h : IRow w B v xs) (hB : B' ≤ B) : IRow w B' v xs :=
  ⟨h.1, h.2.imp id fun ⟨g, cap, cur, e, hb, q⟩ => ⟨g, cap, cur, e, Nat.le_trans hB hb, q⟩⟩
theorem Rows4.base {w : World} {B B' : Nat} {v0 v1 v2 v3 : Value} {x0 x1 x2 x3 : List Int} (h : Rows4 w B v0 v1 v2 v3 x0 x1 x2 x3) (hB : B' ≤ B) : Rows4 w B' v0 v1 v2 v3 x0 x1 x2 x3 :=
  ⟨irow_base h.r0 hB, irow_base h.r1 hB, irow_base h.r2 hB, irow_base h.r3 hB, h.a01, h.a02, h.a03, h.a12, h.a13, h.a23⟩
theorem Rows4.same {w w' : World} {B : Nat} {v0 v1 v2 v3 : Value} {x0 x1 x2 x3 : List Int} (h : Rows4 w B v0 v1 v2 v3 x0 x1 x2 x3) (k : w'.heap = w.heap) : Rows4 w' B v0 v1 v2 v3 x0 x1 x2 x3 := by
  have q : ∀ {v : Value} {xs : List Int}, IRow w B v xs → IRow w' B v xs := fun hr => by unfold IRow World.ownsRow at *; rw [k]; exact hr
  exact ⟨q h.r0, q h.r1, q h.r2, q h.r3, h.a01, h.a02, h.a03, h.a12, h.a13, h.a23⟩

/-- a box of four headers -/
def DObj (w : World) (D : Nat) (v0 v1 v2 v3 : Value) : Prop := w.heap[D]? = some (.cells #[v0, v1, v2, v3] 58 (0, 0))
theorem DObj.cells {w : World} {D : Nat} {v0 v1 v2 v3 : Value} (h : DObj w D v0 v1 v2 v3) : w.cell? ⟨D, 0, none⟩ = some v0 ∧ w.cell? ⟨D, 1, none⟩ = some v1 ∧ w.cell? ⟨D, 2, none⟩ = some v2 ∧ w.cell? ⟨D, 3, none⟩ = some v3 ∧ (∀ o, w.frozen? ⟨D, o, none⟩ = false) ∧ D < w.heap.size := by
  unfold DObj at h
  refine ⟨?_, ?_, ?_, ?_, fun o => ?_, ?_⟩
  case refine_6 =>
    rcases Nat.lt_or_ge D w.heap.size with h' | h'
    · exact h'
    · simp [Array.getElem?_eq_none h'] at h
  all_goals first | simp [World.cell?, h] | simp [World.frozen?, h]
theorem DObj.grown {w w' : World} {D : Nat} {v0 v1 v2 v3 : Value} {row : Option Nat} (h : DObj w D v0 v1 v2 v3) (k : w.grownBy w' row) (hne : row ≠ some D) : DObj w' D v0 v1 v2 v3 := by
  have hl := h.cells.2.2.2.2.2
  unfold DObj at *
  rw [k.block D hl (fun e => hne e.symm)]
  exact h
theorem DObj.low {w w' : World} {D B : Nat} {v0 v1 v2 v3 v : Value} {xs : List Int} (h : DObj w D v0 v1 v2 v3) (hr : IRow w B v xs) (hD : D < B) (k : w.grownBy w' v.ownBlock) : DObj w' D v0 v1 v2 v3 :=
  h.grown k (fun e => by have := (World.ownsRow.lt hr D e).1; omega)
theorem DObj.set0 {w : World} {D : Nat} {v0 v1 v2 v3 u : Value} (h : DObj w D v0 v1 v2 v3) : DObj (w.setCell ⟨D, 0, none⟩ u) D u v1 v2 v3 := by
  unfold DObj at *
  simp only [World.setCell, Array.getElem?_modify, h, if_true, Option.map_some]
  rfl
theorem DObj.set1 {w : World} {D : Nat} {v0 v1 v2 v3 u : Value} (h : DObj w D v0 v1 v2 v3) : DObj (w.setCell ⟨D, 1, none⟩ u) D v0 u v2 v3 := by
  unfold DObj at *
  simp only [World.setCell, Array.getElem?_modify, h, if_true, Option.map_some]
  rfl
theorem DObj.set2 {w : World} {D : Nat} {v0 v1 v2 v3 u : Value} (h : DObj w D v0 v1 v2 v3) : DObj (w.setCell ⟨D, 2, none⟩ u) D v0 v1 u v3 := by
  unfold DObj at *
  simp only [World.setCell, Array.getElem?_modify, h, if_true, Option.map_some]
  rfl
theorem DObj.set3 {w : World} {D : Nat} {v0 v1 v2 v3 u : Value} (h : DObj w D v0 v1 v2 v3) : DObj (w.setCell ⟨D, 3, none⟩ u) D v0 v1 v2 u := by
  unfold DObj at *
  simp only [World.setCell, Array.getElem?_modify, h, if_true, Option.map_some]
  rfl

def thereL (l : List Met) : List Met := l.filter fun m => !(m.tag == -1)
theorem there_next {l : List Met} {k : Nat} (h : k < l.length) : thereL (l.take (k + 1)) = thereL (l.take k) ++ (if l[k].tag = -1 then [] else [l[k]]) := by
  unfold thereL
  rw [List.take_succ_eq_append_getElem h, List.filter_append]
  congr 1
  by_cases ht : l[k].tag = -1
  · simp [ht]
  · simp [ht]
def colW (l : List Met) : List Int := (thereL l).map (·.w)
def colH (l : List Met) : List Int := (thereL l).map (·.h)
def colD (l : List Met) : List Int := (thereL l).map (·.d)
def colI (l : List Met) : List Int := (thereL l).map (·.it)
theorem col_len (l : List Met) : (colW l).length ≤ l.length ∧ (colH l).length ≤ l.length ∧ (colD l).length ≤ l.length ∧ (colI l).length ≤ l.length := by
  unfold colW colH colD colI thereL
  simp only [List.length_map]
  have := List.length_filter_le (fun m : Met => !(m.tag == -1)) l
  exact ⟨this, this, this, this⟩

theorem mlt_of {w : World} {k : Nat} {o : Obj} (h : w.heap[k]? = some o) : k < w.heap.size := (Array.getElem?_eq_some_iff.1 h).1
theorem own_slice {w : World} {B n s : Nat} {e : TypeId} {v : Value} {xs : List Value} (h : w.ownsRow B e s v n xs) : ∃ A n c, v = .slice A n c := by
  rcases h.2 with ⟨rfl, _⟩ | ⟨g, cap, cur, rfl, _⟩
  · exact ⟨_, _, _, rfl⟩
  · exact ⟨_, _, _, rfl⟩
/-- at the head of a round -/
structure DimAt (F : Fnt) (W : World) (R D k : Nat) (v0 v1 v2 v3 : Value) (wr : World) : Prop where
  obj : DObj wr D v0 v1 v2 v3
  res : DObj wr R (.slice none 0 0) (.slice none 0 0) (.slice none 0 0) (.slice none 0 0)
  rows : Rows4 wr (D + 1) v0 v1 v2 v3 (colW (F.chars.take k)) (colH (F.chars.take k)) (colD (F.chars.take k)) (colI (F.chars.take k))
  below : Below D W wr
theorem rising_len (X : List Int) : (risingL X).length ≤ X.length := by
  unfold risingL
  exact Nat.le_trans (compact_le _) (by rw [List.length_mergeSort]; exact Nat.le_refl _)
theorem noZero_len (X : List Int) : (noZero X).length ≤ X.length := List.length_filter_le _ _
/-- amid the last statement -/
structure DimSt (W : World) (R D : Nat) (v0 v1 v2 v3 u0 u1 u2 u3 : Value) (x0 x1 x2 x3 : List Int) (w : World) : Prop where
  box : DObj w D v0 v1 v2 v3 ∧ DObj w R (.slice none 0 0) (.slice none 0 0) (.slice none 0 0) (.slice none 0 0)
  rows : Rows4 w (D + 1) u0 u1 u2 u3 x0 x1 x2 x3
  below : Below D W w
theorem DimSt.set0 {W w w' : World} {R D : Nat} {v0 v1 v2 v3 u0 u1 u2 u3 u : Value} {x0 x1 x2 x3 y : List Int} (h : DimSt W R D v0 v1 v2 v3 u0 u1 u2 u3 x0 x1 x2 x3 w) (k : w.grownBy w' u0.ownBlock) (hu : IRow w' (D + 1) u y) (hp : u.ownBlock = u0.ownBlock ∨ ∃ g, u.ownBlock = some g ∧ w.heap.size ≤ g) (hR : R < D + 1 := by omega) :
    DimSt W R D v0 v1 v2 v3 u u1 u2 u3 y x1 x2 x3 w' :=
  ⟨⟨h.box.1.low h.rows.r0 (Nat.lt_succ_self _) k, h.box.2.low h.rows.r0 hR k⟩, h.rows.set0 k hu hp, h.below.grown k (by have := h.box.1.cells.2.2.2.2.2; omega) (fun j e => by have := (World.ownsRow.lt h.rows.r0 j e).1; omega)⟩
theorem DimSt.set1 {W w w' : World} {R D : Nat} {v0 v1 v2 v3 u0 u1 u2 u3 u : Value} {x0 x1 x2 x3 y : List Int} (h : DimSt W R D v0 v1 v2 v3 u0 u1 u2 u3 x0 x1 x2 x3 w) (k : w.grownBy w' u1.ownBlock) (hu : IRow w' (D + 1) u y) (hp : u.ownBlock = u1.ownBlock ∨ ∃ g, u.ownBlock = some g ∧ w.heap.size ≤ g) (hR : R < D + 1 := by omega) :
    DimSt W R D v0 v1 v2 v3 u0 u u2 u3 x0 y x2 x3 w' :=
  ⟨⟨h.box.1.low h.rows.r1 (Nat.lt_succ_self _) k, h.box.2.low h.rows.r1 hR k⟩, h.rows.set1 k hu hp, h.below.grown k (by have := h.box.1.cells.2.2.2.2.2; omega) (fun j e => by have := (World.ownsRow.lt h.rows.r1 j e).1; omega)⟩
theorem DimSt.set2 {W w w' : World} {R D : Nat} {v0 v1 v2 v3 u0 u1 u2 u3 u : Value} {x0 x1 x2 x3 y : List Int} (h : DimSt W R D v0 v1 v2 v3 u0 u1 u2 u3 x0 x1 x2 x3 w) (k : w.grownBy w' u2.ownBlock) (hu : IRow w' (D + 1) u y) (hp : u.ownBlock = u2.ownBlock ∨ ∃ g, u.ownBlock = some g ∧ w.heap.size ≤ g) (hR : R < D + 1 := by omega) :
    DimSt W R D v0 v1 v2 v3 u0 u1 u u3 x0 x1 y x3 w' :=
  ⟨⟨h.box.1.low h.rows.r2 (Nat.lt_succ_self _) k, h.box.2.low h.rows.r2 hR k⟩, h.rows.set2 k hu hp, h.below.grown k (by have := h.box.1.cells.2.2.2.2.2; omega) (fun j e => by have := (World.ownsRow.lt h.rows.r2 j e).1; omega)⟩
theorem DimSt.set3 {W w w' : World} {R D : Nat} {v0 v1 v2 v3 u0 u1 u2 u3 u : Value} {x0 x1 x2 x3 y : List Int} (h : DimSt W R D v0 v1 v2 v3 u0 u1 u2 u3 x0 x1 x2 x3 w) (k : w.grownBy w' u3.ownBlock) (hu : IRow w' (D + 1) u y) (hp : u.ownBlock = u3.ownBlock ∨ ∃ g, u.ownBlock = some g ∧ w.heap.size ≤ g) (hR : R < D + 1 := by omega) :
    DimSt W R D v0 v1 v2 v3 u0 u1 u2 u x0 x1 x2 y w' :=
  ⟨⟨h.box.1.low h.rows.r3 (Nat.lt_succ_self _) k, h.box.2.low h.rows.r3 hR k⟩, h.rows.set3 k hu hp, h.below.grown k (by have := h.box.1.cells.2.2.2.2.2; omega) (fun j e => by have := (World.ownsRow.lt h.rows.r3 j e).1; omega)⟩
def DimLoop (F : Fnt) (W : World) (R D : Nat) (s9 : Value) (wr : World) : Prop := ∃ (k : Nat) (v0 v1 v2 v3 : Value), k ≤ F.chars.length ∧ s9 = .int .i64 k ∧ DimAt F W R D k v0 v1 v2 v3 wr

end Go.Proofs.YtdhidpbenhmfgaaGreat
