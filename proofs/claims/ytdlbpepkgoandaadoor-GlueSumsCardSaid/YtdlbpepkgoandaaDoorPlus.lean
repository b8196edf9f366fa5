/- glue.Plus. -/
import Derived.Test.YtdlbpepkgoandaaDoorFlexPlus
import Derived.Deep.RegionHeld3
import Derived.Deep.DeepCutAuto
import Derived.Outline
namespace Go.Proofs.YtdlbpepkgoandaaDoor
open Go.RowKit

/-- a glue's box, as a later world has it -/
theorem box_glue {w w1 : World} {B : Nat} {T : TypeId} {z0 z1 z2 z3 z4 : Value} (h : w.heap[B]? = some (.cells #[z0, z1, z2, z3, z4] T (0, 0))) (hk : Kept w w1) :
    w1.cell? ⟨B, 0, none⟩ = some z0 ∧ w1.cell? ⟨B, 1, none⟩ = some z1 ∧ w1.cell? ⟨B, 2, none⟩ = some z2 ∧ w1.cell? ⟨B, 3, none⟩ = some z3 ∧ w1.cell? ⟨B, 4, none⟩ = some z4 ∧ (∀ o, w1.frozen? ⟨B, o, none⟩ = false) ∧ B < w1.heap.size :=
  box_five h (hk.block B (lt_of_some h))

def plusBad (a b : Gl) : Prop := addE a.nat b.nat ≠ 0 ∨ pE a.st a.so b.st b.so ≠ 0 ∨ pE a.sh a.ho b.sh b.ho ≠ 0
def plusV (a b : Gl) : Gl := ⟨addV a.nat b.nat, pN a.st a.so b.st b.so, pN a.sh a.ho b.sh b.ho, tidyO (pN a.st a.so b.st b.so) (pO a.st a.so b.st b.so), tidyO (pN a.sh a.ho b.sh b.ho) (pO a.sh a.ho b.sh b.ho)⟩

theorem mk1 (w : World) (o0 : Obj) : (w.alloc o0).heap[w.heap.size]? = some o0 := by
  have e : (w.alloc o0).heap = w.heap.push o0 := rfl
  rw [e]
  simp

/-- a block that has just been made, behind a call -/
theorem kept_made {w w1 : World} {x y : Int} {T : TypeId} (h : Kept (w.alloc (.cells #[.int .i64 x, .int .i64 y] T (0, 0))) w1) : w1.heap[w.heap.size]? = some (.cells #[.int .i64 x, .int .i64 y] T (0, 0)) :=
  (h.block _ (lt_of_some (mk1 _ _))).trans (mk1 _ _)

/-- a block of two numbers, known whole -/
def Blk (w : World) (B : Nat) (x y : Int) (T : TypeId) : Prop := w.heap[B]? = some (.cells #[.int .i64 x, .int .i64 y] T (0, 0))
theorem made_blk (w : World) (x y : Int) (T : TypeId) : Blk (w.alloc (.cells #[.int .i64 x, .int .i64 y] T (0, 0))) w.heap.size x y T := mk1 _ _
theorem made_drew (w : World) (x y : Int) (T : TypeId) : Blk ((w.alloc (.cells #[.int .i64 x, .int .i64 y] T (0, 0))).drew) w.heap.size x y T := mk1 _ _
theorem box_on {w w1 : World} {B : Nat} {x y : Int} {T : TypeId} (h : Blk w B x y T) (hk : Kept w w1) :
    w1.cell? ⟨B, 0, none⟩ = some (.int .i64 x) ∧ w1.cell? ⟨B, 1, none⟩ = some (.int .i64 y) ∧ w1.frozen? ⟨B, 0, none⟩ = false ∧ w1.frozen? ⟨B, 1, none⟩ = false ∧ Blk w1 B x y T := by
  obtain ⟨a, b, c, d, _⟩ := box_two h hk
  exact ⟨a, b, c, d, (hk.block B (lt_of_some h)).trans h⟩

theorem box_in {G : Prop} {w w1 : World} {B : Nat} {x y : Int} {T : TypeId} (h : Blk w B x y T) (hk : Kept w w1)
    (f : w1.cell? ⟨B, 0, none⟩ = some (.int .i64 x) → w1.cell? ⟨B, 1, none⟩ = some (.int .i64 y) → w1.frozen? ⟨B, 0, none⟩ = false → w1.frozen? ⟨B, 1, none⟩ = false → Blk w1 B x y T → G) : G := by
  obtain ⟨a, b, c, d, e⟩ := box_on h hk
  exact f a b c d e

/-- a flex put into a block of its own -/
def PutFlex (W : World) (V O E : Int) (s8 s9 : Value) (wx : World) : Prop := ∃ B : Nat, s8 = .pointer (some ⟨B, 0, none⟩) ∧ wx.cell? ⟨B, 0, none⟩ = some (.int .i64 V) ∧ wx.cell? ⟨B, 1, none⟩ = some (.int .i64 O) ∧ s9 = .int .i64 E ∧ Kept W wx

/-- what Plus answers of two right ones -/
def plusOut (V0 E0 V1 O1 E1 V2 O2 E2 : Int) : Value :=
  if E0 = 0 ∧ E1 = 0 ∧ E2 = 0 then .tuple #[.agg #[.int .i64 V0, .int .i64 V1, .int .i64 V2, .int .i64 (tidyO V1 O1), .int .i64 (tidyO V2 O2)], .int .i64 0]
  else .tuple #[.agg #[.int .i64 0, .int .i64 0, .int .i64 0, .int .i64 0, .int .i64 0], .int .i64 20]
theorem plusOut_good {V0 E0 V1 O1 E1 V2 O2 E2 : Int} (h0 : E0 = 0) (h1 : E1 = 0) (h2 : E2 = 0) : plusOut V0 E0 V1 O1 E1 V2 O2 E2 = .tuple #[.agg #[.int .i64 V0, .int .i64 V1, .int .i64 V2, .int .i64 (tidyO V1 O1), .int .i64 (tidyO V2 O2)], .int .i64 0] := if_pos ⟨h0, h1, h2⟩
theorem plusOut_bad {V0 E0 V1 O1 E1 V2 O2 E2 : Int} (h : ¬ (E0 = 0 ∧ E1 = 0 ∧ E2 = 0)) : plusOut V0 E0 V1 O1 E1 V2 O2 E2 = .tuple #[.agg #[.int .i64 0, .int .i64 0, .int .i64 0, .int .i64 0, .int .i64 0], .int .i64 20] := if_neg h
theorem kept_block {w w1 : World} {B : Nat} {x y : Int} (hk : Kept w w1) (h0 : w.cell? ⟨B, 0, none⟩ = some (.int .i64 x)) (h1 : w.cell? ⟨B, 1, none⟩ = some (.int .i64 y)) : w1.cell? ⟨B, 0, none⟩ = some (.int .i64 x) ∧ w1.cell? ⟨B, 1, none⟩ = some (.int .i64 y) :=
  ⟨(hk.cell (World.block_lt_of_cell? w _ h0)).trans h0, (hk.cell (World.block_lt_of_cell? w _ h1)).trans h1⟩

def glueO (g : Gl) (T : TypeId) : Obj := .cells #[.int .i64 g.nat, .int .i64 g.st, .int .i64 g.sh, .int .i64 g.so, .int .i64 g.ho] T (0, 0)
/-- a glue's box -/
structure GBox (w : World) (B : Nat) (g : Gl) : Prop where
  c0 : w.cell? ⟨B, 0, none⟩ = some (.int .i64 g.nat)
  c1 : w.cell? ⟨B, 1, none⟩ = some (.int .i64 g.st)
  c2 : w.cell? ⟨B, 2, none⟩ = some (.int .i64 g.sh)
  c3 : w.cell? ⟨B, 3, none⟩ = some (.int .i64 g.so)
  c4 : w.cell? ⟨B, 4, none⟩ = some (.int .i64 g.ho)
  fr : ∀ o, w.frozen? ⟨B, o, none⟩ = false
  lt : B < w.heap.size

set_option maxRecDepth 100000 in
set_option maxHeartbeats 4000000 in
theorem plus_good (an ast ash aso aho bn bst bsh bso bho : Int) (w : World) (hA : Gl.okB ⟨an, ast, ash, aso, aho⟩ = true) (hB : Gl.okB ⟨bn, bst, bsh, bso, bho⟩ = true) :
    Calls Tryd.prog 11 #[.agg #[.int .i64 an, .int .i64 ast, .int .i64 ash, .int .i64 aso, .int .i64 aho], .agg #[.int .i64 bn, .int .i64 bst, .int .i64 bsh, .int .i64 bso, .int .i64 bho]] w fun e w' => e = .returned (plusOut (addV an bn) (addE an bn) (pN ast aso bst bso) (pO ast aso bst bso) (pE ast aso bst bso) (pN ash aho bsh bho) (pO ash aho bsh bho) (pE ash aho bsh bho)) ∧ Kept w w' := by
  have c1 := fun w => Lib.hid (check_any an ast ash aso aho w)
  have c2 := fun w => Lib.hid (check_any bn bst bsh bso bho w)
  have e1 : Gl.err ⟨an, ast, ash, aso, aho⟩ = 0 := by simp [Gl.err, hA]
  have e2 : Gl.err ⟨bn, bst, bsh, bso, bho⟩ = 0 := by simp [Gl.err, hB]
  rw [e1] at c1
  rw [e2] at c2
  clear e1 e2 hA hB
  have hadd := fun w => Lib.hid (add_any an bn w)
  have hp1 := fun w => Lib.hid (fplus_any ast aso bst bso w)
  have hp2 := fun w => Lib.hid (fplus_any ash aho bsh bho w)
  generalize addV an bn = V0 at *
  generalize addE an bn = E0 at *
  generalize pN ast aso bst bso = V1 at *
  generalize pO ast aso bst bso = O1 at *
  generalize pE ast aso bst bso = E1 at *
  generalize pN ash aho bsh bho = V2 at *
  generalize pO ash aho bsh bho = O2 at *
  generalize pE ash aho bsh bho = E2 at *
  obtain ⟨W, hW⟩ : ∃ W, W = ((w.alloc (.cells #[.int .i64 an, .int .i64 ast, .int .i64 ash, .int .i64 aso, .int .i64 aho] 33)).alloc (.cells #[.int .i64 bn, .int .i64 bst, .int .i64 bsh, .int .i64 bso, .int .i64 bho] 33)).alloc (.cells #[.int .i64 0, .int .i64 0, .int .i64 0, .int .i64 0, .int .i64 0] 33) := ⟨_, rfl⟩
  obtain ⟨m0, m1, m2⟩ := made3 w _ _ _ W hW
  have hk0 : Kept w W := by rw [hW]; exact (((Kept.refl w).alloc (Nat.le_refl _) _).alloc (by simp) _).alloc (by simp; omega) _
  have hb0 := fun w1 (hk : Kept W w1) => Lib.hid (box_glue m0 hk)
  have hb1 := fun w1 (hk : Kept W w1) => Lib.hid (box_glue m1 hk)
  have hb2 := fun w1 (hk : Kept W w1) => Lib.hid (box_glue (B := w.heap.size + 1 + 1) m2 hk)
  have hW' := Lib.hid hW
  clear hW m0 m1 m2
  go_enter Tryd.func11, Tryd.ntmps11
  go_wp2_with (fail)
  rw [← hW'.out]
  refine (c1 _).out.mono ?_
  rintro e w1 ⟨rfl, k1⟩
  obtain ⟨q0, q1, q2, q3, q4, qf, ql⟩ := (hb1 _ k1).out
  go_wp2_with (fail)
  refine (c2 _).out.mono ?_
  rintro e w2 ⟨rfl, k2⟩
  have k12 : Kept W w2 := Kept.trans k1 k2
  clear q0 q1 q2 q3 q4 qf ql k1 k2
  obtain ⟨p0, p1, p2, p3, p4, pf, pl⟩ := (hb0 _ k12).out
  obtain ⟨q0, q1, q2, q3, q4, qf, ql⟩ := (hb1 _ k12).out
  go_wp2_with (fail)
  refine (hadd _).out.mono ?_
  rintro e w3 ⟨rfl, k3⟩
  have k13 : Kept W w3 := Kept.trans k12 k3
  clear p0 p1 p2 p3 p4 pf pl q0 q1 q2 q3 q4 qf ql k12 k3
  obtain ⟨p0, p1, p2, p3, p4, pf, pl⟩ := (hb0 _ k13).out
  obtain ⟨q0, q1, q2, q3, q4, qf, ql⟩ := (hb1 _ k13).out
  have hS : ∀ w', Kept W w' → Hid (w'.cell? ⟨w.heap.size, 0, none⟩ = some (.int .i64 an) ∧ w'.cell? ⟨w.heap.size, 1, none⟩ = some (.int .i64 ast) ∧ w'.cell? ⟨w.heap.size, 2, none⟩ = some (.int .i64 ash) ∧ w'.cell? ⟨w.heap.size, 3, none⟩ = some (.int .i64 aso) ∧ w'.cell? ⟨w.heap.size, 4, none⟩ = some (.int .i64 aho) ∧ w'.cell? ⟨w.heap.size + 1, 0, none⟩ = some (.int .i64 bn) ∧ w'.cell? ⟨w.heap.size + 1, 1, none⟩ = some (.int .i64 bst) ∧ w'.cell? ⟨w.heap.size + 1, 2, none⟩ = some (.int .i64 bsh) ∧ w'.cell? ⟨w.heap.size + 1, 3, none⟩ = some (.int .i64 bso) ∧ w'.cell? ⟨w.heap.size + 1, 4, none⟩ = some (.int .i64 bho) ∧ Kept W w') := fun w' k => by
    obtain ⟨a0, a1, a2, a3, a4, _, _⟩ := (hb0 _ k).out
    obtain ⟨d0, d1, d2, d3, d4, _, _⟩ := (hb1 _ k).out
    exact Lib.hid ⟨a0, a1, a2, a3, a4, d0, d1, d2, d3, d4, k⟩
  clear p0 p1 p2 p3 p4 pf pl q0 q1 q2 q3 q4 qf ql
  go_upto_region 4 with (fail)
  go_cut [8, 9] (fun s8 s9 wx => PutFlex W V1 O1 E1 s8 s9 wx)
  case first =>
    go_region_held3 (fun w' => w'.cell? ⟨w.heap.size, 0, none⟩ = some (.int .i64 an) ∧ w'.cell? ⟨w.heap.size, 1, none⟩ = some (.int .i64 ast) ∧ w'.cell? ⟨w.heap.size, 2, none⟩ = some (.int .i64 ash) ∧ w'.cell? ⟨w.heap.size, 3, none⟩ = some (.int .i64 aso) ∧ w'.cell? ⟨w.heap.size, 4, none⟩ = some (.int .i64 aho) ∧ w'.cell? ⟨w.heap.size + 1, 0, none⟩ = some (.int .i64 bn) ∧ w'.cell? ⟨w.heap.size + 1, 1, none⟩ = some (.int .i64 bst) ∧ w'.cell? ⟨w.heap.size + 1, 2, none⟩ = some (.int .i64 bsh) ∧ w'.cell? ⟨w.heap.size + 1, 3, none⟩ = some (.int .i64 bso) ∧ w'.cell? ⟨w.heap.size + 1, 4, none⟩ = some (.int .i64 bho) ∧ Kept W w') (first | exact (hS _ (by first | assumption | exact Below.drew (by assumption))).out | (refine (hS _ (?_)).out; first | assumption | exact Below.alloc (by assumption) (Below.size (by assumption)) _ | exact Below.drew (Below.alloc (by assumption) (Below.size (by assumption)) _) | exact Below.setCell (Below.setCell (by assumption) (Below.size (by assumption)) _) (Below.size (by assumption)) _)) (first | (go_at_call 32; refine (stretch_any _ _ _ _ _ _).mono ?_; rintro e w4 ⟨rfl, k1⟩; have kb : Kept W w4 := Kept.trans (by first | assumption | exact Below.drew (by assumption) | exact Below.alloc (by assumption) (Below.size (by assumption)) _ | exact Below.drew (Below.alloc (by assumption) (Below.size (by assumption)) _)) k1; (first | (refine box_in (by assumption) k1 ?_; intro x0 x1 x2 x3 xb) | ((with_reducible refine box_in (made_blk _ _ _ _) k1 ?_); intro x0 x1 x2 x3 xb) | ((with_reducible refine box_in (made_drew _ _ _ _) k1 ?_); intro x0 x1 x2 x3 xb) | skip); clear k1) | (go_at_call 33; refine (hp1 _).out.mono ?_; rintro e w4 ⟨rfl, k1⟩; have kb : Kept W w4 := Kept.trans (by first | assumption | exact Below.drew (by assumption) | exact Below.alloc (by assumption) (Below.size (by assumption)) _ | exact Below.drew (Below.alloc (by assumption) (Below.size (by assumption)) _)) k1; (first | (refine box_in (by assumption) k1 ?_; intro x0 x1 x2 x3 xb) | ((with_reducible refine box_in (made_blk _ _ _ _) k1 ?_); intro x0 x1 x2 x3 xb) | ((with_reducible refine box_in (made_drew _ _ _ _) k1 ?_); intro x0 x1 x2 x3 xb) | skip); clear k1))
    all_goals go_wp2_with (fail)
    all_goals go_meet
    all_goals refine ⟨_, rfl, ?_, ?_, rfl, ?_⟩
    all_goals first | (go_simp; done) | skip
    all_goals first | assumption | exact Below.alloc (by assumption) (Below.size (by assumption)) _ | exact Below.setCell (Below.setCell (by assumption) (Below.size (by assumption)) _) (Below.size (by assumption)) _
  case rest =>
  rename World => wx
  obtain ⟨B1, rfl, e0, e1, rfl, kx⟩ := hcut
  have hX : ∀ w', Kept wx w' → Hid (w'.cell? ⟨w.heap.size, 0, none⟩ = some (.int .i64 an) ∧ w'.cell? ⟨w.heap.size, 1, none⟩ = some (.int .i64 ast) ∧ w'.cell? ⟨w.heap.size, 2, none⟩ = some (.int .i64 ash) ∧ w'.cell? ⟨w.heap.size, 3, none⟩ = some (.int .i64 aso) ∧ w'.cell? ⟨w.heap.size, 4, none⟩ = some (.int .i64 aho) ∧ w'.cell? ⟨w.heap.size + 1, 0, none⟩ = some (.int .i64 bn) ∧ w'.cell? ⟨w.heap.size + 1, 1, none⟩ = some (.int .i64 bst) ∧ w'.cell? ⟨w.heap.size + 1, 2, none⟩ = some (.int .i64 bsh) ∧ w'.cell? ⟨w.heap.size + 1, 3, none⟩ = some (.int .i64 bso) ∧ w'.cell? ⟨w.heap.size + 1, 4, none⟩ = some (.int .i64 bho) ∧ Kept wx w') := fun w' k => by
    obtain ⟨a0, a1, a2, a3, a4, d0, d1, d2, d3, d4, _⟩ := (hS _ (Kept.trans kx k)).out
    exact Lib.hid ⟨a0, a1, a2, a3, a4, d0, d1, d2, d3, d4, k⟩
  have hF := fun w' (k : Kept wx w') => Lib.hid (kept_block k e0 e1)
  have kxx : Kept wx wx := Kept.refl _
  have hkx := Lib.hid kx
  clear e0 e1 kx k13
  go_upto_region 5 with (fail)
  go_cut [10, 11] (fun s8 s9 wy => PutFlex wx V2 O2 E2 s8 s9 wy)
  case first =>
    go_region_held3 (fun w' => w'.cell? ⟨w.heap.size, 0, none⟩ = some (.int .i64 an) ∧ w'.cell? ⟨w.heap.size, 1, none⟩ = some (.int .i64 ast) ∧ w'.cell? ⟨w.heap.size, 2, none⟩ = some (.int .i64 ash) ∧ w'.cell? ⟨w.heap.size, 3, none⟩ = some (.int .i64 aso) ∧ w'.cell? ⟨w.heap.size, 4, none⟩ = some (.int .i64 aho) ∧ w'.cell? ⟨w.heap.size + 1, 0, none⟩ = some (.int .i64 bn) ∧ w'.cell? ⟨w.heap.size + 1, 1, none⟩ = some (.int .i64 bst) ∧ w'.cell? ⟨w.heap.size + 1, 2, none⟩ = some (.int .i64 bsh) ∧ w'.cell? ⟨w.heap.size + 1, 3, none⟩ = some (.int .i64 bso) ∧ w'.cell? ⟨w.heap.size + 1, 4, none⟩ = some (.int .i64 bho) ∧ Kept wx w') (first | exact (hX _ (by first | assumption | exact Below.drew (by assumption))).out | (refine (hX _ (?_)).out; first | assumption | exact Below.alloc (by assumption) (Below.size (by assumption)) _ | exact Below.drew (Below.alloc (by assumption) (Below.size (by assumption)) _) | exact Below.setCell (Below.setCell (by assumption) (Below.size (by assumption)) _) (Below.size (by assumption)) _)) (first | (go_at_call 34; refine (shrink_any _ _ _ _ _ _).mono ?_; rintro e w4 ⟨rfl, k1⟩; have kb : Kept wx w4 := Kept.trans (by first | assumption | exact Below.drew (by assumption) | exact Below.alloc (by assumption) (Below.size (by assumption)) _ | exact Below.drew (Below.alloc (by assumption) (Below.size (by assumption)) _)) k1; (first | (refine box_in (by assumption) k1 ?_; intro x0 x1 x2 x3 xb) | ((with_reducible refine box_in (made_blk _ _ _ _) k1 ?_); intro x0 x1 x2 x3 xb) | ((with_reducible refine box_in (made_drew _ _ _ _) k1 ?_); intro x0 x1 x2 x3 xb) | skip); clear k1) | (go_at_call 33; refine (hp2 _).out.mono ?_; rintro e w4 ⟨rfl, k1⟩; have kb : Kept wx w4 := Kept.trans (by first | assumption | exact Below.drew (by assumption) | exact Below.alloc (by assumption) (Below.size (by assumption)) _ | exact Below.drew (Below.alloc (by assumption) (Below.size (by assumption)) _)) k1; (first | (refine box_in (by assumption) k1 ?_; intro x0 x1 x2 x3 xb) | ((with_reducible refine box_in (made_blk _ _ _ _) k1 ?_); intro x0 x1 x2 x3 xb) | ((with_reducible refine box_in (made_drew _ _ _ _) k1 ?_); intro x0 x1 x2 x3 xb) | skip); clear k1))
    all_goals go_wp2_with (fail)
    all_goals go_meet
    all_goals refine ⟨_, rfl, ?_, ?_, rfl, ?_⟩
    all_goals first | (go_simp; done) | skip
    all_goals first | assumption | exact Below.alloc (by assumption) (Below.size (by assumption)) _ | exact Below.setCell (Below.setCell (by assumption) (Below.size (by assumption)) _) (Below.size (by assumption)) _
  case rest =>
  rename World => wy
  obtain ⟨B2, rfl, g0, g1, rfl, ky⟩ := hcut
  obtain ⟨e0, e1⟩ := (hF _ ky).out
  have kWy : Kept W wy := Kept.trans hkx.out ky
  have kwy : Kept w wy := Kept.trans hk0 kWy
  obtain ⟨t0, t1, t2, t3, t4, tf, tl⟩ := (hb2 _ kWy).out
  have hgl : w.heap.size ≤ wy.heap.size := by omega
  clear hX hS hF kxx hkx hb0 hb1 c1 c2 hadd hp1 hp2 ky
  have hgl2 : w.heap.size + 2 < wy.heap.size := tl
  by_cases hE0 : E0 = 0
  · have z0 : (E0 != 0) = false := by simpa using hE0
    by_cases hE1 : E1 = 0
    · have z1 : (E1 != 0) = false := by simpa using hE1
      by_cases hE2 : E2 = 0
      · have HG := Lib.hid (plusOut_good (V0 := V0) (V1 := V1) (O1 := O1) (V2 := V2) (O2 := O2) hE0 hE1 hE2)
        have z2 : (E2 != 0) = false := by simpa using hE2
        clear hE0 hE1 hE2 t0 t1 t2 t3 t4 tf tl
        go_wp2_with (fail)
        refine (made_any V0 V1 O1 V2 O2 _).mono ?_
        rintro e w5 ⟨rfl, k5⟩
        obtain ⟨t0, t1, t2, t3, t4, tf, tl⟩ := (hb2 _ (Kept.trans kWy k5)).out
        have kw5 := Kept.trans kwy k5
        clear k5 e0 e1 g0 g1
        have hgl5 : w.heap.size ≤ w5.heap.size := by omega
        go_wp2_with (fail)
        exact bodyPost_ret (v := .tuple #[.agg #[.int .i64 V0, .int .i64 V1, .int .i64 V2, .int .i64 (tidyO V1 O1), .int .i64 (tidyO V2 O2)], .int .i64 0]) (by simp [results, Tryd.results11, go_sem, t0, t1, t2, t3, t4]) rfl ⟨congrArg Ending.returned HG.out.symm, (Below.setCell (Below.setCell (Below.setCell (Below.setCell (Below.setCell kw5 (by simp; try omega) _) (by simp; try omega) _) (by simp; try omega) _) (by simp; try omega) _) (by simp; try omega) _)⟩
      · have HB := Lib.hid (fun h : E0 = 0 ∧ E1 = 0 ∧ E2 = 0 => hE2 h.2.2)
        have z2 : (E2 != 0) = true := by simpa using hE2
        clear hE0 hE1 hE2
        go_wp2_with (fail)
        exact bodyPost_ret (v := .tuple #[.agg #[.int .i64 0, .int .i64 0, .int .i64 0, .int .i64 0, .int .i64 0], .int .i64 20]) (by simp [results, Tryd.results11, go_sem, t0, t1, t2, t3, t4]) rfl ⟨congrArg Ending.returned (plusOut_bad HB.out).symm, (Below.setCell (Below.setCell (Below.setCell (Below.setCell (Below.setCell kwy (by simp; try omega) _) (by simp; try omega) _) (by simp; try omega) _) (by simp; try omega) _) (by simp; try omega) _)⟩
    · have HB := Lib.hid (fun h : E0 = 0 ∧ E1 = 0 ∧ E2 = 0 => hE1 h.2.1)
      have z1 : (E1 != 0) = true := by simpa using hE1
      clear hE0 hE1
      go_wp2_with (fail)
      exact bodyPost_ret (v := .tuple #[.agg #[.int .i64 0, .int .i64 0, .int .i64 0, .int .i64 0, .int .i64 0], .int .i64 20]) (by simp [results, Tryd.results11, go_sem, t0, t1, t2, t3, t4]) rfl ⟨congrArg Ending.returned (plusOut_bad HB.out).symm, (Below.setCell (Below.setCell (Below.setCell (Below.setCell (Below.setCell kwy (by simp; try omega) _) (by simp; try omega) _) (by simp; try omega) _) (by simp; try omega) _) (by simp; try omega) _)⟩
  · have HB := Lib.hid (fun h : E0 = 0 ∧ E1 = 0 ∧ E2 = 0 => hE0 h.1)
    have z0 : (E0 != 0) = true := by simpa using hE0
    clear hE0
    go_wp2_with (fail)
    exact bodyPost_ret (v := .tuple #[.agg #[.int .i64 0, .int .i64 0, .int .i64 0, .int .i64 0, .int .i64 0], .int .i64 20]) (by simp [results, Tryd.results11, go_sem, t0, t1, t2, t3, t4]) rfl ⟨congrArg Ending.returned (plusOut_bad HB.out).symm, (Below.setCell (Below.setCell (Below.setCell (Below.setCell (Below.setCell kwy (by simp; try omega) _) (by simp; try omega) _) (by simp; try omega) _) (by simp; try omega) _) (by simp; try omega) _)⟩

/-- what Plus answers -/
def plusE (a b : Gl) : Int := if a.okB && b.okB then (if addE a.nat b.nat = 0 ∧ pE a.st a.so b.st b.so = 0 ∧ pE a.sh a.ho b.sh b.ho = 0 then 0 else 20) else 30
def plusG (a b : Gl) : Gl := if plusE a b = 0 then ⟨addV a.nat b.nat, pN a.st a.so b.st b.so, pN a.sh a.ho b.sh b.ho, tidyO (pN a.st a.so b.st b.so) (pO a.st a.so b.st b.so), tidyO (pN a.sh a.ho b.sh b.ho) (pO a.sh a.ho b.sh b.ho)⟩ else ⟨0, 0, 0, 0, 0⟩
/-- an answer: glue, or an error -/
abbrev ansG (g : Gl) (E : Int) : Value := .tuple #[.agg #[.int .i64 g.nat, .int .i64 g.st, .int .i64 g.sh, .int .i64 g.so, .int .i64 g.ho], .int .i64 E]

theorem plusOut_ans (a b : Gl) (h : (a.okB && b.okB) = true) : plusOut (addV a.nat b.nat) (addE a.nat b.nat) (pN a.st a.so b.st b.so) (pO a.st a.so b.st b.so) (pE a.st a.so b.st b.so) (pN a.sh a.ho b.sh b.ho) (pO a.sh a.ho b.sh b.ho) (pE a.sh a.ho b.sh b.ho) = ansG (plusG a b) (plusE a b) := by
  unfold plusG plusE plusOut ansG
  rw [if_pos h]
  by_cases hE : addE a.nat b.nat = 0 ∧ pE a.st a.so b.st b.so = 0 ∧ pE a.sh a.ho b.sh b.ho = 0
  · rw [if_pos hE, if_pos hE, if_pos rfl]
  · rw [if_neg hE, if_neg hE, if_neg (by decide)]

set_option maxHeartbeats 1000000 in
theorem plus_bad (an ast ash aso aho bn bst bsh bso bho : Int) (w : World) (h : (Gl.okB ⟨an, ast, ash, aso, aho⟩ && Gl.okB ⟨bn, bst, bsh, bso, bho⟩) = false) :
    Calls Tryd.prog 11 #[.agg #[.int .i64 an, .int .i64 ast, .int .i64 ash, .int .i64 aso, .int .i64 aho], .agg #[.int .i64 bn, .int .i64 bst, .int .i64 bsh, .int .i64 bso, .int .i64 bho]] w fun e w' => e = .returned (.tuple #[.agg #[.int .i64 0, .int .i64 0, .int .i64 0, .int .i64 0, .int .i64 0], .int .i64 30]) ∧ Kept w w' := by
  have c1 := fun w => Lib.hid (check_any an ast ash aso aho w)
  have c2 := fun w => Lib.hid (check_any bn bst bsh bso bho w)
  obtain ⟨W, hW⟩ : ∃ W, W = ((w.alloc (.cells #[.int .i64 an, .int .i64 ast, .int .i64 ash, .int .i64 aso, .int .i64 aho] 33)).alloc (.cells #[.int .i64 bn, .int .i64 bst, .int .i64 bsh, .int .i64 bso, .int .i64 bho] 33)).alloc (.cells #[.int .i64 0, .int .i64 0, .int .i64 0, .int .i64 0, .int .i64 0] 33) := ⟨_, rfl⟩
  obtain ⟨m0, m1, m2⟩ := made3 w _ _ _ W hW
  have hk0 : Kept w W := by rw [hW]; exact (((Kept.refl w).alloc (Nat.le_refl _) _).alloc (by simp) _).alloc (by simp; omega) _
  have hb1 := fun w1 (hk : Kept W w1) => Lib.hid (box_glue m1 hk)
  have hb2 := fun w1 (hk : Kept W w1) => Lib.hid (box_glue (B := w.heap.size + 1 + 1) m2 hk)
  have hW' := Lib.hid hW
  clear hW m0 m1 m2
  cases hA : Gl.okB ⟨an, ast, ash, aso, aho⟩
  · have e1 : Gl.err ⟨an, ast, ash, aso, aho⟩ = 30 := by simp [Gl.err, hA]
    rw [e1] at c1
    clear e1 hA h
    go_enter Tryd.func11, Tryd.ntmps11
    go_wp2_with (fail)
    rw [← hW'.out]
    refine (c1 _).out.mono ?_
    rintro e w1 ⟨rfl, k1⟩
    obtain ⟨t0, t1, t2, t3, t4, tf, tl⟩ := (hb2 _ k1).out
    have kw : Kept w w1 := Kept.trans hk0 k1
    clear k1
    go_wp2_with (fail)
    exact bodyPost_ret (v := .tuple #[.agg #[.int .i64 0, .int .i64 0, .int .i64 0, .int .i64 0, .int .i64 0], .int .i64 30]) (by simp [results, Tryd.results11, go_sem, t0, t1, t2, t3, t4]) rfl ⟨rfl, (Below.setCell (Below.setCell (Below.setCell (Below.setCell (Below.setCell kw (by simp; try omega) _) (by simp; try omega) _) (by simp; try omega) _) (by simp; try omega) _) (by simp; try omega) _)⟩
  · have hB : Gl.okB ⟨bn, bst, bsh, bso, bho⟩ = false := by rw [hA] at h; simpa using h
    have e1 : Gl.err ⟨an, ast, ash, aso, aho⟩ = 0 := by simp [Gl.err, hA]
    have e2 : Gl.err ⟨bn, bst, bsh, bso, bho⟩ = 30 := by simp [Gl.err, hB]
    rw [e1] at c1
    rw [e2] at c2
    clear e1 e2 hA hB h
    go_enter Tryd.func11, Tryd.ntmps11
    go_wp2_with (fail)
    rw [← hW'.out]
    refine (c1 _).out.mono ?_
    rintro e w1 ⟨rfl, k1⟩
    obtain ⟨q0, q1, q2, q3, q4, qf, ql⟩ := (hb1 _ k1).out
    go_wp2_with (fail)
    refine (c2 _).out.mono ?_
    rintro e w2 ⟨rfl, k2⟩
    have k12 : Kept W w2 := Kept.trans k1 k2
    clear q0 q1 q2 q3 q4 qf ql k1 k2
    obtain ⟨t0, t1, t2, t3, t4, tf, tl⟩ := (hb2 _ k12).out
    have kw : Kept w w2 := Kept.trans hk0 k12
    clear k12
    go_wp2_with (fail)
    exact bodyPost_ret (v := .tuple #[.agg #[.int .i64 0, .int .i64 0, .int .i64 0, .int .i64 0, .int .i64 0], .int .i64 30]) (by simp [results, Tryd.results11, go_sem, t0, t1, t2, t3, t4]) rfl ⟨rfl, (Below.setCell (Below.setCell (Below.setCell (Below.setCell (Below.setCell kw (by simp; try omega) _) (by simp; try omega) _) (by simp; try omega) _) (by simp; try omega) _) (by simp; try omega) _)⟩

theorem plus_any (a b : Gl) (w : World) :
    Calls Tryd.prog 11 #[.agg #[.int .i64 a.nat, .int .i64 a.st, .int .i64 a.sh, .int .i64 a.so, .int .i64 a.ho], .agg #[.int .i64 b.nat, .int .i64 b.st, .int .i64 b.sh, .int .i64 b.so, .int .i64 b.ho]] w fun e w' => e = .returned (ansG (plusG a b) (plusE a b)) ∧ Kept w w' := by
  cases h : (a.okB && b.okB)
  · have e1 : plusE a b = 30 := by simp [plusE, h]
    have e2 : plusG a b = ⟨0, 0, 0, 0, 0⟩ := by simp [plusG, e1]
    rw [e1, e2]
    exact plus_bad a.nat a.st a.sh a.so a.ho b.nat b.st b.sh b.so b.ho w h
  · rw [← plusOut_ans a b h]
    obtain ⟨hA, hB⟩ := Bool.and_eq_true_iff.1 h
    exact plus_good a.nat a.st a.sh a.so a.ho b.nat b.st b.sh b.so b.ho w hA hB
end Go.Proofs.YtdlbpepkgoandaaDoor
