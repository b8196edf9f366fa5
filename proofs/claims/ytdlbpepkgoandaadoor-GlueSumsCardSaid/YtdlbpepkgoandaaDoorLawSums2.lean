/- The walk of galleylaw02.GlueSums. -/
import Derived.Test.YtdlbpepkgoandaaDoorShow
import Derived.Test.YtdlbpepkgoandaaDoorLive
import Derived.Laws.StructEq
namespace Go.Proofs.YtdlbpepkgoandaaDoor
open Go.RowKit

theorem gmade (w : World) (g : Gl) : GBox (w.alloc (.cells #[.int .i64 g.nat, .int .i64 g.st, .int .i64 g.sh, .int .i64 g.so, .int .i64 g.ho] 33)) w.heap.size g := by
  have m := mk1 w (.cells #[.int .i64 g.nat, .int .i64 g.st, .int .i64 g.sh, .int .i64 g.so, .int .i64 g.ho] 33)
  obtain ⟨a, b, c, d, e, f, l⟩ := box_five m rfl
  exact ⟨a, b, c, d, e, f, l⟩
theorem GBox.kept {w w' : World} {B : Nat} {g : Gl} (h : GBox w B g) (hk : Kept w w') : GBox w' B g :=
  ⟨(hk.cell (p := ⟨B, 0, none⟩) h.lt).trans h.c0, (hk.cell (p := ⟨B, 1, none⟩) h.lt).trans h.c1, (hk.cell (p := ⟨B, 2, none⟩) h.lt).trans h.c2, (hk.cell (p := ⟨B, 3, none⟩) h.lt).trans h.c3, (hk.cell (p := ⟨B, 4, none⟩) h.lt).trans h.c4,
    fun o => (hk.frozen (p := ⟨B, o, none⟩) h.lt).trans (h.fr o), Nat.lt_of_lt_of_le h.lt hk.size⟩
abbrev gobj (g : Gl) : Obj := .cells #[.int .i64 g.nat, .int .i64 g.st, .int .i64 g.sh, .int .i64 g.so, .int .i64 g.ho] 33
theorem kalloc (w : World) (o : Obj) : Kept w (w.alloc o) := (Kept.refl w).alloc (Nat.le_refl _) _
theorem gnew {w w1 : World} {g : Gl} (hk : Kept (w.alloc (gobj g)) w1) : GBox w1 w.heap.size g := (gmade w g).kept hk
theorem gold {w w1 : World} {o : Obj} {B : Nat} {g : Gl} (h : GBox w B g) (hk : Kept (w.alloc o) w1) : GBox w1 B g := h.kept ((kalloc w o).trans hk)
theorem knew {w0 w w1 : World} {o : Obj} (h : Kept w0 w) (hk : Kept (w.alloc o) w1) : Kept w0 w1 := h.trans ((kalloc w o).trans hk)
theorem zbad {n : Int} (h : n ≠ 0) : (n != 0) = true := by simpa using h
theorem zgood {n : Int} (h : n = 0) : (n != 0) = false := by simpa using h
theorem zeq {n : Int} (h : n = 0) : (n == 0) = true := by simpa using h
theorem zne {n : Int} (h : n ≠ 0) : (n == 0) = false := by simpa using h


set_option maxRecDepth 100000 in
set_option maxHeartbeats 16000000 in
theorem sums_walk (a b : Gl) (n : Int) (w : World) (ht : Tabs w) (hu : GUnitsIs w) :
    Calls Tryd.prog 4 #[.agg #[.int .i64 a.nat, .int .i64 a.st, .int .i64 a.sh, .int .i64 a.so, .int .i64 a.ho], .agg #[.int .i64 b.nat, .int .i64 b.st, .int .i64 b.sh, .int .i64 b.so, .int .i64 b.ho], .int .i64 n] w fun e w' => e = .returned (.bool true) ∧ Kept w w' := by
  have h1 := fun w => Lib.hid (plus_any a b w)
  have h2 := fun w => Lib.hid (rplus_any a b w)
  have h3 := fun w => Lib.hid (tg_any a n w)
  have h4 := fun w => Lib.hid (rtg_any a n w)
  have h5 := fun w => Lib.hid (og_any a n w)
  have h6 := fun w => Lib.hid (rog_any a n w)
  generalize plusG a b = P at *
  generalize plusE a b = E at *
  generalize timesG a n = T at *
  generalize timesGE a n = K at *
  generalize overG a n = O at *
  generalize overGE a n = V at *
  obtain ⟨W, hW⟩ : ∃ W, W = (w.alloc (gobj a)).alloc (gobj b) := ⟨_, rfl⟩
  have ga : GBox W w.heap.size a := by rw [hW]; exact (gmade w a).kept (kalloc _ _)
  have gb : GBox W (w.heap.size + 1) b := by rw [hW]; have := gmade (w.alloc (gobj a)) b; simpa using this
  have k0 : Kept w W := by rw [hW]; exact (kalloc _ _).trans (kalloc _ _)
  have HW := Lib.hid hW
  clear hW
  go_enter Tryd.func4, Tryd.ntmps4
  go_wp2_with (fail)
  rw [← HW.out]
  refine (h1 _).out.mono ?_
  rintro e w1 ⟨rfl, k1⟩
  have kw := k0.trans k1
  replace ga := ga.kept k1
  replace gb := gb.kept k1
  clear k1 k0 HW
  obtain ⟨p0, p1, p2, p3, p4, pf, pl⟩ := (id ga : GBox _ _ _)
  obtain ⟨q0, q1, q2, q3, q4, qf, ql⟩ := (id gb : GBox _ _ _)
  go_wp2_with (fail)
  refine (h2 _).out.mono ?_
  rintro e w2 ⟨rfl, k2⟩
  replace kw := knew kw k2
  replace ga := gold ga k2
  have g1 := gnew k2
  clear k2
  clear p0 p1 p2 p3 p4 pf pl q0 q1 q2 q3 q4 qf ql
  obtain ⟨p0, p1, p2, p3, p4, pf, pl⟩ := (id ga : GBox _ _ _)
  go_wp2_with (fail)
  refine (h3 _).out.mono ?_
  rintro e w3 ⟨rfl, k3⟩
  replace kw := knew kw k3
  replace ga := gold ga k3
  replace g1 := gold g1 k3
  have g2 := gnew k3
  clear k3
  clear p0 p1 p2 p3 p4 pf pl
  obtain ⟨p0, p1, p2, p3, p4, pf, pl⟩ := (id ga : GBox _ _ _)
  go_wp2_with (fail)
  refine (h4 _).out.mono ?_
  rintro e w4 ⟨rfl, k4⟩
  replace kw := knew kw k4
  replace ga := gold ga k4
  replace g1 := gold g1 k4
  replace g2 := gold g2 k4
  have g3 := gnew k4
  clear k4
  clear p0 p1 p2 p3 p4 pf pl
  obtain ⟨p0, p1, p2, p3, p4, pf, pl⟩ := (id ga : GBox _ _ _)
  go_wp2_with (fail)
  refine (h5 _).out.mono ?_
  rintro e w5 ⟨rfl, k5⟩
  replace kw := knew kw k5
  replace ga := gold ga k5
  replace g1 := gold g1 k5
  replace g2 := gold g2 k5
  replace g3 := gold g3 k5
  have g4 := gnew k5
  clear k5
  clear p0 p1 p2 p3 p4 pf pl
  obtain ⟨p0, p1, p2, p3, p4, pf, pl⟩ := (id ga : GBox _ _ _)
  go_wp2_with (fail)
  refine (h6 _).out.mono ?_
  rintro e w6 ⟨rfl, k6⟩
  replace kw := knew kw k6
  replace ga := gold ga k6
  replace g1 := gold g1 k6
  replace g2 := gold g2 k6
  replace g3 := gold g3 k6
  replace g4 := gold g4 k6
  have g5 := gnew k6
  clear k6
  clear p0 p1 p2 p3 p4 pf pl
  obtain ⟨W, hW⟩ : ∃ W, W = w6.alloc (gobj O) := ⟨_, rfl⟩
  have g6 : GBox W w6.heap.size O := by rw [hW]; exact gmade _ _
  have hk := kalloc w6 (gobj O)
  rw [← hW] at hk
  replace kw := kw.trans hk
  replace ga := ga.kept hk
  replace g1 := g1.kept hk
  replace g2 := g2.kept hk
  replace g3 := g3.kept hk
  replace g4 := g4.kept hk
  replace g5 := g5.kept hk
  have hS : ∀ w', Kept W w' → Hid (w'.cell? ⟨w.heap.size, 0, none⟩ = some (.int .i64 a.nat) ∧ w'.cell? ⟨w.heap.size, 1, none⟩ = some (.int .i64 a.st) ∧ w'.cell? ⟨w.heap.size, 2, none⟩ = some (.int .i64 a.sh) ∧ w'.cell? ⟨w.heap.size, 3, none⟩ = some (.int .i64 a.so) ∧ w'.cell? ⟨w.heap.size, 4, none⟩ = some (.int .i64 a.ho) ∧ w'.cell? ⟨w1.heap.size, 0, none⟩ = some (.int .i64 P.nat) ∧ w'.cell? ⟨w1.heap.size, 1, none⟩ = some (.int .i64 P.st) ∧ w'.cell? ⟨w1.heap.size, 2, none⟩ = some (.int .i64 P.sh) ∧ w'.cell? ⟨w1.heap.size, 3, none⟩ = some (.int .i64 P.so) ∧ w'.cell? ⟨w1.heap.size, 4, none⟩ = some (.int .i64 P.ho) ∧ w'.cell? ⟨w2.heap.size, 0, none⟩ = some (.int .i64 P.nat) ∧ w'.cell? ⟨w2.heap.size, 1, none⟩ = some (.int .i64 P.st) ∧ w'.cell? ⟨w2.heap.size, 2, none⟩ = some (.int .i64 P.sh) ∧ w'.cell? ⟨w2.heap.size, 3, none⟩ = some (.int .i64 P.so) ∧ w'.cell? ⟨w2.heap.size, 4, none⟩ = some (.int .i64 P.ho) ∧ w'.cell? ⟨w3.heap.size, 0, none⟩ = some (.int .i64 T.nat) ∧ w'.cell? ⟨w3.heap.size, 1, none⟩ = some (.int .i64 T.st) ∧ w'.cell? ⟨w3.heap.size, 2, none⟩ = some (.int .i64 T.sh) ∧ w'.cell? ⟨w3.heap.size, 3, none⟩ = some (.int .i64 T.so) ∧ w'.cell? ⟨w3.heap.size, 4, none⟩ = some (.int .i64 T.ho) ∧ w'.cell? ⟨w4.heap.size, 0, none⟩ = some (.int .i64 T.nat) ∧ w'.cell? ⟨w4.heap.size, 1, none⟩ = some (.int .i64 T.st) ∧ w'.cell? ⟨w4.heap.size, 2, none⟩ = some (.int .i64 T.sh) ∧ w'.cell? ⟨w4.heap.size, 3, none⟩ = some (.int .i64 T.so) ∧ w'.cell? ⟨w4.heap.size, 4, none⟩ = some (.int .i64 T.ho) ∧ w'.cell? ⟨w5.heap.size, 0, none⟩ = some (.int .i64 O.nat) ∧ w'.cell? ⟨w5.heap.size, 1, none⟩ = some (.int .i64 O.st) ∧ w'.cell? ⟨w5.heap.size, 2, none⟩ = some (.int .i64 O.sh) ∧ w'.cell? ⟨w5.heap.size, 3, none⟩ = some (.int .i64 O.so) ∧ w'.cell? ⟨w5.heap.size, 4, none⟩ = some (.int .i64 O.ho) ∧ w'.cell? ⟨w6.heap.size, 0, none⟩ = some (.int .i64 O.nat) ∧ w'.cell? ⟨w6.heap.size, 1, none⟩ = some (.int .i64 O.st) ∧ w'.cell? ⟨w6.heap.size, 2, none⟩ = some (.int .i64 O.sh) ∧ w'.cell? ⟨w6.heap.size, 3, none⟩ = some (.int .i64 O.so) ∧ w'.cell? ⟨w6.heap.size, 4, none⟩ = some (.int .i64 O.ho) ∧ Kept W w') := fun w' k => by
    have y0 := ga.kept k
    have y1 := g1.kept k
    have y2 := g2.kept k
    have y3 := g3.kept k
    have y4 := g4.kept k
    have y5 := g5.kept k
    have y6 := g6.kept k
    exact Lib.hid ⟨y0.c0, y0.c1, y0.c2, y0.c3, y0.c4, y1.c0, y1.c1, y1.c2, y1.c3, y1.c4, y2.c0, y2.c1, y2.c2, y2.c3, y2.c4, y3.c0, y3.c1, y3.c2, y3.c3, y3.c4, y4.c0, y4.c1, y4.c2, y4.c3, y4.c4, y5.c0, y5.c1, y5.c2, y5.c3, y5.c4, y6.c0, y6.c1, y6.c2, y6.c3, y6.c4, k⟩
  have HW := Lib.hid hW
  have hT := fun w' (k : Kept W w') => Lib.hid (gshow_any a w' (ht.kept (kw.trans k)) (hu.kept (kw.trans k)))
  have hR := fun w' (_ : Kept W w') => Lib.hid (rshow_any a w')
  have hC := fun w' (_ : Kept W w') => Lib.hid (check_any a.nat a.st a.sh a.so a.ho w')
  have hD := fun w' (_ : Kept W w') => Lib.hid (rcheck_any a.nat a.st a.sh a.so a.ho w')
  have hL := fun w' (_ : Kept W w') => Lib.hid (live_any w')
  have kb : Kept W W := Kept.refl W
  clear hW hk ga gb g1 g2 g3 g4 g5 g6 h1 h2 h3 h4 h5 h6
  generalize showS a = Z at *
  generalize Gl.err ⟨a.nat, a.st, a.sh, a.so, a.ho⟩ = C at *
  go_wp2_with (fail)
  rw [← HW.out]
  go_region_held3 (fun w' => w'.cell? ⟨w.heap.size, 0, none⟩ = some (.int .i64 a.nat) ∧ w'.cell? ⟨w.heap.size, 1, none⟩ = some (.int .i64 a.st) ∧ w'.cell? ⟨w.heap.size, 2, none⟩ = some (.int .i64 a.sh) ∧ w'.cell? ⟨w.heap.size, 3, none⟩ = some (.int .i64 a.so) ∧ w'.cell? ⟨w.heap.size, 4, none⟩ = some (.int .i64 a.ho) ∧ w'.cell? ⟨w1.heap.size, 0, none⟩ = some (.int .i64 P.nat) ∧ w'.cell? ⟨w1.heap.size, 1, none⟩ = some (.int .i64 P.st) ∧ w'.cell? ⟨w1.heap.size, 2, none⟩ = some (.int .i64 P.sh) ∧ w'.cell? ⟨w1.heap.size, 3, none⟩ = some (.int .i64 P.so) ∧ w'.cell? ⟨w1.heap.size, 4, none⟩ = some (.int .i64 P.ho) ∧ w'.cell? ⟨w2.heap.size, 0, none⟩ = some (.int .i64 P.nat) ∧ w'.cell? ⟨w2.heap.size, 1, none⟩ = some (.int .i64 P.st) ∧ w'.cell? ⟨w2.heap.size, 2, none⟩ = some (.int .i64 P.sh) ∧ w'.cell? ⟨w2.heap.size, 3, none⟩ = some (.int .i64 P.so) ∧ w'.cell? ⟨w2.heap.size, 4, none⟩ = some (.int .i64 P.ho) ∧ w'.cell? ⟨w3.heap.size, 0, none⟩ = some (.int .i64 T.nat) ∧ w'.cell? ⟨w3.heap.size, 1, none⟩ = some (.int .i64 T.st) ∧ w'.cell? ⟨w3.heap.size, 2, none⟩ = some (.int .i64 T.sh) ∧ w'.cell? ⟨w3.heap.size, 3, none⟩ = some (.int .i64 T.so) ∧ w'.cell? ⟨w3.heap.size, 4, none⟩ = some (.int .i64 T.ho) ∧ w'.cell? ⟨w4.heap.size, 0, none⟩ = some (.int .i64 T.nat) ∧ w'.cell? ⟨w4.heap.size, 1, none⟩ = some (.int .i64 T.st) ∧ w'.cell? ⟨w4.heap.size, 2, none⟩ = some (.int .i64 T.sh) ∧ w'.cell? ⟨w4.heap.size, 3, none⟩ = some (.int .i64 T.so) ∧ w'.cell? ⟨w4.heap.size, 4, none⟩ = some (.int .i64 T.ho) ∧ w'.cell? ⟨w5.heap.size, 0, none⟩ = some (.int .i64 O.nat) ∧ w'.cell? ⟨w5.heap.size, 1, none⟩ = some (.int .i64 O.st) ∧ w'.cell? ⟨w5.heap.size, 2, none⟩ = some (.int .i64 O.sh) ∧ w'.cell? ⟨w5.heap.size, 3, none⟩ = some (.int .i64 O.so) ∧ w'.cell? ⟨w5.heap.size, 4, none⟩ = some (.int .i64 O.ho) ∧ w'.cell? ⟨w6.heap.size, 0, none⟩ = some (.int .i64 O.nat) ∧ w'.cell? ⟨w6.heap.size, 1, none⟩ = some (.int .i64 O.st) ∧ w'.cell? ⟨w6.heap.size, 2, none⟩ = some (.int .i64 O.sh) ∧ w'.cell? ⟨w6.heap.size, 3, none⟩ = some (.int .i64 O.so) ∧ w'.cell? ⟨w6.heap.size, 4, none⟩ = some (.int .i64 O.ho) ∧ Kept W w') (first | exact (hS _ (by first | assumption | exact Below.drew (by assumption))).out) (first | (go_at_call 17; refine (num_any _ _).mono ?_; rintro e w9 ⟨rfl, rfl⟩) | (go_at_call 18; ((with_reducible refine (hC _ (by first | assumption | exact Below.drew (by assumption))).out.mono ?_); rintro e w9 ⟨rfl, k9⟩; have kb : Kept W w9 := Kept.trans (by first | assumption | exact Below.drew (by assumption)) k9; clear k9)) | (go_at_call 19; ((with_reducible refine (hD _ (by first | assumption | exact Below.drew (by assumption))).out.mono ?_); rintro e w9 ⟨rfl, k9⟩; have kb : Kept W w9 := Kept.trans (by first | assumption | exact Below.drew (by assumption)) k9; clear k9)) | (go_at_call 20; ((with_reducible refine (hT _ (by first | assumption | exact Below.drew (by assumption))).out.mono ?_); rintro e w9 ⟨rfl, k9⟩; have kb : Kept W w9 := Kept.trans (by first | assumption | exact Below.drew (by assumption)) k9; clear k9)) | (go_at_call 21; ((with_reducible refine (hR _ (by first | assumption | exact Below.drew (by assumption))).out.mono ?_); rintro e w9 ⟨rfl, k9⟩; have kb : Kept W w9 := Kept.trans (by first | assumption | exact Below.drew (by assumption)) k9; clear k9)) | (go_at_call 22; ((with_reducible refine (hL _ (by first | assumption | exact Below.drew (by assumption))).out.mono ?_); rintro e w9 ⟨rfl, k9⟩; have kb : Kept W w9 := Kept.trans (by first | assumption | exact Below.drew (by assumption)) k9; clear k9)))
  all_goals go_wp2_with (fail)
  all_goals go_ret
  all_goals exact ⟨rfl, kw.trans kb⟩
theorem glueSums_walk (an ast ash aso aho bn bst bsh bso bho n : Int) (w : World) (ht : Tabs w) (hu : GUnitsIs w) :
    Calls Tryd.prog 4 #[.agg #[.int .i64 an, .int .i64 ast, .int .i64 ash, .int .i64 aso, .int .i64 aho], .agg #[.int .i64 bn, .int .i64 bst, .int .i64 bsh, .int .i64 bso, .int .i64 bho], .int .i64 n] w fun e w' => e = .returned (.bool true) ∧ Kept w w' :=
  sums_walk ⟨an, ast, ash, aso, aho⟩ ⟨bn, bst, bsh, bso, bho⟩ n w ht hu
end Go.Proofs.YtdlbpepkgoandaaDoor
