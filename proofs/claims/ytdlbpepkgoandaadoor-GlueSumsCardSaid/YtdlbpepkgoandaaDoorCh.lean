/- glue.changes and its closures: the sum so far, and how much of it has been shared out. -/
import Derived.Test.YtdlbpepkgoandaaDoorShare
import Derived.Test.YtdlbpepkgoandaaDoorRow
import Derived.OneCell
import Derived.Laws.EntriesVeiled
import Derived.Deep.OwnRows
import Derived.Outline
import Derived.Deep.RegionWith
namespace Go.Proofs.YtdlbpepkgoandaaDoor
open Go.RowKit

abbrev oneInt (v : Int) : Obj := .cells #[.int .i64 v] 3 (0, 0)
/-- the inner closure, its variables from block N on -/
def furtherV (N : Nat) : Value := .func (Fn.func 75) #[] #[.pointer (some ⟨N + 1, 0, none⟩), .pointer (some ⟨N + 4, 0, none⟩), .pointer (some ⟨N + 2, 0, none⟩), .pointer (some ⟨N + 3, 0, none⟩), .pointer (some ⟨N + 5, 0, none⟩)]
def changeV (N : Nat) : Value := .func (Fn.func 77) #[] #[.pointer (some ⟨N, 0, none⟩), .pointer (some ⟨N + 6, 0, none⟩)]

/-- what the closures have captured, from block N on -/
structure ChAt (w : World) (N : Nat) (sg od nu de S R : Int) : Prop where
  sg : w.heap[N]? = some (oneInt sg)
  od : w.heap[N + 1]? = some (oneInt od)
  nu : w.heap[N + 2]? = some (oneInt nu)
  de : w.heap[N + 3]? = some (oneInt de)
  su : w.heap[N + 4]? = some (oneInt S)
  sh : w.heap[N + 5]? = some (oneInt R)
  fu : w.heap[N + 6]? = some (.cells #[furtherV N] 103 (0, 0))

/-- all blocks but the two that the closure writes are as they were -/
structure Others (N : Nat) (w w' : World) : Prop where
  os : w'.os = w.os
  tape : w'.tape = w.tape
  output : w'.output = w.output
  size : w.heap.size ≤ w'.heap.size
  block : ∀ k, k < w.heap.size → k ≠ N + 4 → k ≠ N + 5 → w'.heap[k]? = w.heap[k]?

theorem Others.of_kept {N : Nat} {w w' : World} (h : Kept w w') : Others N w w' := ⟨h.os, h.tape, h.output, h.size, fun k hk _ _ => h.block k hk⟩
theorem Others.below {N B : Nat} {w w' : World} (h : Others N w w') (hB : B ≤ N + 4) (hs : B ≤ w.heap.size) : Below B w w' := ⟨h.os, h.tape, h.output, h.size, fun k hk => h.block k (by omega) (by omega) (by omega)⟩

theorem ChAt.lt {w : World} {N : Nat} {sg od nu de S R : Int} (h : ChAt w N sg od nu de S R) : N + 6 < w.heap.size := lt_of_block h.fu

theorem ChAt.kept {w w' : World} {N : Nat} {sg od nu de S R : Int} (h : ChAt w N sg od nu de S R) (hk : Kept w w') : ChAt w' N sg od nu de S R := by
  have hl := h.lt
  exact ⟨(hk.block _ (by omega)).trans h.sg, (hk.block _ (by omega)).trans h.od, (hk.block _ (by omega)).trans h.nu, (hk.block _ (by omega)).trans h.de, (hk.block _ (by omega)).trans h.su, (hk.block _ (by omega)).trans h.sh, (hk.block _ (by omega)).trans h.fu⟩

/-- the world behind a step -/
def Moved (w w' : World) (ps psh : Nat) (S R : Int) : Prop := ∃ w1, Kept w w1 ∧ w' = (w1.setCell ⟨ps, 0, none⟩ (.int .i64 S)).setCell ⟨psh, 0, none⟩ (.int .i64 R)

theorem size_setCell (w : World) (a : Addr) (u : Value) : (w.setCell a u).heap.size = w.heap.size := by simp [World.setCell]

theorem ChAt.moved {w w' : World} {N : Nat} {sg od nu de S R S' R' : Int} (h : ChAt w N sg od nu de S R) (hm : Moved w w' (N + 4) (N + 5) S' R') : ChAt w' N sg od nu de S' R' ∧ Others N w w' := by
  obtain ⟨w1, hk, rfl⟩ := hm
  obtain ⟨a0, a1, a2, a3, a4, a5, a6⟩ := h.kept hk
  have hb : ∀ k, k ≠ N + 4 → k ≠ N + 5 → ((w1.setCell ⟨N + 4, 0, none⟩ (.int .i64 S')).setCell ⟨N + 5, 0, none⟩ (.int .i64 R')).heap[k]? = w1.heap[k]? := fun k h1 h2 =>
    (Below.heap_setCell _ _ _ _ h2).trans (Below.heap_setCell _ _ _ _ h1)
  refine ⟨⟨(hb _ (by omega) (by omega)).trans a0, (hb _ (by omega) (by omega)).trans a1, (hb _ (by omega) (by omega)).trans a2, (hb _ (by omega) (by omega)).trans a3, ?_, ?_, (hb _ (by omega) (by omega)).trans a6⟩, ?_⟩
  · exact (Below.heap_setCell _ _ _ _ (by simp)).trans (one_setCell a4)
  · exact one_setCell ((Below.heap_setCell _ _ _ _ (by simp)).trans a5)
  · exact ⟨hk.os, hk.tape, hk.output, by rw [size_setCell, size_setCell]; exact hk.size, fun k hl h1 h2 => (hb k h1 h2).trans (hk.block k hl)⟩

theorem made7 (w : World) (o0 o1 o2 o3 o4 o5 o6 : Obj) : ∀ W, W = ((((((w.alloc o0).alloc o1).alloc o2).alloc o3).alloc o4).alloc o5).alloc o6 →
    W.heap[w.heap.size]? = some o0 ∧ W.heap[w.heap.size + 1]? = some o1 ∧ W.heap[w.heap.size + 2]? = some o2 ∧ W.heap[w.heap.size + 3]? = some o3 ∧ W.heap[w.heap.size + 4]? = some o4 ∧ W.heap[w.heap.size + 5]? = some o5 ∧ W.heap[w.heap.size + 6]? = some o6 := by
  intro W hW
  have e : W.heap = ((((((w.heap.push o0).push o1).push o2).push o3).push o4).push o5).push o6 := by rw [hW]; rfl
  rw [e]
  clear e hW
  generalize w.heap = h
  refine ⟨?_, ?_, ?_, ?_, ?_, ?_, ?_⟩ <;> simp only [Array.getElem?_push, Array.size_push] <;> (repeat (first | rw [if_pos trivial] | rw [if_pos (by omega)] | rw [if_neg (by omega)]))

set_option maxHeartbeats 1000000 in
theorem changes_any (sg od nu de : Int) (w : World) :
    Calls Tryd.prog 67 #[.int .i64 sg, .int .i64 od, .int .i64 nu, .int .i64 de] w fun e w' => e = .returned (changeV w.heap.size) ∧ ChAt w' w.heap.size sg od nu de 0 0 ∧ Kept w w' ∧ w'.heap.size = w.heap.size + 7 := by
  go_enter Tryd.func67, Tryd.ntmps67
  go_wp2
  go_ret
  obtain ⟨a0, a1, a2, a3, a4, a5, a6⟩ := made7 w _ _ _ _ _ _ _ _ rfl
  exact ⟨rfl, ⟨a0, a1, a2, a3, a4, a5, a6⟩, (((((((Kept.refl w).alloc (by simp) _).alloc (by simp) _).alloc (by simp; omega) _).alloc (by simp; omega) _).alloc (by simp; omega) _).alloc (by simp; omega) _).alloc (by simp; omega) _, by simp⟩

/-- a share of nothing -/
theorem shareV_bd (s n d : Int) : -70368744177664 ≤ shareV s n d ∧ shareV s n d ≤ 70368744177664 := by
  have := rqV_bd (s.natAbs * n.natAbs) d.toNat
  unfold shareV
  split
  · split <;> omega
  · omega

set_option maxHeartbeats 1000000 in
theorem further_other (f o od : Int) (po ps pn pd psh : Nat) (h : o ≠ od) (w : World) (h1 : w.heap[po]? = some (oneInt od)) :
    Calls Tryd.prog 75 #[.agg #[.int .i64 f, .int .i64 o], .pointer (some ⟨po, 0, none⟩), .pointer (some ⟨ps, 0, none⟩), .pointer (some ⟨pn, 0, none⟩), .pointer (some ⟨pd, 0, none⟩), .pointer (some ⟨psh, 0, none⟩)] w fun e w' =>
      e = .returned (.tuple #[.int .i64 0, .int .i64 0]) ∧ Kept w w' := by
  have c1 := cell_of_one h1
  have l1 := lt_of_block h1
  clear h1
  have hd : (o != od) = true := by simpa using h
  go_enter Tryd.func75, Tryd.ntmps75
  go_wp2
  go_ret2
  exact ⟨rfl, (Kept.refl _).alloc (Nat.le_refl _) _⟩

/-- what a step of the inner closure comes to: no share, or the new sum and what of it has been shared out -/
def FurtherTo (w : World) (ps psh : Nat) (S V R E : Int) (e : Ending) (w' : World) : Prop :=
  (E ≠ 0 ∧ e = .returned (.tuple #[.int .i64 0, .int .i64 E]) ∧ Kept w w') ∨ (E = 0 ∧ e = .returned (.tuple #[.int .i64 (V - R), .int .i64 0]) ∧ Moved w w' ps psh S V)

set_option maxHeartbeats 1000000 in
theorem further_same (f od nu de S R : Int) (po ps pn pd psh : Nat) (w : World) (h1 : w.heap[po]? = some (oneInt od)) (h2 : w.heap[ps]? = some (oneInt S)) (h3 : w.heap[pn]? = some (oneInt nu))
    (h4 : w.heap[pd]? = some (oneInt de)) (h5 : w.heap[psh]? = some (oneInt R)) (hne : ps ≠ psh) (s0 : -35184372088832 ≤ S) (s1 : S ≤ 35184372088832) (f0 : -1073741824 ≤ f) (f1 : f ≤ 1073741824) (r0 : -70368744177664 ≤ R) (r1 : R ≤ 70368744177664) :
    Calls Tryd.prog 75 #[.agg #[.int .i64 f, .int .i64 od], .pointer (some ⟨po, 0, none⟩), .pointer (some ⟨ps, 0, none⟩), .pointer (some ⟨pn, 0, none⟩), .pointer (some ⟨pd, 0, none⟩), .pointer (some ⟨psh, 0, none⟩)] w (FurtherTo w ps psh (S + f) (shareV (S + f) nu de) R (shareE (S + f) nu de)) := by
  have c1 := cell_of_one h1
  have l1 := lt_of_block h1
  have c2 := cell_of_one h2
  have l2 := lt_of_block h2
  have c3 := cell_of_one h3
  have l3 := lt_of_block h3
  have c4 := cell_of_one h4
  have l4 := lt_of_block h4
  have c5 := cell_of_one h5
  have l5 := lt_of_block h5
  have z2 := free_of_one h2
  have z5 := free_of_one h5
  clear h1 h2 h3 h4 h5
  have hs := fun w => Lib.hid (share_any (S + f) nu de w)
  obtain ⟨v0, v1⟩ := shareV_bd (S + f) nu de
  generalize shareV (S + f) nu de = V at *
  generalize shareE (S + f) nu de = E at *
  by_cases hE : E = 0
  · subst hE
    go_enter Tryd.func75, Tryd.ntmps75
    go_wp2_with (fail)
    refine (hs _).out.mono ?_
    rintro e w1 ⟨rfl, k1⟩
    obtain ⟨bc, bf⟩ := bcell k1
    have hz : w.heap.size + 1 ≤ w1.heap.size := by have := k1.size; simpa using this
    go_wp2_with (fail)
    go_ret2
    exact .inr ⟨rfl, rfl, w1, Kept.trans ((Kept.refl _).alloc (Nat.le_refl _) _) k1, rfl⟩
  · have hE' : (E != 0) = true := by simpa using hE
    go_enter Tryd.func75, Tryd.ntmps75
    go_wp2_with (fail)
    refine (hs _).out.mono ?_
    rintro e w1 ⟨rfl, k1⟩
    go_wp2_with (fail)
    go_ret2
    exact .inl ⟨hE, rfl, Kept.trans ((Kept.refl _).alloc (Nat.le_refl _) _) k1⟩

/-- what a step comes to: no share, or the new sum and what of it has been shared out -/
def StepIs (w : World) (N : Nat) (sg od nu de S f x y : Int) (w' : World) : Prop :=
  (x = 0 ∧ y ≠ 0 ∧ shareE (S + f) nu de ≠ 0 ∧ Kept w w') ∨
  (shareE (S + f) nu de = 0 ∧ x = shareV (S + f) nu de - shareV S nu de ∧ y = 0 ∧ ChAt w' N sg od nu de (S + f) (shareV (S + f) nu de) ∧ Others N w w')
def StepTo (w : World) (N : Nat) (sg od nu de S f : Int) (e : Ending) (w' : World) : Prop :=
  ∃ x y : Int, e = .returned (.tuple #[.int .i64 x, .int .i64 y]) ∧ StepIs w N sg od nu de S f x y w'

/-- what counts of a size whose order is o -/
def ofOrder (o od f : Int) : Int := if o = od then f else 0

theorem further_any (f o od nu de S sg : Int) (N : Nat) (w : World) (h : ChAt w N sg od nu de S (shareV S nu de)) (hs : shareE S nu de = 0)
    (s0 : -35184372088832 ≤ S) (s1 : S ≤ 35184372088832) (f0 : -1073741824 ≤ f) (f1 : f ≤ 1073741824) :
    Calls Tryd.prog 75 #[.agg #[.int .i64 f, .int .i64 o], .pointer (some ⟨N + 1, 0, none⟩), .pointer (some ⟨N + 4, 0, none⟩), .pointer (some ⟨N + 2, 0, none⟩), .pointer (some ⟨N + 3, 0, none⟩), .pointer (some ⟨N + 5, 0, none⟩)] w
      (StepTo w N sg od nu de S (ofOrder o od f)) := by
  unfold ofOrder
  by_cases ho : o = od
  · subst ho
    obtain ⟨v0, v1⟩ := shareV_bd S nu de
    rw [if_pos rfl]
    refine (further_same f o nu de S _ _ _ _ _ _ w h.od h.su h.nu h.de h.sh (by omega) s0 s1 f0 f1 v0 v1).mono ?_
    rintro e w' (⟨h1, h2, h3⟩ | ⟨h1, h2, h3⟩)
    · exact ⟨_, _, h2, .inl ⟨rfl, h1, h1, h3⟩⟩
    · obtain ⟨a, b⟩ := h.moved h3
      exact ⟨_, _, h2, .inr ⟨h1, rfl, rfl, a, b⟩⟩
  · rw [if_neg ho]
    refine (further_other f o od _ _ _ _ _ ho w h.od).mono ?_
    rintro e w' ⟨h1, h2⟩
    have e1 : S + 0 = S := Int.add_zero S
    exact ⟨_, _, h1, .inr ⟨by rw [e1]; exact hs, by rw [e1, Int.sub_self], rfl, by rw [e1]; exact h.kept h2, Others.of_kept h2⟩⟩

/-- how much of this order a piece of glue can stretch (shrink) -/
def fsz (sg od : Int) (g : Gl) : Int := if sg = 1 then ofOrder g.so od g.st else if sg = 2 then ofOrder g.ho od g.sh else 0

theorem StepIs.before {w w1 w' : World} {N : Nat} {sg od nu de S f x y : Int} (hk : Kept w w1) (hm : StepIs w1 N sg od nu de S f x y w') : StepIs w N sg od nu de S f x y w' := by
  rcases hm with ⟨h0, h1, h2, h3⟩ | ⟨h1, h2, h3, h4, b⟩
  · exact .inl ⟨h0, h1, h2, hk.trans h3⟩
  · exact .inr ⟨h1, h2, h3, h4, ⟨b.os.trans hk.os, b.tape.trans hk.tape, b.output.trans hk.output, Nat.le_trans hk.size b.size, fun k hl n4 n5 => (b.block k (Nat.lt_of_lt_of_le hl hk.size) n4 n5).trans (hk.block k hl)⟩⟩

set_option maxHeartbeats 2000000 in
theorem step_more (n a b c d od nu de S : Int) (N : Nat) (w : World) (h : ChAt w N 1 od nu de S (shareV S nu de)) (hs : shareE S nu de = 0)
    (s0 : -35184372088832 ≤ S) (s1 : S ≤ 35184372088832) (f0 : -1073741824 ≤ a) (f1 : a ≤ 1073741824) :
    Calls Tryd.prog 77 #[.agg #[.int .i64 n, .int .i64 a, .int .i64 b, .int .i64 c, .int .i64 d], .pointer (some ⟨N, 0, none⟩), .pointer (some ⟨N + 6, 0, none⟩)] w (StepTo w N 1 od nu de S (fsz 1 od ⟨n, a, b, c, d⟩)) := by
  have c0 := cell_of_one h.sg
  have l0 : N < w.heap.size := by have := h.lt; omega
  have c6 := cell_of_one h.fu
  have l6 : N + 6 < w.heap.size := h.lt
  unfold furtherV at c6
  have e1 : fsz 1 od ⟨n, a, b, c, d⟩ = ofOrder c od a := by simp [fsz]
  rw [e1]
  clear e1
  have Hc := fun w' (hk : Kept w w') => Lib.hid (further_any a c od nu de S 1 N w' (h.kept hk) hs s0 s1 f0 f1)
  clear h hs
  go_enter Tryd.func77, Tryd.ntmps77
  go_wp2
  go_region_with (first | (go_at_call 32; refine (stretch_any _ _ _ _ _ _).mono ?_; rintro e w1 ⟨rfl, k1⟩; obtain ⟨bc, bf⟩ := bcell k1; have k2 : Kept w w1 := Kept.trans (((Kept.refl w).alloc (Nat.le_refl _) _).drew) k1; clear k1) | (go_at_call 75; refine (Hc _ k2).out.mono ?_; rintro e w2 ⟨x, y, rfl, hm⟩; have Hm := Lib.hid hm; clear hm))
  all_goals
    go_wp2
    go_ret2
    exact ⟨x, y, rfl, StepIs.before k2 Hm.out⟩

/-- what a shrinking step comes to: turned round -/
def StepDown (w : World) (N : Nat) (od nu de S f : Int) (e : Ending) (w' : World) : Prop :=
  ∃ x y : Int, e = .returned (.tuple #[.int .i64 (-x), .int .i64 y]) ∧ StepIs w N 2 od nu de S f x y w'

theorem further_bd (f o od nu de S sg : Int) (N : Nat) (w : World) (h : ChAt w N sg od nu de S (shareV S nu de)) (hs : shareE S nu de = 0)
    (s0 : -35184372088832 ≤ S) (s1 : S ≤ 35184372088832) (f0 : -1073741824 ≤ f) (f1 : f ≤ 1073741824) :
    Calls Tryd.prog 75 #[.agg #[.int .i64 f, .int .i64 o], .pointer (some ⟨N + 1, 0, none⟩), .pointer (some ⟨N + 4, 0, none⟩), .pointer (some ⟨N + 2, 0, none⟩), .pointer (some ⟨N + 3, 0, none⟩), .pointer (some ⟨N + 5, 0, none⟩)] w
      fun e w' => ∃ x y : Int, e = .returned (.tuple #[.int .i64 x, .int .i64 y]) ∧ -140737488355328 ≤ x ∧ x ≤ 140737488355328 ∧ StepIs w N sg od nu de S (ofOrder o od f) x y w' := by
  refine (further_any f o od nu de S sg N w h hs s0 s1 f0 f1).mono ?_
  rintro e w' ⟨x, y, he, hm⟩
  have b1 := shareV_bd S nu de
  have b2 := shareV_bd (S + ofOrder o od f) nu de
  refine ⟨x, y, he, ?_, ?_, hm⟩
  · rcases hm with ⟨h0, _⟩ | ⟨_, h0, _⟩ <;> omega
  · rcases hm with ⟨h0, _⟩ | ⟨_, h0, _⟩ <;> omega

set_option maxHeartbeats 2000000 in
theorem step_less (n a b c d od nu de S : Int) (N : Nat) (w : World) (h : ChAt w N 2 od nu de S (shareV S nu de)) (hs : shareE S nu de = 0)
    (s0 : -35184372088832 ≤ S) (s1 : S ≤ 35184372088832) (f0 : -1073741824 ≤ b) (f1 : b ≤ 1073741824) :
    Calls Tryd.prog 77 #[.agg #[.int .i64 n, .int .i64 a, .int .i64 b, .int .i64 c, .int .i64 d], .pointer (some ⟨N, 0, none⟩), .pointer (some ⟨N + 6, 0, none⟩)] w (StepDown w N od nu de S (fsz 2 od ⟨n, a, b, c, d⟩)) := by
  have c0 := cell_of_one h.sg
  have l0 : N < w.heap.size := by have := h.lt; omega
  have c6 := cell_of_one h.fu
  have l6 : N + 6 < w.heap.size := h.lt
  unfold furtherV at c6
  have e1 : fsz 2 od ⟨n, a, b, c, d⟩ = ofOrder d od b := by simp [fsz]
  rw [e1]
  clear e1
  have Hc := fun w' (hk : Kept w w') => Lib.hid (further_bd b d od nu de S 2 N w' (h.kept hk) hs s0 s1 f0 f1)
  clear h hs
  go_enter Tryd.func77, Tryd.ntmps77
  go_wp2
  go_region_with (first | (go_at_call 34; refine (shrink_any _ _ _ _ _ _).mono ?_; rintro e w1 ⟨rfl, k1⟩; obtain ⟨bc, bf⟩ := bcell k1; have k2 : Kept w w1 := Kept.trans (((Kept.refl w).alloc (Nat.le_refl _) _).drew) k1; clear k1) | (go_at_call 75; refine (Hc _ k2).out.mono ?_; rintro e w2 ⟨x, y, rfl, x0, x1, hm⟩; have Hm := Lib.hid hm; clear hm))
  all_goals
    go_wp2
    go_ret2
    exact ⟨x, y, rfl, StepIs.before k2 Hm.out⟩

set_option maxHeartbeats 1000000 in
theorem step_still (n a b c d od nu de S R : Int) (N : Nat) (w : World) (h : ChAt w N 0 od nu de S R) :
    Calls Tryd.prog 77 #[.agg #[.int .i64 n, .int .i64 a, .int .i64 b, .int .i64 c, .int .i64 d], .pointer (some ⟨N, 0, none⟩), .pointer (some ⟨N + 6, 0, none⟩)] w fun e w' => e = .returned (.tuple #[.int .i64 0, .int .i64 0]) ∧ Kept w w' := by
  have c0 := cell_of_one h.sg
  have l0 : N < w.heap.size := by have := h.lt; omega
  clear h
  go_enter Tryd.func77, Tryd.ntmps77
  go_wp2
  go_ret2
  exact ⟨rfl, (Kept.refl w).alloc (Nat.le_refl _) _⟩
end Go.Proofs.YtdlbpepkgoandaaDoor
