/- What the walks over fonts say: definitions and small facts, without a program. -/
import Derived.Test.YtdhidpbenhmfgaaGreatFontAt
import Derived.Test.YtdhidpbenhmfgaaGreatSizeMath
namespace Go.Proofs.YtdhidpbenhmfgaaGreat
open Go.RowKit

/-- the character's place, if it is there -/
def thereAt (F : Fnt) (c : Int) : Option Nat :=
  if F.first ≤ c ∧ c - F.first < F.chars.length then (match F.chars[(c - F.first).toNat]? with | some m => if 0 ≤ m.tag ∧ m.tag ≤ 3 then some (c - F.first).toNat else none | none => none) else none
def thV (F : Fnt) (c : Int) : Int := match thereAt F c with | some k => k | none => 0
def thB (F : Fnt) (c : Int) : Bool := (thereAt F c).isSome
/-- no difference wraps round so that it counts -/
def ThOk (F : Fnt) (c : Int) : Prop := i64B c ∧ i64B F.first ∧ F.chars.length ≤ 9223372036854775807 ∧ (0 ≤ c ∧ c ≤ 255 ∨ 0 ≤ F.first ∧ F.first ≤ 255 ∧ F.chars.length ≤ 256)
theorem there_no {F : Fnt} {c : Int} (h : thereAt F c = none) : thV F c = 0 ∧ thB F c = false := by
  unfold thV thB; rw [h]; exact ⟨rfl, rfl⟩
theorem there_yes {F : Fnt} {c : Int} {k : Nat} (h : thereAt F c = some k) : thV F c = k ∧ thB F c = true := by
  unfold thV thB; rw [h]; exact ⟨rfl, rfl⟩
/-- a font's box, cell by cell -/
structure FBox (w : World) (B : Nat) (F : Fnt) (a : FAddr) : Prop where
  b0 : w.cell? ⟨B, 0, none⟩ = some (.int .u32 F.check)
  b1 : w.cell? ⟨B, 1, none⟩ = some (.int .i64 F.design)
  b2 : w.cell? ⟨B, 2, none⟩ = some (.int .i64 F.first)
  b3 : w.cell? ⟨B, 3, none⟩ = some (.slice a.A0 F.chars.length a.c0)
  b4 : w.cell? ⟨B, 4, none⟩ = some (.slice a.A1 F.steps.length a.c1)
  b5 : w.cell? ⟨B, 5, none⟩ = some (.slice a.A2 F.kerns.length a.c2)
  b6 : w.cell? ⟨B, 6, none⟩ = some (.slice a.A3 F.pieces.length a.c3)
  b7 : w.cell? ⟨B, 7, none⟩ = some (.slice a.A4 F.params.length a.c4)
  lt : B < w.heap.size
theorem walloc (w : World) (o : Obj) : Kept w (w.alloc o) := (Kept.refl w).alloc (Nat.le_refl _) _
theorem mkobj (w : World) (o0 : Obj) : (w.alloc o0).heap[w.heap.size]? = some o0 := by
  have e : (w.alloc o0).heap = w.heap.push o0 := rfl
  rw [e]
  simp
theorem FBox.of_obj {w : World} {B : Nat} {F : Fnt} {a : FAddr} {T : TypeId} (h : w.heap[B]? = some (.cells #[.int .u32 F.check, .int .i64 F.design, .int .i64 F.first, .slice a.A0 F.chars.length a.c0, .slice a.A1 F.steps.length a.c1, .slice a.A2 F.kerns.length a.c2, .slice a.A3 F.pieces.length a.c3, .slice a.A4 F.params.length a.c4] T (0, 0))) : FBox w B F a := by
  refine ⟨?_, ?_, ?_, ?_, ?_, ?_, ?_, ?_, ?_⟩
  case refine_9 =>
    rcases Nat.lt_or_ge B w.heap.size with h' | h'
    · exact h'
    · simp [Array.getElem?_eq_none h'] at h
  all_goals simp [World.cell?, h]
theorem FBox.kept {w w' : World} {B : Nat} {F : Fnt} {a : FAddr} (h : FBox w B F a) (hk : Kept w w') : FBox w' B F a :=
  ⟨(hk.cell (p := ⟨B, 0, none⟩) h.lt).trans h.b0, (hk.cell (p := ⟨B, 1, none⟩) h.lt).trans h.b1, (hk.cell (p := ⟨B, 2, none⟩) h.lt).trans h.b2, (hk.cell (p := ⟨B, 3, none⟩) h.lt).trans h.b3, (hk.cell (p := ⟨B, 4, none⟩) h.lt).trans h.b4, (hk.cell (p := ⟨B, 5, none⟩) h.lt).trans h.b5, (hk.cell (p := ⟨B, 6, none⟩) h.lt).trans h.b6, (hk.cell (p := ⟨B, 7, none⟩) h.lt).trans h.b7, Nat.lt_of_lt_of_le h.lt hk.size⟩
/-- does the chain of greater ones from a place end? -/
def chainB (F : Fnt) : Nat → Nat → Bool
  | 0, _ => false
  | n + 1, i => match F.chars[i]? with
    | none => false
    | some m => if m.tag = 2 then (match thereAt F m.rest with | none => false | some j => chainB F n j) else true
theorem there_lt {F : Fnt} {c : Int} {k : Nat} (h : thereAt F c = some k) : k < F.chars.length := by
  unfold thereAt at h
  split at h
  · split at h
    · rename_i hm
      split at h
      · obtain rfl := Option.some.inj h
        exact (List.getElem?_eq_some_iff.1 hm).1
      · cases h
    · cases h
  · cases h
theorem chain_stop {F : Fnt} {n i : Nat} (hi : i < F.chars.length) (h : F.chars[i].tag ≠ 2) : chainB F (n + 1) i = true := by
  simp [chainB, List.getElem?_eq_getElem hi, h]
theorem chain_none {F : Fnt} {n i : Nat} (hi : i < F.chars.length) (h : F.chars[i].tag = 2) (ht : thereAt F F.chars[i].rest = none) : chainB F (n + 1) i = false := by
  simp [chainB, List.getElem?_eq_getElem hi, h, ht]
theorem chain_some {F : Fnt} {n i j : Nat} (hi : i < F.chars.length) (h : F.chars[i].tag = 2) (ht : thereAt F F.chars[i].rest = some j) : chainB F (n + 1) i = chainB F n j := by
  simp [chainB, List.getElem?_eq_getElem hi, h, ht]
/-- may a character's numbers be, but for its chain? -/
def metB (F : Fnt) (m : Met) (chain : Bool) : Bool :=
  if m.tag = -1 then decide (m = ⟨0, 0, 0, 0, -1, 0⟩)
  else fixB m.w && (fixB m.h && (fixB m.d && (fixB m.it && (if m.tag = 0 then m.rest == 0
    else if m.tag = 1 then decide (0 ≤ m.rest ∧ m.rest < F.steps.length ∧ m.rest < 256)
    else if m.tag = 2 then decide (0 ≤ m.rest ∧ m.rest < 256) && chain
    else if m.tag = 3 then decide (0 ≤ m.rest ∧ m.rest < F.pieces.length) else false))))
def charB (F : Fnt) (i : Nat) : Bool := match F.chars[i]? with | none => false | some m => metB F m (chainB F (F.chars.length + 1) i)
def edge (F : Fnt) : Int := match F.steps[0]? with | none => -1 | some s => if s.skip = 255 then s.next else -1
theorem charB_of {F : Fnt} {i : Nat} (hi : i < F.chars.length) : charB F i = metB F F.chars[i] (chainB F (F.chars.length + 1) i) := by
  unfold charB; rw [List.getElem?_eq_getElem hi]
theorem metB_neg {F : Fnt} {m : Met} {c : Bool} (h : m.tag = -1) : metB F m c = decide (m.w = 0 ∧ m.h = 0 ∧ m.d = 0 ∧ m.it = 0 ∧ m.rest = 0) := by
  obtain ⟨m0, m1, m2, m3, m4, m5⟩ := m
  simp only at h
  subst h
  simp [metB]
theorem edge_nil {F : Fnt} (h : F.steps.length = 0) : edge F = -1 := by
  unfold edge; rw [List.getElem?_eq_none (by omega)]
theorem edge_cons {F : Fnt} (h : 0 < F.steps.length) : edge F = if F.steps[0].skip = 255 then F.steps[0].next else -1 := by
  unfold edge; rw [List.getElem?_eq_getElem h]
/-- may a step be at its place? -/
def stB (F : Fnt) (i : Nat) (s : St) : Bool :=
  if 128 < s.skip then (if i = 0 ∧ s.skip = 255 then true else decide (256 * s.op + s.rest < F.steps.length))
  else if thB F s.next = false ∧ ¬ s.next = edge F then false
  else if s.skip < 128 ∧ (F.steps.length : Int) ≤ i + s.skip + 1 then false
  else if s.op < 128 then thB F s.rest else decide (256 * (s.op - 128) + s.rest < F.kerns.length)
def stepB (F : Fnt) (i : Nat) : Bool := match F.steps[i]? with | none => false | some s => stB F i s
structure SBox (w : World) (B : Nat) (s : St) : Prop where
  c0 : w.cell? ⟨B, 0, none⟩ = some (.int .u8 s.skip)
  c1 : w.cell? ⟨B, 1, none⟩ = some (.int .u8 s.next)
  c2 : w.cell? ⟨B, 2, none⟩ = some (.int .u8 s.op)
  c3 : w.cell? ⟨B, 3, none⟩ = some (.int .u8 s.rest)
  lt : B < w.heap.size
theorem SBox.of_obj {w : World} {B : Nat} {s : St} {T : TypeId} (h : w.heap[B]? = some (.cells #[.int .u8 s.skip, .int .u8 s.next, .int .u8 s.op, .int .u8 s.rest] T (0, 0))) : SBox w B s := by
  refine ⟨?_, ?_, ?_, ?_, ?_⟩
  case refine_5 =>
    rcases Nat.lt_or_ge B w.heap.size with h' | h'
    · exact h'
    · simp [Array.getElem?_eq_none h'] at h
  all_goals simp [World.cell?, h]
theorem SBox.kept {w w' : World} {B : Nat} {s : St} (h : SBox w B s) (hk : Kept w w') : SBox w' B s :=
  ⟨(hk.cell (p := ⟨B, 0, none⟩) h.lt).trans h.c0, (hk.cell (p := ⟨B, 1, none⟩) h.lt).trans h.c1, (hk.cell (p := ⟨B, 2, none⟩) h.lt).trans h.c2, (hk.cell (p := ⟨B, 3, none⟩) h.lt).trans h.c3, Nat.lt_of_lt_of_le h.lt hk.size⟩
/-- what the walks know of the font at the call -/
structure FOk (F : Fnt) : Prop where
  wf : F.wf
  first : 0 ≤ F.first ∧ F.first ≤ 255
  many : F.chars.length ≤ 256
  nsteps : F.steps.length ≤ 32510
theorem FOk.th {F : Fnt} (h : FOk F) {c : Int} (hc : i64B c) : ThOk F c := ⟨hc, h.wf.first, by have := h.many; omega, .inr ⟨h.first.1, h.first.2, h.many⟩⟩
theorem stepB_of {F : Fnt} {i : Nat} (hi : i < F.steps.length) : stepB F i = stB F i F.steps[i] := by
  unfold stepB; rw [List.getElem?_eq_getElem hi]
/-- may pieces be? -/
def pcB (F : Fnt) (p : St) : Bool := (thB F p.skip || p.skip == 0) && ((thB F p.next || p.next == 0) && ((thB F p.op || p.op == 0) && thB F p.rest))
def pAt (p : St) (k : Nat) : Int := if k = 0 then p.skip else if k = 1 then p.next else if k = 2 then p.op else p.rest
def okP (F : Fnt) (p : St) (k : Nat) : Bool := thB F (pAt p k) || (decide (k ≠ 3) && pAt p k == 0)
def pieceB (F : Fnt) (p : St) : Bool := (List.range 4).all (okP F p)
theorem piece_no {F : Fnt} {p : St} {k : Nat} (hk : k < 4) (h : okP F p k = false) : pieceB F p = false := by
  unfold pieceB
  rw [List.all_eq_false]
  exact ⟨k, List.mem_range.2 hk, by simp [h]⟩
theorem piece_yes {F : Fnt} {p : St} (h : ∀ k < 4, okP F p k = true) : pieceB F p = true := by
  unfold pieceB
  rw [List.all_eq_true]
  exact fun k hk => h k (List.mem_range.1 hk)
theorem all_next {P : Nat → Prop} {k : Nat} (h : ∀ j < k, P j) (hk : P k) : ∀ j < k + 1, P j := fun j hj => by
  rcases Nat.lt_or_ge j k with h' | h'
  · exact h j h'
  · obtain rfl : j = k := by omega
    exact hk
def endsB (F : Fnt) : Bool := match F.chars[0]?, F.chars[F.chars.length - 1]? with
  | some m, some l => decide (0 ≤ m.tag ∧ 0 ≤ l.tag)
  | _, _ => F.first == 0
def headB (F : Fnt) : Bool := decide (1048576 ≤ F.design ∧ F.design ≤ 2147483647 ∧ 0 ≤ F.first ∧ F.first ≤ 255 ∧ (F.chars.length : Int) ≤ 256 - F.first) && (endsB F && decide (F.steps.length ≤ 32510 ∧ F.kerns.length ≤ 32768 ∧ F.pieces.length ≤ 256 ∧ F.params.length ≤ 255))
def parB (k : Nat) (z : Int) : Bool := (decide (k = 0) || fixB z) && decide (-2147483648 ≤ z ∧ z < 2147483648)
def kernsB (F : Fnt) : Bool := F.kerns.all fixB
def parsB (F : Fnt) : Bool := (List.range F.params.length).all fun k => parB k (F.params[k]?.getD 0)
def shapeB (F : Fnt) : Bool := headB F && (kernsB F && parsB F)
theorem ends_nil {F : Fnt} (h : F.chars.length = 0) : endsB F = (F.first == 0) := by
  unfold endsB; rw [List.getElem?_eq_none (by omega)]
theorem ends_cons {F : Fnt} (h : 0 < F.chars.length) : endsB F = decide (0 ≤ F.chars[0].tag ∧ 0 ≤ (F.chars[F.chars.length - 1]'(by omega)).tag) := by
  unfold endsB; rw [List.getElem?_eq_getElem h, List.getElem?_eq_getElem (show F.chars.length - 1 < F.chars.length by omega)]
  rfl
theorem kerns_no {F : Fnt} {k : Nat} (hk : k < F.kerns.length) (h : fixB F.kerns[k] = false) : kernsB F = false := by
  unfold kernsB; rw [List.all_eq_false]; exact ⟨_, List.getElem_mem hk, by simp [h]⟩
theorem kerns_yes {F : Fnt} (h : ∀ k, ∀ hk : k < F.kerns.length, fixB F.kerns[k] = true) : kernsB F = true := by
  unfold kernsB; rw [List.all_eq_true]
  intro z hz
  obtain ⟨k, hk, rfl⟩ := List.mem_iff_getElem.1 hz
  exact h k hk
theorem pars_no {F : Fnt} {k : Nat} (hk : k < F.params.length) (h : parB k F.params[k] = false) : parsB F = false := by
  unfold parsB; rw [List.all_eq_false]; exact ⟨k, List.mem_range.2 hk, by rw [List.getElem?_eq_getElem hk]; simp [h]⟩
theorem pars_yes {F : Fnt} (h : ∀ k, ∀ hk : k < F.params.length, parB k F.params[k] = true) : parsB F = true := by
  unfold parsB; rw [List.all_eq_true]
  intro k hk
  have := List.mem_range.1 hk
  rw [List.getElem?_eq_getElem this]; exact h k this
def charsB (F : Fnt) : Bool := (List.range F.chars.length).all (charB F)
def stepsB (F : Fnt) : Bool := (List.range F.steps.length).all (stepB F)
def piecesB (F : Fnt) : Bool := (List.range F.pieces.length).all fun k => match F.pieces[k]? with | none => false | some p => pieceB F p
/-- is it a font? -/
def fontB (F : Fnt) : Bool := shapeB F && (charsB F && (stepsB F && piecesB F))
def fontE (F : Fnt) : Int := if fontB F then 0 else 40
theorem range_no {n : Nat} {f : Nat → Bool} {k : Nat} (hk : k < n) (h : f k = false) : (List.range n).all f = false := by
  rw [List.all_eq_false]; exact ⟨k, List.mem_range.2 hk, by simp [h]⟩
theorem range_yes {n : Nat} {f : Nat → Bool} (h : ∀ k < n, f k = true) : (List.range n).all f = true := by
  rw [List.all_eq_true]; exact fun k hk => h k (List.mem_range.1 hk)
theorem shape_ok {F : Fnt} (h : shapeB F = true) (hw : F.wf) : FOk F := by
  unfold shapeB headB at h
  simp only [Bool.and_eq_true, decide_eq_true_eq] at h
  exact ⟨hw, ⟨h.1.1.2.2.1, h.1.1.2.2.2.1⟩, by have := h.1.1; omega, h.1.2.2.1⟩
def metV (F : Fnt) (c : Int) : Met := match thereAt F c with | some k => F.chars[k]?.getD ⟨0, 0, 0, 0, 0, 0⟩ | none => ⟨0, 0, 0, 0, 0, 0⟩
theorem mbox {w1 : World} {B : Nat} {T : TypeId} {z0 z1 z2 z3 z4 z5 : Value} (h : w1.heap[B]? = some (.cells #[z0, z1, z2, z3, z4, z5] T (0, 0))) :
    w1.cell? ⟨B, 0, none⟩ = some z0 ∧ w1.cell? ⟨B, 1, none⟩ = some z1 ∧ w1.cell? ⟨B, 2, none⟩ = some z2 ∧ w1.cell? ⟨B, 3, none⟩ = some z3 ∧ w1.cell? ⟨B, 4, none⟩ = some z4 ∧ w1.cell? ⟨B, 5, none⟩ = some z5 ∧ (∀ o, w1.frozen? ⟨B, o, none⟩ = false) ∧ B < w1.heap.size := by
  refine ⟨?_, ?_, ?_, ?_, ?_, ?_, fun o => ?_, ?_⟩
  case refine_8 =>
    rcases Nat.lt_or_ge B w1.heap.size with h' | h'
    · exact h'
    · simp [Array.getElem?_eq_none h'] at h
  all_goals first | simp [World.cell?, h] | simp [World.frozen?, h]
theorem kalloc {w w1 : World} (h : Kept w w1) (o : Obj) : Kept w (w1.alloc o) := h.alloc h.size o
end Go.Proofs.YtdhidpbenhmfgaaGreat
