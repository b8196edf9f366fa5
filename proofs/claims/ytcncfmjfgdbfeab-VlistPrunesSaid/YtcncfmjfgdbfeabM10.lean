/- Fast7 NodP NodQ. -/
import Derived.Test.YtcncfmjfgdbfeabM9
namespace Go.Proofs.Ytcncfmjfgdbfeab
open Go.RowKit
noncomputable section
section
variable {P : Program}
def binSem (op : BinOp) (t : TypeId) (x y : Operand) (a b : Value) : Sem Next := do
 let v ← (do eqGuard op t x y a b; binOp op t a b)
 pure (.value v)
theorem bin_run {op : BinOp} {t : TypeId} {x y : Operand} {a b v v' : Value} {w : World} (h : runQ P (binSem op t x y a b) = some (.value v)) (e : v = v') : (binSem op t x y a b).run P w = .ok (.value v') w := by
 subst e
 exact runQ_run h w
theorem any_run {s : Sem Next} {v v' : Value} {w : World} (h : runQ P s = some (.value v)) (e : v = v') : s.run P w = .ok (.value v') w := by
 subst e
 exact runQ_run h w
theorem wrap_i64 {n : Int} (h : -9223372036854775808 ≤ n) (h' : n ≤ 9223372036854775807) : IntKind.wrap .i64 n = n := by
 have e1 : (2 : Int) ^ IntKind.i64.bits = 18446744073709551616 := by decide
 have e2 : (2 : Int) ^ (IntKind.i64.bits - 1) = 9223372036854775808 := by decide
 unfold IntKind.wrap
 rw [e1, e2]
 simp only [IntKind.signed, Bool.true_and, decide_eq_true_eq]
 split <;> omega
theorem len_pred {t : TypeId} {x y : Operand} {m : Nat} {w : World} (h : runQ P (binSem .sub t x y (.int .i64 ((m + 1 : Nat) : Int)) (.int .i64 1)) = some (.value (.int .i64 (IntKind.wrap .i64 (((m + 1 : Nat) : Int) - 1))))) (hm : m ≤ 9223372036854775807) :
  (binSem .sub t x y (.int .i64 ((m + 1 : Nat) : Int)) (.int .i64 1)).run P w = .ok (.value (.int .i64 (m : Int))) w :=
 bin_run h (by rw [wrap_i64 (by omega) (by omega)]; congr 1; omega)
theorem nat_succ {t : TypeId} {x y : Operand} {m : Nat} {w : World} (h : runQ P (binSem .add t x y (.int .i64 (m : Int)) (.int .i64 1)) = some (.value (.int .i64 (IntKind.wrap .i64 ((m : Int) + 1))))) (hm : m < 9223372036854775807) :
  (binSem .add t x y (.int .i64 (m : Int)) (.int .i64 1)).run P w = .ok (.value (.int .i64 ((m + 1 : Nat) : Int))) w :=
 bin_run h (by rw [wrap_i64 (by omega) (by omega)]; rfl)
def sliceSem (T : TypeId) (x : Value) (lo hi mx : Option Value) : Sem Next := do
 let v ← Instr.sliceAt T x lo hi mx
 pure (.value v)
theorem front_run {T E : TypeId} {b o n c m sz : Nat} {kk : IntKind} (w : World) (hT : P.underlying T = some (.slice E)) (hs : cellsN P E = some sz) (hm : m ≤ c) :
  (sliceSem T (.slice (some ⟨b, o, none⟩) n c) none (some (.int kk m)) none).run P w = .ok (.value (.slice (some ⟨b, o, none⟩) m c)) w := by
 have hu : (underlying T).run P w = .ok (.slice E) w := by simp [underlying, program, hT, Sem.run, Result.andThen]
 obtain ⟨i, hi, hsz⟩ := Option.map_eq_some_iff.1 hs
 have hz : (sizeOf E).run P w = .ok sz w := by simp [sizeOf, typeInfo, program, hi, hsz, Sem.run, Result.andThen]
 have hb : (Instr.sliceBounds true n c none (some (.int kk m)) none).run P w = .ok (0, m, c) w := by
  have h0 : (0 : Int) ≤ m ∧ (m : Int) ≤ c := by omega
  simp [Instr.sliceBounds, Instr.sliceBound, asIntOf, h0, hm]
 have ha : Addr.add ⟨b, o, none⟩ 0 = ⟨b, o, none⟩ := by simp [Addr.add]
 simp [sliceSem, Instr.sliceAt, Instr.slice, hu, hz, hb, ha, Result.andThen]
end
end
end Go.Proofs.Ytcncfmjfgdbfeab
namespace Go.Proofs.Ytcncfmjfgdbfeab
set_option maxRecDepth 100000
set_option maxHeartbeats 4000000
open Go.RowKit
def HE.disown : HE → HE
 | .obj _ b cs T => .obj false b cs T
 | .row b off sz n f => .row b off sz n f
theorem Sat.read {w0 w : World} {bs : List Nat} {hp : List HE} (h : Sat w0 bs hp w) (is : List Nat) (hp' : List HE) (e : is.filterMap (fun i => (hp[i]?).map HE.disown) = hp') : Sat w [] hp' w := by
 subst e
 have own : ∀ e ∈ is.filterMap (fun i => (hp[i]?).map HE.disown), e.own = false ∧ e.holds w [] w := fun e he => by
  obtain ⟨i, _, hi⟩ := List.mem_filterMap.1 he
  obtain ⟨e0, h0, rfl⟩ := Option.map_eq_some_iff.1 hi
  have h1 := h.holds e0 (List.mem_of_getElem? h0)
  cases e0 with
  | obj o b cs T => exact ⟨rfl, h1.1, fun e => by cases e⟩
  | row b off sz n f => exact ⟨rfl, h1⟩
 refine ⟨.refl _ _, fun e he => (own e he).2, fun i j e e' _ hi _ ho => ?_⟩
 rw [(own e (List.mem_of_getElem? hi)).1] at ho
 cases ho
def owned : List HE → List Nat
 | [] => []
 | .obj true b _ _ :: r => b :: owned r
 | _ :: r => owned r
theorem mem_owned {b : Nat} {cs : List Value} {T : TypeId} : ∀ {hp : List HE}, HE.obj true b cs T ∈ hp → b ∈ owned hp
 | .obj true b' cs' T' :: r, h => by
  rcases List.mem_cons.1 h with h | h
  ·cases h; exact List.mem_cons_self ..
  exact List.mem_cons_of_mem _ (mem_owned h)
 | .obj false b' cs' T' :: r, h => by
  rcases List.mem_cons.1 h with h | h
  ·cases h
  exact mem_owned (hp := r) h
 | .row _ _ _ _ _ :: r, h => by
  rcases List.mem_cons.1 h with h | h
  ·cases h
  exact mem_owned (hp := r) h
theorem owned_mem {b : Nat} : ∀ {hp : List HE}, b ∈ owned hp → ∃ cs T, HE.obj true b cs T ∈ hp
 | .obj true b' cs' T' :: r, h => by
  rcases List.mem_cons.1 h with rfl | h
  ·exact ⟨_, _, List.mem_cons_self ..⟩
  obtain ⟨cs, T, h⟩ := owned_mem h; exact ⟨cs, T, List.mem_cons_of_mem _ h⟩
 | .obj false b' cs' T' :: r, h => by obtain ⟨cs, T, h⟩ := owned_mem (hp := r) h; exact ⟨cs, T, List.mem_cons_of_mem _ h⟩
 | .row _ _ _ _ _ :: r, h => by obtain ⟨cs, T, h⟩ := owned_mem (hp := r) h; exact ⟨cs, T, List.mem_cons_of_mem _ h⟩
theorem Sat.rebase {w0 w : World} {bs : List Nat} {hp : List HE} (h : Sat w0 bs hp w) : Sat w (owned hp) hp w := by
 refine ⟨.refl _ _, fun e he => ?_, h.apart⟩
 have h1 := h.holds e he
 cases e with
 | obj o b cs T =>
  refine ⟨h1.1, fun ho => ?_⟩
  subst ho
  exact .inr (mem_owned he)
 | row b off sz n f => exact h1
theorem Sat.unbase {w0 w w' : World} {bs : List Nat} {hp hp' : List HE} (h : Sat w0 bs hp w) (h' : Sat w (owned hp) hp' w') : Sat w0 bs hp' w' := by
 have hb : ∀ b ∈ owned hp, w0.heap.size ≤ b ∨ b ∈ bs := fun b hb => by
  obtain ⟨cs, T, hm⟩ := owned_mem hb
  exact (h.holds _ hm).2 rfl
 refine ⟨?_, fun e he => ?_, h'.apart⟩
 ·refine ⟨h'.kept.os.trans h.kept.os, h'.kept.tape.trans h.kept.tape, h'.kept.output.trans h.kept.output, Nat.le_trans h.kept.size h'.kept.size, fun k hk hn => ?_⟩
  rw [h'.kept.block k (Nat.lt_of_lt_of_le hk h.kept.size) (fun hm => by rcases hb k hm with h1 | h1; omega; exact hn h1), h.kept.block k hk hn]
 have h1 := h'.holds e he
 cases e with
 | obj o b cs T =>
  refine ⟨h1.1, fun ho => ?_⟩
  rcases h1.2 ho with h2 | h2
  ·exact .inl (Nat.le_trans h.kept.size h2)
  exact hb b h2
 | row b off sz n f => exact h1
abbrev nodC (n : Nod) : List Value := [.int .i64 n.kind, .int .i64 n.font, .int .u8 n.char, .int .i64 n.w, .int .i64 n.h, .int .i64 n.d, .int .i64 n.shift, .int .i64 n.nat, .int .i64 n.str, .int .i64 n.shr, .int .i64 n.so, .int .i64 n.sho, .int .i64 n.sign, .int .i64 n.ord, .int .i64 n.num, .int .i64 n.den, .int .i64 n.pen, .int .i64 n.sub, .string n.text]
def nth (l : List Nod) (k : Nat) : Nod := l.getD k zeroN
def rowOf (l : List Nod) : Nat → List Value := fun k => nodC (nth l k)
def brokenB (n : Nod) : Bool := n.kind == 1 || n.kind == 2 || n.kind == 8 || n.kind == 3 || n.kind == 4 || n.kind == 5
theorem broken_any (n : Nod) (w : World) :
  Calls Try.prog 115 #[nodV n] w fun e w' => e = .returned (.bool (brokenB n)) ∧ Kept w w' := by
 refine g_enter (args := [nodV n]) [] [] Try.func115 rfl Try.ntmps115 kL (sat0 w) ?_
 refine g0 ?_
 refine gN fun b0 hb0 => ?_
 refine gA ([0]) 0 ?_
 refine g_dec 5 (n.kind == 1) kR (fun h5 => ?_) (fun h5 => ?_)
 ·refine gA [] 2 ?_
  refine gR (Value.bool true) fun w' hs => ?_
  exact ⟨ret_bool (by clear hs; (try simp at *); simp [brokenB, *]), hs.kk⟩
 refine gA [] 1 ?_
 refine g_dec 5 (n.kind == 2) kR (fun h5 => ?_) (fun h5 => ?_)
 ·refine gA [] 2 ?_
  refine gR (Value.bool true) fun w' hs => ?_
  exact ⟨ret_bool (by clear hs; (try simp at *); simp [brokenB, *]), hs.kk⟩
 refine gA [] 1 ?_
 refine g_dec 5 (n.kind == 8) kR (fun h5 => ?_) (fun h5 => ?_)
 ·refine gA [] 2 ?_
  refine gR (Value.bool true) fun w' hs => ?_
  exact ⟨ret_bool (by clear hs; (try simp at *); simp [brokenB, *]), hs.kk⟩
 refine gA [] 1 ?_
 refine g_dec 5 (n.kind == 3) kR (fun h5 => ?_) (fun h5 => ?_)
 ·refine gA [] 2 ?_
  refine gR (Value.bool true) fun w' hs => ?_
  exact ⟨ret_bool (by clear hs; (try simp at *); simp [brokenB, *]), hs.kk⟩
 refine gA [] 1 ?_
 refine g_dec 5 (n.kind == 4) kR (fun h5 => ?_) (fun h5 => ?_)
 ·refine gA [] 2 ?_
  refine gR (Value.bool true) fun w' hs => ?_
  exact ⟨ret_bool (by clear hs; (try simp at *); simp [brokenB, *]), hs.kk⟩
 refine gA [] 1 ?_
 refine g_dec 5 (n.kind == 5) kR (fun h5 => ?_) (fun h5 => ?_)
 ·refine gA [] 1 ?_
  refine gR (Value.bool true) fun w' hs => ?_
  exact ⟨ret_bool (by clear hs; (try simp at *); simp [brokenB, *]), hs.kk⟩
 refine gA [] 1 ?_
 refine gR (Value.bool false) fun w' hs => ?_
 exact ⟨ret_bool (by clear hs; (try simp at *); simp [brokenB, *]), hs.kk⟩
theorem indisc0 (bw : Nat) (v1 v2 v4 : Value) (base : Option Addr) (co : Nat) (w : World) (hq : Sat w [] [.obj false bw [v1, v2, .slice base 0 co, v4] 122] w) :
  Calls Try.prog 114 #[.pointer (some ⟨bw, 0, none⟩)] w fun e w' => e = .returned (.bool false) ∧ Kept w w' := by
 refine g_enter (args := [.pointer (some ⟨bw, 0, none⟩)]) [] [.obj false bw [v1, v2, .slice base 0 co, v4] 122] Try.func114 rfl Try.ntmps114 kL (hq) ?_
 refine gA ([0]) 0 ?_
 refine gD 22 ?_
 refine lA [] 17 ?_
 refine lE ?_
 refine gR (Value.bool false) fun w' hs => ?_
 exact ⟨rfl, hs.kk⟩
theorem indisc1 (l : List Nod) (bw bl ol cl bo co m a : Nat) (oc : List Value) (v2 v4 : Value) (w : World) (hq : Sat w [] [.obj false bw [.slice (some ⟨bl, ol, none⟩) l.length cl, v2, .slice (some ⟨bo, 0, none⟩) (m + 1) co, v4] 122, .row bl ol 19 l.length (rowOf l), .obj false bo oc 140] w) (hm : m ≤ 9223372036854775807) (ha : a < l.length) (hoc : oc[0 + m * 2]? = some (.int .i64 (a : Int))) :
  Calls Try.prog 114 #[.pointer (some ⟨bw, 0, none⟩)] w fun e w' => e = .returned (.bool (decide ((nth l a).kind = 10))) ∧ Kept w w' := by
 refine g_enter (args := [.pointer (some ⟨bw, 0, none⟩)]) [] [.obj false bw [.slice (some ⟨bl, ol, none⟩) l.length cl, v2, .slice (some ⟨bo, 0, none⟩) (m + 1) co, v4] 122, .row bl ol 19 l.length (rowOf l), .obj false bo oc 140] Try.func114 rfl Try.ntmps114 kL (hq) ?_
 refine gU 9 ([0]) 0 ?_
 refine g_val _ _ ?_ (fun w _hs => len_pred (P := Try.prog) (t := 3) (x := .tmp 8) (y := .const (.int .i64 1)) (m := m) (w := w) kR hm) ?_
 ·kernel_rfl
 refine g0 ?_
 refine gD 22 ?_
 refine lU 23 ([0, 0]) 10 ?_
 refine l_val _ _ ?_ (fun w _hs => .inl (idx_run (P := Try.prog) (T := 120) (E := 140) (b := bo) (o := 0) (n := m + 1) (c := co) (k := m) (sz := 2) (kk := .i64) w kR kR (Nat.lt_succ_self m))) ?_
 ·kernel_rfl
 refine lU 25 [] 1 ?_
 refine l_val _ _ ?_ (fun w _hs => .inl (Sat.objload1 (T := 3) (T' := 140) (i := 2) (b := bo) (k := 0 + m * 2) (own := false) (cs := oc) (v := .int .i64 (a : Int)) _hs kR hoc kR)) ?_
 ·kernel_rfl
 refine l_val _ _ ?_ (fun w _hs => .inl (idx_run (P := Try.prog) (T := 22) (E := 55) (b := bl) (o := ol) (n := l.length) (c := cl) (k := a) (sz := 19) (kk := .i64) w kR kR ha)) ?_
 ·kernel_rfl
 refine lU 28 [] 1 ?_
 refine l_val _ _ ?_ (fun w _hs => .inl (Sat.rowload1 (T := 3) (i := 1) (b := bl) (off := ol) (sz := 19) (n := l.length) (k := a) (j := 0) (f := rowOf l) (v := .int .i64 (nth l a).kind) _hs kR ha kR rfl)) ?_
 ·kernel_rfl
 refine lA [] 1 ?_
 refine lE ?_
 refine gR (Value.bool ((nth l a).kind == 10)) fun w' hs => ?_
 exact ⟨rfl, hs.kk⟩
end Go.Proofs.Ytcncfmjfgdbfeab
namespace Go.Proofs.Ytcncfmjfgdbfeab
set_option maxRecDepth 100000
set_option maxHeartbeats 4000000
open Go.RowKit
def opC (os : List (Nat × Nat)) : List Value := os.flatMap fun p => [.int .i64 (p.1 : Int), .int .i64 (p.2 : Int)]
theorem opC_length : ∀ os : List (Nat × Nat), (opC os).length = os.length * 2
 | [] => rfl
 | p :: r => by
  have := opC_length r
  simp only [opC, List.flatMap_cons, List.length_append, List.length_cons, List.length_nil] at *
  omega
theorem opC_append (a b : List (Nat × Nat)) : opC (a ++ b) = opC a ++ opC b := by simp [opC]
def OpenIs (os : List (Nat × Nat)) (base : Option Addr) (cap : Nat) (e : HE) : Prop :=
 (base = none ∧ os = [] ∧ cap = 0) ∨ ∃ bo oc, base = some ⟨bo, 0, none⟩ ∧ e = .obj true bo oc 140 ∧ oc.length = cap * 2 ∧ os.length ≤ cap ∧ oc.take (os.length * 2) = opC os
theorem OpenIs.last {os : List (Nat × Nat)} {p : Nat × Nat} {base : Option Addr} {cap : Nat} {e : HE} (h : OpenIs (os ++ [p]) base cap e) :
  ∃ bo oc, base = some ⟨bo, 0, none⟩ ∧ e = .obj true bo oc 140 ∧ oc.length = cap * 2 ∧ os.length + 1 ≤ cap ∧ oc.take ((os.length + 1) * 2) = opC (os ++ [p]) ∧
   oc[0 + os.length * 2]? = some (.int .i64 (p.1 : Int)) ∧ oc[0 + os.length * 2 + 1]? = some (.int .i64 (p.2 : Int)) := by
 rcases h with ⟨_, h, _⟩ | ⟨bo, oc, h1, h2, h3, h4, h5⟩
 ·simp at h
 simp only [List.length_append, List.length_cons, List.length_nil, Nat.zero_add] at h4 h5
 have hl := opC_length os
 refine ⟨bo, oc, h1, h2, h3, h4, h5, ?_, ?_⟩
 ·have : (oc.take ((os.length + 1) * 2))[os.length * 2]? = some (.int .i64 (p.1 : Int)) := by
   rw [h5, opC_append, ← hl, List.getElem?_append_right (Nat.le_refl _), Nat.sub_self]; rfl
  rw [List.getElem?_take, if_pos (by omega)] at this
  rwa [Nat.zero_add]
 have : (oc.take ((os.length + 1) * 2))[os.length * 2 + 1]? = some (.int .i64 (p.2 : Int)) := by
  rw [h5, opC_append, ← hl, List.getElem?_append_right (by omega), Nat.add_sub_cancel_left]; rfl
 rw [List.getElem?_take, if_pos (by omega)] at this
 rwa [Nat.zero_add]
def inDiscB (l : List Nod) (os : List (Nat × Nat)) : Bool := match os.getLast? with
 | some p => decide ((nth l p.1).kind = 10)
 | none => false
abbrev walkHp (l : List Nod) (bw bl ol cl bb : Nat) (beh : List Value) (base : Option Addr) (m cap : Nat) (d : Int) (e : HE) : List HE :=
 [.obj true bw [.slice (some ⟨bl, ol, none⟩) l.length cl, .slice (some ⟨bb, 0, none⟩) l.length l.length, .slice base m cap, .int .i64 d] 122, .row bl ol 19 l.length (rowOf l), .obj true bb beh 3, e]
def deep (d : Int) (m : Nat) : Int := if ((m + 1 : Nat) : Int) > d then ((m + 1 : Nat) : Int) else d
theorem Sat.at {w0 w : World} {bs : List Nat} {hp hp' : List HE} (h : Sat w0 bs hp w) (e : hp = hp') : Sat w0 bs hp' w := e ▸ h
theorem Sat.take {w0 w : World} {bs : List Nat} {hp : List HE} (h : Sat w0 bs hp w) (n : Nat) : Sat w0 bs (hp.take n) w :=
 ⟨h.kept, fun e he => h.holds e (List.mem_of_mem_take he), fun i j e e' hij hi hj => h.apart i j e e' hij (by rw [List.getElem?_take] at hi; split at hi; exact hi; cases hi) (by rw [List.getElem?_take] at hj; split at hj; exact hj; cases hj)⟩
theorem info_of {P : Program} {E : TypeId} {sz by_ : Nat} (h : ((P.info? E).map fun ti => (ti.size, ti.bytes, ti.zero.map fun z => z.cells.size)) = some (sz, by_, some sz)) :
  ∃ ti z, P.info? E = some ti ∧ ti.zero = some z ∧ ti.size = sz ∧ ti.bytes = by_ ∧ z.cells.size = sz := by
 obtain ⟨ti, h1, h2⟩ := Option.map_eq_some_iff.1 h
 simp only [Prod.mk.injEq] at h2
 obtain ⟨h3, h4, h5⟩ := h2
 obtain ⟨z, h6, h7⟩ := Option.map_eq_some_iff.1 h5
 exact ⟨ti, z, h1, h6, h3, h4, h7⟩
theorem OpenIs.row {os : List (Nat × Nat)} {base : Option Addr} {cap : Nat} {e : HE} (h : OpenIs os base cap e) :
  ∃ oc : List Value, oc.take (os.length * 2) = opC os ∧ ∀ hp : List HE, hp[3]? = some e → RowAt hp 3 base os.length cap 2 oc 140 := by
 rcases h with ⟨h1, h2, h3⟩ | ⟨bo, oc, h1, h2, h3, h4, h5⟩
 ·subst h2
  exact ⟨[], rfl, fun hp hh => ⟨(List.getElem?_eq_some_iff.1 hh).1, .inl ⟨h1, rfl, h3⟩⟩⟩
 exact ⟨oc, h5, fun hp hh => ⟨(List.getElem?_eq_some_iff.1 hh).1, .inr ⟨bo, h1, by rw [hh, h2], h3, h4⟩⟩⟩
theorem OpenIs.grow {os : List (Nat × Nat)} {p : Nat × Nat} {b' cap' : Nat} {oc cs' : List Value} (h : oc.take (os.length * 2) = opC os) (hc : os.length + 1 ≤ cap') (hl : cs'.length = cap' * 2)
  (ht : cs'.take ((os.length + 1) * 2) = oc.take (os.length * 2) ++ [.int .i64 (p.1 : Int), .int .i64 (p.2 : Int)]) : OpenIs (os ++ [p]) (some ⟨b', 0, none⟩) cap' (.obj true b' cs' 140) :=
 .inr ⟨b', cs', rfl, rfl, hl, by simpa using hc, by
  rw [show (os ++ [p]).length = os.length + 1 by simp, ht, h, opC_append]; rfl⟩
theorem indisc_any (l : List Nod) (bw bl ol cl bb : Nat) (beh : List Value) (base : Option Addr) (cap : Nat) (d : Int) (e : HE) (os : List (Nat × Nat)) (w0 : World) (bs : List Nat) (w : World)
  (hq : Sat w0 bs (walkHp l bw bl ol cl bb beh base os.length cap d e) w) (ho : OpenIs os base cap e) (hos : ∀ p ∈ os, p.1 < l.length) (hm : os.length < 9223372036854775807) :
  Calls Try.prog 114 #[.pointer (some ⟨bw, 0, none⟩)] w fun e w' => e = .returned (.bool (inDiscB l os)) ∧ Kept w w' := by
 rcases List.eq_nil_or_concat os with rfl | ⟨os, p, rfl⟩
 ·exact indisc0 bw _ _ _ _ _ w (hq.read [0] _ rfl)
 rw [List.concat_eq_append] at *
 obtain ⟨bo, oc, rfl, rfl, _, _, _, h1, _⟩ := ho.last
 simp only [List.length_append, List.length_cons, List.length_nil, Nat.zero_add] at hq hm
 have h2 : inDiscB l (os ++ [p]) = decide ((nth l p.1).kind = 10) := by simp [inDiscB]
 rw [h2]
 exact indisc1 l bw bl ol cl bo cap os.length p.1 oc _ _ w (hq.read [0, 1, 3] _ rfl) (by omega) (hos p (by simp)) h1
theorem begin_any (l : List Nod) (bw bl ol cl bb : Nat) (beh : List Value) (base : Option Addr) (cap : Nat) (d : Int) (e : HE) (os : List (Nat × Nat)) (at_ : Nat) (w0 : World) (bs : List Nat) (w : World) (hq : Sat w0 bs (walkHp l bw bl ol cl bb beh base os.length cap d e) w) (ho : OpenIs os base cap e) (hos : ∀ p ∈ os, p.1 < l.length) (hm : os.length < 9223372036854775807) (hat : at_ < l.length) :
  Calls Try.prog 113 #[.pointer (some ⟨bw, 0, none⟩), .int .i64 (at_ : Int)] w fun e' w' => e' = .returned (.bool (!inDiscB l os || brokenB (nth l at_))) ∧ Sat w0 bs (walkHp l bw bl ol cl bb beh base os.length cap (deep d os.length) e) w' := by
 refine g_enter (args := [.pointer (some ⟨bw, 0, none⟩), .int .i64 (at_ : Int)]) (owned (walkHp l bw bl ol cl bb beh base os.length cap d e)) (walkHp l bw bl ol cl bb beh base os.length cap d e) Try.func113 rfl Try.ntmps113 kL hq.rebase ?_
 refine g0 ?_
 refine gD 14 ?_
 refine lU 15 ([0, 0]) 0 ?_
 refine l_val _ _ ?_ (fun w _hs => .inl (nat_succ (P := Try.prog) (t := 3) (x := .tmp 14) (y := .const (.int .i64 1)) (m := os.length) (w := w) kR hm)) ?_
 ·kernel_rfl
 refine l0 ?_
 refine lE ?_
 refine gA ([0]) 0 ?_
 refine g_callq _ _ _ ?_ (fun w hs => indisc_any l bw bl ol cl bb beh base cap (deep d os.length) e os _ _ w (hs.at kR) ho hos hm) ?_
 ·kernel_rfl
 refine g0 ?_
 refine g_dec 22 (!inDiscB l os) kR (fun h22 => ?_) (fun h22 => ?_)
 ·refine gA [] 9 ?_
  refine gR (Value.bool true) fun w' hs => ?_
  exact ⟨ret_bool (by clear hs; (try simp at *); simp [*]), hq.unbase (hs.at kR)⟩
 refine gU 29 ([0]) 6 ?_
 refine g_val _ _ ?_ (fun w _hs => idx_run (P := Try.prog) (T := 22) (E := 55) (b := bl) (o := ol) (n := l.length) (c := cl) (k := at_) (sz := 19) (kk := .i64) w kR kR hat) ?_
 ·kernel_rfl
 refine g_val _ _ ?_ (fun w _hs => Sat.rowload (T := 55) (i := 1) (b := bl) (off := ol) (sz := 19) (n := l.length) (k := at_) (f := rowOf l) _hs kR hat kR kR rfl) ?_
 ·kernel_rfl
 refine g_callq _ _ _ ?_ (fun w hs => broken_any (nth l at_) w) ?_
 ·kernel_rfl
 refine g0 ?_
 refine gR (Value.bool (brokenB (nth l at_))) fun w' hs => ?_
 exact ⟨ret_bool (by clear hs; (try simp at *); simp [*]), hq.unbase (hs.at kR)⟩
theorem stand_any (l : List Nod) (bw bl ol cl bb : Nat) (beh : List Value) (base : Option Addr) (cap : Nat) (d : Int) (e : HE) (os : List (Nat × Nat)) (at_ : Nat) (w0 : World) (bs : List Nat) (w : World) (hq : Sat w0 bs (walkHp l bw bl ol cl bb beh base os.length cap d e) w) (ho : OpenIs os base cap e) (hos : ∀ p ∈ os, p.1 < l.length) (hm : os.length < 9223372036854775807) (hat : at_ < l.length)(hbeh : beh.length = l.length) (hn : l.length < 9223372036854775807) :
  Calls Try.prog 103 #[.pointer (some ⟨bw, 0, none⟩), .int .i64 (at_ : Int)] w fun e' w' => e' = .returned (.bool (!inDiscB l os || brokenB (nth l at_))) ∧ Sat w0 bs (walkHp l bw bl ol cl bb (beh.set at_ (.int .i64 ((at_ + 1 : Nat) : Int))) base os.length cap (deep d os.length) e) w' := by
 refine g_enter (args := [.pointer (some ⟨bw, 0, none⟩), .int .i64 (at_ : Int)]) (owned (walkHp l bw bl ol cl bb beh base os.length cap d e)) (walkHp l bw bl ol cl bb beh base os.length cap d e) Try.func103 rfl Try.ntmps103 kL hq.rebase ?_
 refine gU 12 ([0]) 0 ?_
 refine g_val _ _ ?_ (fun w _hs => nat_succ (P := Try.prog) (t := 3) (x := .tmp 11) (y := .const (.int .i64 1)) (m := at_) (w := w) kR (by omega)) ?_
 ·kernel_rfl
 refine g_val _ _ ?_ (fun w _hs => idx_run (P := Try.prog) (T := 41) (E := 3) (b := bb) (o := 0) (n := l.length) (c := l.length) (k := at_) (sz := 1) (kk := .i64) w kR kR hat) ?_
 ·kernel_rfl
 refine g_store1 2 3 3 bb (0 + at_ * 1) beh (.int .i64 ((at_ + 1 : Nat) : Int)) kR kR (by omega) rfl kR ?_
 refine g0 ?_
 refine g_call (X := Unit) _ _ ?_ (fun _ => .bool (!inDiscB l os || brokenB (nth l at_))) (fun _ => walkHp l bw bl ol cl bb (beh.set (0 + at_ * 1) (.int .i64 ((at_ + 1 : Nat) : Int))) base os.length cap (deep d os.length) e) (fun w hs => ((begin_any l bw bl ol cl bb _ base cap d e os at_ _ _ w (hs.at kR) ho hos hm hat).mono fun _ _ h => ⟨(), h.1, h.2⟩)) (fun _ => ?_)
 ·kernel_rfl
 refine g0 ?_
 refine gR (Value.bool (!inDiscB l os || brokenB (nth l at_))) fun w' hs => ?_
 exact ⟨rfl, hq.unbase (hs.at (by rw [show 0 + at_ * 1 = at_ by omega]; kernel_rfl))⟩
theorem enter_any (l : List Nod) (bw bl ol cl bb : Nat) (beh : List Value) (base : Option Addr) (cap : Nat) (d : Int) (e : HE) (os : List (Nat × Nat)) (at_ : Nat) (w0 : World) (bs : List Nat) (w : World) (hq : Sat w0 bs (walkHp l bw bl ol cl bb beh base os.length cap d e) w) (ho : OpenIs os base cap e) (hos : ∀ p ∈ os, p.1 < l.length) (hm : os.length < 9223372036854775807) (hat : at_ < l.length)(hf : (os.length + 1) * 16 ≤ 140737488355328) :
  Calls Try.prog 104 #[.pointer (some ⟨bw, 0, none⟩), .int .i64 (at_ : Int)] w fun e' w' => e' = .returned (.bool (!inDiscB l os || brokenB (nth l at_))) ∧ ∃ base' cap' e2, OpenIs (os ++ [(at_, 0)]) base' cap' e2 ∧ Sat w0 bs (walkHp l bw bl ol cl bb beh base' (os.length + 1) cap' (deep d os.length) e2) w' := by
 obtain ⟨oc, htk, hro⟩ := ho.row
 refine g_enter (args := [.pointer (some ⟨bw, 0, none⟩), .int .i64 (at_ : Int)]) (owned (walkHp l bw bl ol cl bb beh base os.length cap d e)) (walkHp l bw bl ol cl bb beh base os.length cap d e) Try.func104 rfl Try.ntmps104 kL hq.rebase ?_
 refine g0 ?_
 refine g_call (X := Unit) _ _ ?_ (fun _ => .bool (!inDiscB l os || brokenB (nth l at_))) (fun _ => walkHp l bw bl ol cl bb beh base os.length cap (deep d os.length) e) (fun w hs => ((begin_any l bw bl ol cl bb _ base cap d e os at_ _ _ w (hs.at kR) ho hos hm hat).mono fun _ _ h => ⟨(), h.1, h.2⟩)) (fun _ => ?_)
 ·kernel_rfl
 refine gA ([0]) 0 ?_
 refine gN fun b4 hb4 => ?_
 refine g_append 3 4 120 140 140 base os.length cap 2 1 1 b4 16 oc [.int .i64 (at_ : Int), .int .i64 0] true kR kR kR (info_of kR) (hro _ kR) kR rfl (by simp [Value.oneCell']) (by omega) (by omega) (by omega) fun b' cap' cs' _hb' hc' hl' ht' => ?_
 refine gA ([0]) 0 ?_
 refine gR (Value.bool (!inDiscB l os || brokenB (nth l at_))) fun w' hs => ?_
 exact ⟨rfl, some ⟨b', 0, none⟩, cap', .obj true b' cs' 140, OpenIs.grow (p := (at_, 0)) htk hc' hl' ht', hq.unbase ((hs.take 4).at kR)⟩
end Go.Proofs.Ytcncfmjfgdbfeab
