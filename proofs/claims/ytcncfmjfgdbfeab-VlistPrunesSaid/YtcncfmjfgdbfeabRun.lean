/- Whole runs of closed calls, reckoned by the kernel: tries of whatever, what is known of memory, the computations that the kernel reckons. -/
import Derived.Test.YtcncfmjfgdbfeabFast12
import Derived.RangeFuncRecord
namespace Go.Proofs.Ytcncfmjfgdbfeab
open Go.RowKit
namespace Run
noncomputable section
/-! ### tries -/
inductive T (α : Type) where
 | nil
 | node (v : Option α) (l r : T α)
def T.get {α : Type} (t : T α) : Nat → Option α :=
 @T.rec α (fun _ => Nat → Option α) (fun _ => none)
  (fun v _ _ gl gr i => @Nat.rec (fun _ => Option α) v (fun j _ => @Bool.rec (fun _ => Option α) (gr (Nat.div j (nat_lit 2))) (gl (Nat.div j (nat_lit 2))) (Nat.beq (Nat.mod j (nat_lit 2)) (nat_lit 0))) i) t
def T.sing {α : Type} (v : α) : Nat → Nat → T α :=
 @Nat.rec (fun _ => Nat → T α) (fun _ => .nil) (fun _ ih i => @Nat.rec (fun _ => T α) (.node (some v) .nil .nil) (fun j _ => @Bool.rec (fun _ => T α) (.node none .nil (ih (Nat.div j (nat_lit 2)))) (.node none (ih (Nat.div j (nat_lit 2))) .nil) (Nat.beq (Nat.mod j (nat_lit 2)) (nat_lit 0))) i)
def T.set {α : Type} (t : T α) (i : Nat) (v : α) : T α :=
 @T.rec α (fun _ => Nat → T α) (fun i => T.sing v (Nat.succ i) i)
  (fun u l r sl sr i => @Nat.rec (fun _ => T α) (.node (some v) l r) (fun j _ => @Bool.rec (fun _ => T α) (.node u l (sr (Nat.div j (nat_lit 2)))) (.node u (sl (Nat.div j (nat_lit 2))) r) (Nat.beq (Nat.mod j (nat_lit 2)) (nat_lit 0))) i) t i
@[simp] theorem T.get_nil {α : Type} (i : Nat) : (T.nil : T α).get i = none := rfl
@[simp] theorem T.get_zero {α : Type} (v : Option α) (l r : T α) : (T.node v l r).get 0 = v := rfl
theorem T.get_succ {α : Type} (v : Option α) (l r : T α) (i : Nat) : (T.node v l r).get (i + 1) = bif Nat.beq (i % 2) 0 then l.get (i / 2) else r.get (i / 2) := by
 show @Bool.rec (fun _ => Option α) (r.get (i / 2)) (l.get (i / 2)) (Nat.beq (i % 2) 0) = _
 cases Nat.beq (i % 2) 0 <;> rfl
theorem T.sing_zero {α : Type} (v : α) (f : Nat) : T.sing v (f + 1) 0 = .node (some v) .nil .nil := rfl
theorem T.sing_succ {α : Type} (v : α) (f i : Nat) : T.sing v (f + 1) (i + 1) = bif Nat.beq (i % 2) 0 then T.node none (T.sing v f (i / 2)) .nil else T.node none .nil (T.sing v f (i / 2)) := by
 show @Bool.rec (fun _ => T α) (T.node none .nil (T.sing v f (i / 2))) (T.node none (T.sing v f (i / 2)) .nil) (Nat.beq (i % 2) 0) = _
 cases Nat.beq (i % 2) 0 <;> rfl
theorem T.set_nil {α : Type} (i : Nat) (v : α) : (T.nil : T α).set i v = T.sing v (i + 1) i := rfl
theorem T.set_zero {α : Type} (u : Option α) (v : α) (l r : T α) : (T.node u l r).set 0 v = .node (some v) l r := rfl
theorem T.set_succ {α : Type} (u : Option α) (v : α) (l r : T α) (i : Nat) : (T.node u l r).set (i + 1) v = bif Nat.beq (i % 2) 0 then T.node u (l.set (i / 2) v) r else T.node u l (r.set (i / 2) v) := by
 show @Bool.rec (fun _ => T α) (T.node u l (r.set (i / 2) v)) (T.node u (l.set (i / 2) v) r) (Nat.beq (i % 2) 0) = _
 cases Nat.beq (i % 2) 0 <;> rfl
theorem T.get_key {α : Type} (u : Option α) (l r L R : T α) (i j : Nat) (v : Option α) (hl : ∀ j, L.get j = if j = i / 2 then v else l.get j) (hr : ∀ j, R.get j = if j = i / 2 then v else r.get j) :
  (bif Nat.beq (i % 2) 0 then T.node u L r else T.node u l R).get j = if j = i + 1 then v else (T.node u l r).get j := by
 cases j with
 | zero => cases hb : Nat.beq (i % 2) 0 <;> simp
 | succ j =>
  cases hb : Nat.beq (i % 2) 0 <;> cases hc : Nat.beq (j % 2) 0
  ·simp only [cond_false, T.get_succ, hc, hr, Nat.add_right_cancel_iff]
   have h1 : i % 2 ≠ 0 := fun e => by rw [e] at hb; cases hb
   have h2 : j % 2 ≠ 0 := fun e => by rw [e] at hc; cases hc
   by_cases e : j / 2 = i / 2
   ·rw [if_pos e, if_pos (by omega)]
   rw [if_neg e, if_neg (by omega)]
  ·simp only [cond_false, cond_true, T.get_succ, hc, Nat.add_right_cancel_iff]
   have h1 : i % 2 ≠ 0 := fun e => by rw [e] at hb; cases hb
   have h2 : j % 2 = 0 := Nat.eq_of_beq_eq_true hc
   rw [if_neg (by omega)]
  ·simp only [cond_false, cond_true, T.get_succ, hc, Nat.add_right_cancel_iff]
   have h1 : i % 2 = 0 := Nat.eq_of_beq_eq_true hb
   have h2 : j % 2 ≠ 0 := fun e => by rw [e] at hc; cases hc
   rw [if_neg (by omega)]
  simp only [cond_true, T.get_succ, hc, hl, Nat.add_right_cancel_iff]
  have h1 : i % 2 = 0 := Nat.eq_of_beq_eq_true hb
  have h2 : j % 2 = 0 := Nat.eq_of_beq_eq_true hc
  by_cases e : j / 2 = i / 2
  ·rw [if_pos e, if_pos (by omega)]
  rw [if_neg e, if_neg (by omega)]
theorem T.get_sing {α : Type} (v : α) : ∀ (f i j : Nat), i < f → (T.sing v f i).get j = if j = i then some v else none := by
 intro f
 induction f with
 | zero => intro i j h; omega
 | succ f ih =>
  intro i j h
  cases i with
  | zero =>
   rw [T.sing_zero]
   cases j with
   | zero => simp
   | succ j => rw [T.get_succ]; cases Nat.beq (j % 2) 0 <;> simp
  | succ i =>
   rw [T.sing_succ, T.get_key none .nil .nil _ _ i j (some v) (fun j => by rw [ih _ _ (by omega), T.get_nil]) (fun j => by rw [ih _ _ (by omega), T.get_nil])]
   congr 1
   cases j with
   | zero => simp
   | succ j => rw [T.get_succ]; cases Nat.beq (j % 2) 0 <;> simp
theorem T.get_set {α : Type} (t : T α) (i j : Nat) (v : α) : (t.set i v).get j = if j = i then some v else t.get j := by
 induction t generalizing i j with
 | nil => rw [T.set_nil, T.get_sing v _ _ _ (Nat.lt_succ_self i), T.get_nil]
 | node u l r hl hr =>
  cases i with
  | zero =>
   rw [T.set_zero]
   cases j with
   | zero => simp
   | succ j => simp [T.get_succ]
  | succ i => rw [T.set_succ]; exact T.get_key u l r _ _ i j (some v) (fun j => hl _ j) (fun j => hr _ j)
def T.map {α : Type} (f : α → α) : T α → T α
 | .nil => .nil
 | .node v l r => .node (v.map f) (l.map f) (r.map f)
theorem T.get_map {α : Type} (f : α → α) : ∀ (t : T α) (i : Nat), (t.map f).get i = (t.get i).map f
 | .nil, i => by simp [T.map]
 | .node v l r, i => by
  cases i with
  | zero => simp [T.map]
  | succ i =>
   simp only [T.map, T.get_succ]
   cases Nat.beq (i % 2) 0 with
   | true => simp only [cond_true]; exact T.get_map f l _
   | false => simp only [cond_false]; exact T.get_map f r _
/-! ### rows of cells, as tries -/
structure L where
 n : Nat
 t : T Value
def L.val (t : T Value) (i : Nat) : Value := match t.get i with
 | some v => v
 | none => undef
def L.l (c : L) : List Value := (List.range c.n).map (L.val c.t)
def L.get? (c : L) (i : Nat) : Option Value := bif Nat.ble (i + 1) c.n then some (L.val c.t i) else none
def L.set (c : L) (i : Nat) (v : Value) : L := ⟨c.n, c.t.set i v⟩
def L.take (c : L) (m : Nat) : L := ⟨bif Nat.ble m c.n then m else c.n, c.t⟩
def setL (t : T Value) : Nat → List Value → T Value
 | _, [] => t
 | i, v :: l => setL (t.set i v) (i + 1) l
def L.app (c : L) (l : List Value) : L := ⟨c.n + l.length, setL c.t c.n l⟩
def L.ofList (l : List Value) : L := L.app ⟨0, .nil⟩ l
def seg (t : T Value) : Nat → Nat → List Value
 | _, 0 => []
 | i, n + 1 => L.val t i :: seg t (i + 1) n
@[simp] theorem L.len (c : L) : c.l.length = c.n := by simp [L.l]
theorem L.get_eq (c : L) (i : Nat) : c.get? i = c.l[i]? := by
 unfold L.get? L.l
 cases h : Nat.ble (i + 1) c.n with
 | true =>
  have := Nat.le_of_ble_eq_true h
  rw [cond_true, List.getElem?_map, List.getElem?_range (by omega)]
  rfl
 | false =>
  have : ¬ i + 1 ≤ c.n := fun e => by rw [Nat.ble_eq_true_of_le e] at h; cases h
  rw [cond_false, List.getElem?_map, List.getElem?_eq_none (by simp; omega)]
  rfl
theorem val_set (t : T Value) (i j : Nat) (v : Value) : L.val (t.set i v) j = if j = i then v else L.val t j := by
 unfold L.val
 rw [T.get_set]
 by_cases e : j = i
 ·rw [if_pos e, if_pos e]
 rw [if_neg e, if_neg e]
@[simp] theorem L.set_l (c : L) (i : Nat) (v : Value) : (c.set i v).l = c.l.set i v := by
 apply List.ext_getElem?
 intro j
 unfold L.l L.set
 rw [List.getElem?_set]
 simp only [List.getElem?_map, List.length_map, List.length_range]
 by_cases hj : j < c.n
 ·rw [List.getElem?_range hj]
  by_cases e : i = j
  ·subst e
   simp [val_set, hj]
  simp [val_set, e, Ne.symm e]
 rw [List.getElem?_eq_none (by simp; omega)]
 by_cases e : i = j
 ·subst e
  simp [hj]
 simp [e]
@[simp] theorem L.take_l (c : L) (m : Nat) : (c.take m).l = c.l.take m := by
 unfold L.l L.take
 rw [← List.map_take]
 congr 1
 cases h : Nat.ble m c.n with
 | true =>
  have := Nat.le_of_ble_eq_true h
  rw [cond_true, List.take_range]
  congr 1
  show m = min m c.n
  omega
 | false =>
  have : ¬ m ≤ c.n := fun e => by rw [Nat.ble_eq_true_of_le e] at h; cases h
  rw [cond_false, List.take_range]
  congr 1
  show c.n = min m c.n
  omega
theorem val_setL : ∀ (l : List Value) (t : T Value) (i j : Nat), L.val (setL t i l) j = if j < i then L.val t j else (match l[j - i]? with | some v => v | none => L.val t j)
 | [], t, i, j => by simp [setL]
 | v :: l, t, i, j => by
  rw [setL, val_setL l, val_set]
  by_cases h1 : j < i
  ·rw [if_pos (by omega), if_pos h1, if_neg (by omega)]
  rw [if_neg h1]
  by_cases h2 : j = i
  ·subst h2
   simp
  rw [if_neg (by omega), if_neg h2, show j - i = (j - (i + 1)) + 1 by omega]
  rfl
@[simp] theorem L.app_l (c : L) (l : List Value) : (c.app l).l = c.l ++ l := by
 apply List.ext_getElem?
 intro j
 unfold L.l L.app
 rw [List.getElem?_append]
 simp only [List.getElem?_map, List.length_map, List.length_range]
 by_cases hj : j < c.n
 ·rw [List.getElem?_range (by omega), if_pos hj, List.getElem?_range hj]
  simp [val_setL, hj]
 rw [if_neg hj]
 by_cases h2 : j < c.n + l.length
 ·rw [List.getElem?_range h2]
  have h3 : j - c.n < l.length := by omega
  simp [val_setL, hj, List.getElem?_eq_getElem h3]
 rw [List.getElem?_eq_none (by simp; omega), List.getElem?_eq_none (by omega)]
 rfl
@[simp] theorem L.ofList_l (l : List Value) : (L.ofList l).l = l := by
 unfold L.ofList
 rw [L.app_l]
 simp [L.l]
theorem seg_len (t : T Value) : ∀ (n i : Nat), (seg t i n).length = n
 | 0, _ => rfl
 | n + 1, i => by simp [seg, seg_len t n]
theorem seg_get (t : T Value) : ∀ (n i j : Nat), j < n → (seg t i n)[j]? = some (L.val t (i + j))
 | n + 1, i, 0, _ => by simp [seg]
 | n + 1, i, j + 1, h => by
  simp only [seg, List.getElem?_cons_succ]
  rw [seg_get t n (i + 1) j (by omega), show i + 1 + j = i + (j + 1) by omega]
/-! ### what is known of memory -/
inductive MK where
 | cells (cs : L) (E : TypeId)
 /-- room for c elements of sz cells; the first ones are known; fz: a string's bytes may stand ahead of what is behind -/
 | part (fz : Bool) (c sz : Nat) (cs : L) (E : TypeId)
 | ob (o : Obj)
 | lp (st : LoopState) (pend : Option Code) (n : Nat) (t : Tr) (ps : Array Tmp) (assign body : Code) (defers : Nat)
structure ME where
 own : Bool
 b : Nat
 k : MK
def noCells : Obj → Bool
 | .cells .. => false
 | _ => true
def MK.ok : MK → Obj → Prop
 | .cells cs E, o => o = .cells cs.l.toArray E (0, 0)
 | .part fz c sz cs E, o => ∃ rest fr, o = .cells (cs.l ++ rest).toArray E fr ∧ cs.n + rest.length = c * sz ∧ (fr = (0, 0) ∨ (fz = true ∧ c * sz ≤ fr.1))
 | .ob o', o => o = o' ∧ noCells o' = true
 | .lp st pend n t ps assign body defers, o => ∃ fn tmps, o = .loop { state := st, pending := pend, fn, tmps, params := ps, assign, body, defers } ∧ tmps.size = n ∧ ∀ i v, t.get i = some v → tmps[i]? = some v
structure Bse where
 w : World
 X : List (Nat × Obj)
structure SatR (w0 : Bse) (hp : T ME) (w : World) : Prop where
 kept : Kept w0.w w
 holds : ∀ i e, hp.get i = some e → ∃ o, w.heap[e.b]? = some o ∧ e.k.ok o
 own : ∀ i e, hp.get i = some e → e.own = true → w0.w.heap.size ≤ e.b
 apart : ∀ i j e e', i ≠ j → hp.get i = some e → hp.get j = some e' → e.own = true → e.b ≠ e'.b
 prot : ∀ p ∈ w0.X, w.heap[p.1]? = some p.2
 far : ∀ p ∈ w0.X, ∀ i e, hp.get i = some e → e.b ≠ p.1
theorem SatR.lt {w0 : Bse} {w : World} {hp : T ME} (h : SatR w0 hp w) {i : Nat} {e : ME} (hi : hp.get i = some e) : e.b < w.heap.size := by
 obtain ⟨o, ho, _⟩ := h.holds i e hi
 exact (Array.getElem?_eq_some_iff.1 ho).1
theorem SatR.plt {w0 : Bse} {w : World} {hp : T ME} (h : SatR w0 hp w) {p : Nat × Obj} (hp' : p ∈ w0.X) : p.1 < w.heap.size := (Array.getElem?_eq_some_iff.1 (h.prot p hp')).1
theorem SatR.of_kept {w0 : Bse} {w w' : World} {hp : T ME} (h : SatR w0 hp w) (k : Kept w w') : SatR w0 hp w' :=
 ⟨h.kept.trans k, fun i e hi => by
  obtain ⟨o, ho, hk⟩ := h.holds i e hi
  exact ⟨o, (k.block _ (h.lt hi)).trans ho, hk⟩, h.own, h.apart, fun p hp' => (k.block _ (h.plt hp')).trans (h.prot p hp'), h.far⟩
theorem SatR.draw {w0 : Bse} {w : World} {hp : T ME} (h : SatR w0 hp w) (n : Nat) : SatR w0 hp { w with drawn := n } :=
 h.of_kept ⟨rfl, rfl, rfl, Nat.le_refl _, fun _ _ => rfl⟩
theorem SatR.upd {w0 : Bse} {w w' : World} {hp : T ME} (h : SatR w0 hp w) {i : Nat} {e : ME} (hi : hp.get i = some e) (ho : e.own = true) (k' : MK) {o' : Obj}
  (h1 : w'.os = w.os) (h2 : w'.tape = w.tape) (h3 : w'.output = w.output) (hsz : w'.heap.size = w.heap.size) (hb : w'.heap[e.b]? = some o') (hk : k'.ok o') (hne : ∀ k, k ≠ e.b → w'.heap[k]? = w.heap[k]?) :
  SatR w0 (hp.set i ⟨true, e.b, k'⟩) w' := by
 have hown := h.own i e hi ho
 refine ⟨⟨h1.trans h.kept.os, h2.trans h.kept.tape, h3.trans h.kept.output, by rw [hsz]; exact h.kept.size, fun k hk => ?_⟩, fun j f hj => ?_, fun j f hj hf => ?_, fun j l f f' hjl hj hl hf => ?_, fun p hp' => ?_, fun p hp' j f hj => ?_⟩
 ·rw [hne k (by omega)]
  exact h.kept.block k hk
 ·rw [T.get_set] at hj
  by_cases ej : j = i
  ·rw [if_pos ej] at hj
   obtain rfl := Option.some.inj hj
   exact ⟨o', hb, hk⟩
  rw [if_neg ej] at hj
  obtain ⟨o, h4, h5⟩ := h.holds j f hj
  exact ⟨o, (hne _ (h.apart i j e f (fun e' => ej e'.symm) hi hj ho).symm).trans h4, h5⟩
 ·rw [T.get_set] at hj
  by_cases ej : j = i
  ·rw [if_pos ej] at hj
   obtain rfl := Option.some.inj hj
   exact hown
  rw [if_neg ej] at hj
  exact h.own j f hj hf
 ·rw [T.get_set] at hj hl
  by_cases ej : j = i <;> by_cases el : l = i
  ·omega
  ·rw [if_pos ej] at hj; rw [if_neg el] at hl
   obtain rfl := Option.some.inj hj
   exact h.apart i l e f' (fun e' => el e'.symm) hi hl ho
  ·rw [if_neg ej] at hj; rw [if_pos el] at hl
   obtain rfl := Option.some.inj hl
   exact h.apart j i f e ej hj hi hf
  rw [if_neg ej] at hj; rw [if_neg el] at hl
  exact h.apart j l f f' hjl hj hl hf
 ·rw [hne _ (h.far p hp' i e hi).symm]
  exact h.prot p hp'
 rw [T.get_set] at hj
 by_cases ej : j = i
 ·rw [if_pos ej] at hj
  obtain rfl := Option.some.inj hj
  exact h.far p hp' i e hi
 rw [if_neg ej] at hj
 exact h.far p hp' j f hj
theorem SatR.new' {w0 : Bse} {w w' : World} {hp : T ME} (h : SatR w0 hp w) (i : Nat) (k : MK) {o : Obj} (hkept : Kept w w') (ho : w'.heap[w.heap.size]? = some o) (hk : k.ok o) : SatR w0 (hp.set i ⟨true, w.heap.size, k⟩) w' := by
 have h' := h.of_kept hkept
 refine ⟨h'.kept, fun j f hj => ?_, fun j f hj hf => ?_, fun j l f f' hjl hj hl hf => ?_, h'.prot, fun p hp' j f hj => ?_⟩
 ·rw [T.get_set] at hj
  by_cases ej : j = i
  ·rw [if_pos ej] at hj
   obtain rfl := Option.some.inj hj
   exact ⟨o, ho, hk⟩
  rw [if_neg ej] at hj
  exact h'.holds j f hj
 ·rw [T.get_set] at hj
  by_cases ej : j = i
  ·rw [if_pos ej] at hj
   obtain rfl := Option.some.inj hj
   exact h.kept.size
  rw [if_neg ej] at hj
  exact h.own j f hj hf
 ·rw [T.get_set] at hj hl
  by_cases ej : j = i <;> by_cases el : l = i
  ·omega
  ·rw [if_pos ej] at hj; rw [if_neg el] at hl
   obtain rfl := Option.some.inj hj
   have := h.lt hl
   exact fun e => by
    have e2 : w.heap.size = f'.b := e
    omega
  ·rw [if_neg ej] at hj; rw [if_pos el] at hl
   obtain rfl := Option.some.inj hl
   have := h.lt hj
   exact fun e => by
    have e2 : f.b = w.heap.size := e
    omega
  rw [if_neg ej] at hj; rw [if_neg el] at hl
  exact h.apart j l f f' hjl hj hl hf
 rw [T.get_set] at hj
 by_cases ej : j = i
 ·rw [if_pos ej] at hj
  obtain rfl := Option.some.inj hj
  have := h.plt hp'
  exact fun e => by
   have e2 : w.heap.size = p.1 := e
   omega
 rw [if_neg ej] at hj
 exact h.far p hp' j f hj
theorem SatR.new {w0 : Bse} {w : World} {hp : T ME} (h : SatR w0 hp w) (i : Nat) (k : MK) {o : Obj} (hk : k.ok o) : SatR w0 (hp.set i ⟨true, w.heap.size, k⟩) (w.alloc o) :=
 h.new' i k ((Kept.refl w).alloc (Nat.le_refl _) o) (World.alloc_heap_new w o) hk
theorem SatR.float {w0 : Bse} {w : World} {hp : T ME} (h : SatR w0 hp w) (o : Obj) : SatR ⟨w0.w, (w.heap.size, o) :: w0.X⟩ hp (w.alloc o) := by
 have hkept : Kept w (w.alloc o) := (Kept.refl w).alloc (Nat.le_refl _) o
 have h' := h.of_kept hkept
 refine ⟨h'.kept, h'.holds, h'.own, h'.apart, fun p hp' => ?_, fun p hp' i e hi => ?_⟩
 ·rcases List.mem_cons.1 hp' with rfl | hp'
  ·exact World.alloc_heap_new w o
  exact h'.prot p hp'
 rcases List.mem_cons.1 hp' with rfl | hp'
 ·exact Nat.ne_of_lt (h.lt hi)
 exact h.far p hp' i e hi
theorem SatR.land {w0 : Bse} {w : World} {hp : T ME} {b : Nat} {o : Obj} (h : SatR ⟨w0.w, (b, o) :: w0.X⟩ hp w) (hb : w0.w.heap.size ≤ b) (hx : ∀ p ∈ w0.X, p.1 ≠ b) (i : Nat) (k : MK) (hk : k.ok o) : SatR w0 (hp.set i ⟨true, b, k⟩) w := by
 refine ⟨h.kept, fun j f hj => ?_, fun j f hj hf => ?_, fun j l f f' hjl hj hl hf => ?_, fun p hp' => h.prot p (List.mem_cons_of_mem _ hp'), fun p hp' j f hj => ?_⟩
 ·rw [T.get_set] at hj
  by_cases ej : j = i
  ·rw [if_pos ej] at hj
   obtain rfl := Option.some.inj hj
   exact ⟨o, h.prot (b, o) (by simp), hk⟩
  rw [if_neg ej] at hj
  exact h.holds j f hj
 ·rw [T.get_set] at hj
  by_cases ej : j = i
  ·rw [if_pos ej] at hj
   obtain rfl := Option.some.inj hj
   exact hb
  rw [if_neg ej] at hj
  exact h.own j f hj hf
 ·rw [T.get_set] at hj hl
  by_cases ej : j = i <;> by_cases el : l = i
  ·omega
  ·rw [if_pos ej] at hj; rw [if_neg el] at hl
   obtain rfl := Option.some.inj hj
   exact (h.far (b, o) (by simp) l f' hl).symm
  ·rw [if_neg ej] at hj; rw [if_pos el] at hl
   obtain rfl := Option.some.inj hl
   exact h.far (b, o) (by simp) j f hj
  rw [if_neg ej] at hj; rw [if_neg el] at hl
  exact h.apart j l f f' hjl hj hl hf
 rw [T.get_set] at hj
 by_cases ej : j = i
 ·rw [if_pos ej] at hj
  obtain rfl := Option.some.inj hj
  exact (hx p hp').symm
 rw [if_neg ej] at hj
 exact h.far p (List.mem_cons_of_mem _ hp') j f hj
def ro (hp : T ME) : T ME := hp.map fun e => { e with own := false }
theorem SatR.ro {w0 : Bse} {w : World} {hp : T ME} (h : SatR w0 hp w) : SatR ⟨w, []⟩ (Run.ro hp) w := by
 have hg : ∀ i e, (Run.ro hp).get i = some e → e.own = false ∧ ∃ e', hp.get i = some e' ∧ e'.b = e.b ∧ e'.k = e.k := fun i e hi => by
  unfold Run.ro at hi
  rw [T.get_map] at hi
  obtain ⟨e', h1, h2⟩ := Option.map_eq_some_iff.1 hi
  subst h2
  exact ⟨rfl, e', h1, rfl, rfl⟩
 refine ⟨Kept.refl w, fun i e hi => ?_, fun i e hi ho => ?_, fun i j e e' _ hi _ ho => ?_, fun p hp' => (by cases hp'), fun p hp' => (by cases hp')⟩
 ·obtain ⟨_, e', h1, h2, h3⟩ := hg i e hi
  rw [← h2, ← h3]
  exact h.holds i e' h1
 ·rw [(hg i e hi).1] at ho; cases ho
 rw [(hg i e hi).1] at ho; cases ho
/-! ### computations over what is known; addresses get names out of a supply -/
structure Mem where
 hp : T ME
 n : Nat
 i : Nat
 hs : List Nat
 eqs : List (List (Nat × Nat))
 out : List Nat
def AllE (l : List (List (Nat × Nat))) : Prop := ∀ c ∈ l, AllEq c
def M (α : Type) : Type := (Nat → Nat) → Mem → Option (α × Mem)
def M.ret {α : Type} (a : α) : M α := fun _ m => some (a, m)
def M.fail {α : Type} : M α := fun _ _ => none
def M.bind {α β : Type} (x : M α) (f : α → M β) : M β := fun A m => match x A m with
 | some (a, m') => f a A m'
 | none => none
def fresh : M Nat := fun A m => match m with
 | ⟨hp, n, i, hs, eqs, out⟩ => some (A i, ⟨hp, n, i + 1, hs, eqs, out⟩)
def addEq (p : Nat × Nat) : List (List (Nat × Nat)) → List (List (Nat × Nat))
 | [] => [[p]]
 | c :: l => (p :: c) :: l
def findB (hp : T ME) (b : Nat) : Nat → Option (Nat × ME)
 | 0 => none
 | n + 1 => match hp.get n with
  | some e => bif Nat.beq e.b b then some (n, e) else findB hp b n
  | none => findB hp b n
def hint : M Nat := fun _ m => match m with
 | ⟨hp, n, i, hs, eqs, out⟩ => match hs with
  | [] => none
  | h :: hs => match h with
   | 0 => match hs with
    | [] => none
    | h :: hs => match h with
     | 0 => none
     | h + 1 => some (h, ⟨hp, n, i, hs, [] :: eqs, out⟩)
   | h + 1 => some (h, ⟨hp, n, i, hs, eqs, out⟩)
def loc (fd : Bool) (b : Nat) : M (Nat × ME) := fun A m => match fd with
 | true => match m with
  | ⟨hp, n, i, hs, eqs, out⟩ => match findB hp b n with
   | some (j, e) => some ((j, e), ⟨hp, n, i, hs, eqs, (j + 1) :: out⟩)
   | none => none
 | false => match hint A m with
  | some (h, ⟨hp, n, i, hs, eqs, out⟩) => match hp.get h with
   | some e => some ((h, e), ⟨hp, n, i, hs, addEq (b, e.b) eqs, out⟩)
   | none => none
  | none => none
def pick (fd : Bool) (c : T ME → Nat → Nat) : M Nat := fun A m => match fd with
 | true => match m with
  | ⟨hp, n, i, hs, eqs, out⟩ => match c hp n with
   | k => some (k, ⟨hp, n, i, hs, eqs, (k + 1) :: out⟩)
 | false => match hint A m with
  | some (h, m) => some (h, m)
  | none => none
def same (a b : Nat) : M Unit := fun _ m => match m with
 | ⟨hp, n, i, hs, eqs, out⟩ => some ((), ⟨hp, n, i, hs, addEq (a, b) eqs, out⟩)
def putE (j : Nat) (e : ME) : M Unit := fun _ m => match m with
 | ⟨hp, n, i, hs, eqs, out⟩ => match hp.get j with
  | some e0 => match e0.own, e.own with
   | true, true => some ((), ⟨hp.set j e, n, i, hs, eqs, out⟩)
   | _, _ => none
  | none => none
def pushE (e : ME) : M Unit := fun _ m => match m with
 | ⟨hp, n, i, hs, eqs, out⟩ => match e.own with
  | true => some ((), ⟨hp.set n e, n + 1, i, hs, eqs, out⟩)
  | false => none
theorem putE_some {j : Nat} {e : ME} {A : Nat → Nat} {m m' : Mem} {u : Unit} (h : putE j e A m = some (u, m')) : (∃ e0, m.hp.get j = some e0 ∧ e0.own = true) ∧ e.own = true ∧ m' = { m with hp := m.hp.set j e } := by
 unfold putE at h
 obtain ⟨hp, n, i, hs, eqs, out⟩ := m
 simp only at h
 split at h
 ·rename_i e0 h0
  split at h
  ·rename_i h1 h2
   simp only [Option.some.injEq, Prod.mk.injEq] at h
   exact ⟨⟨e0, h0, h1⟩, h2, h.2.symm⟩
  cases h
 cases h
theorem pushE_some {e : ME} {A : Nat → Nat} {m m' : Mem} {u : Unit} (h : pushE e A m = some (u, m')) : e.own = true ∧ m' = { m with hp := m.hp.set m.n e, n := m.n + 1 } := by
 unfold pushE at h
 obtain ⟨hp, n, i, hs, eqs, out⟩ := m
 simp only at h
 split at h
 ·rename_i h1
  simp only [Option.some.injEq, Prod.mk.injEq] at h
  exact ⟨h1, h.2.symm⟩
 cases h
structure Keep (m m' : Mem) : Prop where
 n : m.n ≤ m'.n
 keep : ∀ k e, k < m.n → m.hp.get k = some e → e.own = false → m'.hp.get k = some e
 conv : ∀ k e, m'.hp.get k = some e → e.own = false → m.hp.get k = some e
theorem Keep.refl (m : Mem) : Keep m m := ⟨Nat.le_refl _, fun _ _ _ h _ => h, fun _ _ h _ => h⟩
theorem Keep.trans {a b c : Mem} (h : Keep a b) (k : Keep b c) : Keep a c :=
 ⟨Nat.le_trans h.n k.n, fun i e hi he ho => k.keep i e (Nat.lt_of_lt_of_le hi h.n) (h.keep i e hi he ho) ho, fun i e he ho => h.conv i e (k.conv i e he ho) ho⟩
theorem Keep.same {m m' : Mem} (h : m'.hp = m.hp) (hn : m'.n = m.n) : Keep m m' := ⟨by rw [hn]; exact Nat.le_refl _, fun _ _ _ h' _ => by rw [h]; exact h', fun _ _ h' _ => by rw [h] at h'; exact h'⟩
theorem allE_addEq {p : Nat × Nat} : ∀ {l : List (List (Nat × Nat))}, AllE (addEq p l) → p.1 = p.2 ∧ AllE l
 | [], h => ⟨(h [p] (by simp [addEq])).1, fun c hc => by cases hc⟩
 | c :: l, h => by
  have h1 := h (p :: c) (by simp [addEq])
  exact ⟨h1.1, fun c' hc' => by
   rcases List.mem_cons.1 hc' with rfl | hc'
   ·exact h1.2
   exact h c' (by simp [addEq, hc'])⟩
theorem allE_nil_cons {l : List (List (Nat × Nat))} (h : AllE ([] :: l)) : AllE l := fun c hc => h c (by simp [hc])
structure Good {α : Type} (x : M α) : Prop where
 le : ∀ {A m a m'}, x A m = some (a, m') → m.i ≤ m'.i
 eqs : ∀ {A m a m'}, x A m = some (a, m') → AllE m'.eqs → AllE m.eqs
 loc : ∀ {A m a m'}, x A m = some (a, m') → ∀ A', (∀ j, j < m'.i → A' j = A j) → x A' m = some (a, m')
 keep : ∀ {A m a m'}, x A m = some (a, m') → Keep m m'
theorem Good.ret {α : Type} (a : α) : Good (M.ret a) :=
 ⟨fun h => by simp only [M.ret, Option.some.injEq, Prod.mk.injEq] at h; rw [← h.2]; exact Nat.le_refl _,
  fun h he => by simp only [M.ret, Option.some.injEq, Prod.mk.injEq] at h; rw [h.2]; exact he,
  fun h _ _ => h, fun h => by simp only [M.ret, Option.some.injEq, Prod.mk.injEq] at h; rw [← h.2]; exact .refl _⟩
theorem Good.fail {α : Type} : Good (M.fail : M α) := ⟨fun {A m a m'} h => (by cases h), fun {A m a m'} h => (by cases h), fun {A m a m'} h => (by cases h), fun {A m a m'} h => (by cases h)⟩
theorem Good.cond {α : Type} {b : Bool} {x y : M α} (hx : Good x) (hy : Good y) : Good (bif b then x else y) := by cases b; exact hy; exact hx
theorem bind_some {α β : Type} {x : M α} {f : α → M β} {A : Nat → Nat} {m m2 : Mem} {b : β} (h : (x.bind f) A m = some (b, m2)) : ∃ a m1, x A m = some (a, m1) ∧ f a A m1 = some (b, m2) := by
 unfold M.bind at h
 split at h
 ·rename_i a m1 h1
  exact ⟨a, m1, h1, h⟩
 cases h
theorem bind_of {α β : Type} {x : M α} {f : α → M β} {A : Nat → Nat} {m m1 : Mem} {a : α} (h : x A m = some (a, m1)) : (x.bind f) A m = f a A m1 := by
 unfold M.bind; rw [h]
theorem M.bind_assoc {α β γ : Type} (x : M α) (f : α → M β) (g : β → M γ) : (x.bind f).bind g = x.bind fun a => (f a).bind g := by
 funext A m
 simp only [M.bind]
 cases x A m with
 | none => rfl
 | some p => rfl
theorem Good.bind {α β : Type} {x : M α} {f : α → M β} (hx : Good x) (hf : ∀ a, Good (f a)) : Good (x.bind f) := by
 refine ⟨fun h => ?_, fun h he => ?_, fun h A' hA => ?_, fun h => ?_⟩
 rotate_right
 ·obtain ⟨a, m1, h1, h2⟩ := bind_some h
  exact (hx.keep h1).trans ((hf a).keep h2)
 ·obtain ⟨a, m1, h1, h2⟩ := bind_some h
  exact Nat.le_trans (hx.le h1) ((hf a).le h2)
 ·obtain ⟨a, m1, h1, h2⟩ := bind_some h
  exact hx.eqs h1 ((hf a).eqs h2 he)
 obtain ⟨a, m1, h1, h2⟩ := bind_some h
 have hle := (hf a).le h2
 rw [bind_of (hx.loc h1 A' fun j hj => hA j (by omega))]
 exact (hf a).loc h2 A' hA
theorem Good.fresh : Good Run.fresh := by
 refine ⟨fun h => ?_, fun h he => ?_, fun {A m a m'} h A' hA => ?_, fun h => by simp only [Run.fresh, Option.some.injEq, Prod.mk.injEq] at h; rw [← h.2]; exact .same rfl rfl⟩
 ·simp only [Run.fresh, Option.some.injEq, Prod.mk.injEq] at h; rw [← h.2]; exact Nat.le_succ _
 ·simp only [Run.fresh, Option.some.injEq, Prod.mk.injEq] at h; rw [← h.2] at he; exact he
 simp only [Run.fresh, Option.some.injEq, Prod.mk.injEq] at h ⊢
 rw [← h.2] at hA
 exact ⟨(hA m.i (Nat.lt_succ_self _)).trans h.1, h.2⟩
theorem Good.hint : Good Run.hint := by
 have key : ∀ {A m a m'}, Run.hint A m = some (a, m') → m.i = m'.i ∧ (AllE m'.eqs → AllE m.eqs) ∧ (∀ A', Run.hint A' m = some (a, m')) ∧ Keep m m' := by
  intro A m a m' h
  refine ⟨?_, ?_, fun _ => h, ?_⟩
  all_goals
   unfold Run.hint at h
   obtain ⟨hp, n, i, hs, eqs, out⟩ := m
   simp only at h
   split at h
   ·cases h
   split at h
   ·split at h
    ·cases h
    split at h
    ·cases h
    simp only [Option.some.injEq, Prod.mk.injEq] at h
    obtain ⟨_, rfl⟩ := h
    first | rfl | exact allE_nil_cons | exact .same rfl rfl
   simp only [Option.some.injEq, Prod.mk.injEq] at h
   obtain ⟨_, rfl⟩ := h
   first | rfl | exact id | exact .same rfl rfl
 exact ⟨fun h => Nat.le_of_eq (key h).1, fun h => (key h).2.1, fun h A' _ => (key h).2.2.1 A', fun h => (key h).2.2.2⟩
theorem hint_hp {A : Nat → Nat} {m m' : Mem} {a : Nat} (h : hint A m = some (a, m')) : m'.hp = m.hp ∧ m'.n = m.n ∧ m'.i = m.i ∧ (AllE m'.eqs → AllE m.eqs) := by
 refine ⟨?_, ?_, ?_, Good.hint.eqs h⟩
 all_goals
  unfold hint at h
  obtain ⟨hp, n, i, hs, eqs, out⟩ := m
  simp only at h
  split at h
  ·cases h
  split at h
  ·split at h
   ·cases h
   split at h
   ·cases h
   simp only [Option.some.injEq, Prod.mk.injEq] at h
   obtain ⟨_, rfl⟩ := h
   rfl
  simp only [Option.some.injEq, Prod.mk.injEq] at h
  obtain ⟨_, rfl⟩ := h
  rfl
theorem loc_some {A : Nat → Nat} {b : Nat} {m m' : Mem} {j : Nat} {e : ME} (h : loc false b A m = some ((j, e), m')) : m.hp.get j = some e ∧ m'.hp = m.hp ∧ m'.n = m.n ∧ m'.i = m.i ∧ (AllE m'.eqs → b = e.b ∧ AllE m.eqs) ∧ ∀ A', loc false b A' m = some ((j, e), m') := by
 have h0 := h
 unfold loc at h
 simp only at h
 split at h
 ·rename_i k hp n i hs eqs out hh
  obtain ⟨h1, h2, h3, h4⟩ := hint_hp hh
  split at h
  ·rename_i e' he
   simp only [Option.some.injEq, Prod.mk.injEq] at h
   obtain ⟨⟨rfl, rfl⟩, rfl⟩ := h
   simp only at h1 h2 h3 h4
   subst h1 h2 h3
   exact ⟨he, rfl, rfl, rfl, fun hE => ⟨(allE_addEq hE).1, h4 (allE_addEq hE).2⟩, fun _ => h0⟩
  cases h
 cases h
theorem Good.locB (b : Nat) : Good (Run.loc false b) :=
 ⟨fun {A m a m'} h => by obtain ⟨j, e⟩ := a; exact Nat.le_of_eq (loc_some h).2.2.2.1.symm, fun {A m a m'} h he => by obtain ⟨j, e⟩ := a; exact ((loc_some h).2.2.2.2.1 he).2, fun {A m a m'} h A' _ => by obtain ⟨j, e⟩ := a; exact (loc_some h).2.2.2.2.2 A', fun {A m a m'} h => by obtain ⟨j, e⟩ := a; exact .same (loc_some h).2.1 (loc_some h).2.2.1⟩
theorem pick_some {A : Nat → Nat} {c : T ME → Nat → Nat} {m m' : Mem} {k : Nat} (h : pick false c A m = some (k, m')) : m'.hp = m.hp ∧ m'.n = m.n ∧ m'.i = m.i ∧ (AllE m'.eqs → AllE m.eqs) ∧ ∀ A', pick false c A' m = some (k, m') := by
 have h0 := h
 unfold pick at h
 simp only at h
 split at h
 ·rename_i k' m1 hh
  obtain ⟨h1, h2, h3, h4⟩ := hint_hp hh
  simp only [Option.some.injEq, Prod.mk.injEq] at h
  obtain ⟨_, rfl⟩ := h
  exact ⟨h1, h2, h3, h4, fun _ => h0⟩
 cases h
theorem Good.pick (c : T ME → Nat → Nat) : Good (Run.pick false c) :=
 ⟨fun h => Nat.le_of_eq (pick_some h).2.2.1.symm, fun h he => (pick_some h).2.2.2.1 he, fun h A' _ => (pick_some h).2.2.2.2 A', fun h => .same (pick_some h).1 (pick_some h).2.1⟩
theorem Good.same (a b : Nat) : Good (Run.same a b) := by
 refine ⟨fun h => ?_, fun h he => ?_, fun h _ _ => h, fun h => by simp only [Run.same, Option.some.injEq, Prod.mk.injEq] at h; rw [← h.2]; exact .same rfl rfl⟩
 ·simp only [Run.same, Option.some.injEq, Prod.mk.injEq] at h; rw [← h.2]; exact Nat.le_refl _
 simp only [Run.same, Option.some.injEq, Prod.mk.injEq] at h; rw [← h.2] at he; exact (allE_addEq he).2
theorem Good.putE (j : Nat) (e : ME) : Good (Run.putE j e) := by
 refine ⟨fun h => ?_, fun h he => ?_, fun h _ _ => h, fun {A m a m'} h => ?_⟩
 ·rw [(putE_some h).2.2]; exact Nat.le_refl _
 ·rw [(putE_some h).2.2] at he; exact he
 obtain ⟨⟨e0, h0, h1⟩, h2, rfl⟩ := putE_some h
 refine ⟨Nat.le_refl _, fun k f hk hf ho => ?_, fun k f hf ho => ?_⟩
 ·dsimp only
  rw [T.get_set]
  by_cases ek : k = j
  ·subst ek; rw [h0] at hf; cases hf; rw [h1] at ho; cases ho
  rw [if_neg ek]; exact hf
 dsimp only at hf
 rw [T.get_set] at hf
 by_cases ek : k = j
 ·rw [if_pos ek] at hf; cases hf; rw [h2] at ho; cases ho
 rw [if_neg ek] at hf; exact hf
theorem Good.pushE (e : ME) : Good (Run.pushE e) := by
 refine ⟨fun h => ?_, fun h he => ?_, fun h _ _ => h, fun {A m a m'} h => ?_⟩
 ·rw [(pushE_some h).2]; exact Nat.le_refl _
 ·rw [(pushE_some h).2] at he; exact he
 obtain ⟨h2, rfl⟩ := pushE_some h
 refine ⟨Nat.le_succ _, fun k f hk hf ho => ?_, fun k f hf ho => ?_⟩
 ·dsimp only
  rw [T.get_set, if_neg (Nat.ne_of_lt hk)]; exact hf
 dsimp only at hf
 rw [T.get_set] at hf
 by_cases ek : k = m.n
 ·rw [if_pos ek] at hf; cases hf; rw [h2] at ho; cases ho
 rw [if_neg ek] at hf; exact hf
def Ends {α : Type} (x : M α) (pre : Nat → Nat) (m : Mem) (K : (Nat → Nat) → α → Mem → Prop) : Prop :=
 ∀ A, (∀ j, j < m.i → A j = pre j) → ∃ a m', x A m = some (a, m') ∧ AllE m'.eqs ∧ K A a m'
theorem Ends.bind {α β : Type} {x : M α} {f : α → M β} {pre : Nat → Nat} {m : Mem} {K : (Nat → Nat) → β → Mem → Prop} (h : Ends (x.bind f) pre m K) (hx : Good x) (hf : ∀ a, Good (f a)) :
  Ends x pre m fun A a m1 => Ends (f a) A m1 K := by
 intro A hA
 obtain ⟨b, m2, h1, h2, h3⟩ := h A hA
 obtain ⟨a, m1, h4, h5⟩ := bind_some h1
 refine ⟨a, m1, h4, (hf a).eqs h5 h2, fun A' hA' => ?_⟩
 have hle := hx.le h4
 obtain ⟨b', m2', h6, h7, h8⟩ := h A' fun j hj => (hA' j (by omega)).trans (hA j hj)
 rw [bind_of (hx.loc h4 A' hA')] at h6
 exact ⟨b', m2', h6, h7, h8⟩
theorem Ends.mono {α : Type} {x : M α} {pre : Nat → Nat} {m : Mem} {K K' : (Nat → Nat) → α → Mem → Prop} (h : Ends x pre m K) (hk : ∀ A a m', K A a m' → K' A a m') : Ends x pre m K' := fun A hA =>
 let ⟨a, m', h1, h2, h3⟩ := h A hA; ⟨a, m', h1, h2, hk _ _ _ h3⟩
theorem Ends.here {α : Type} {x : M α} {pre : Nat → Nat} {m : Mem} {K : (Nat → Nat) → α → Mem → Prop} (h : Ends x pre m K) : ∃ a m', x pre m = some (a, m') ∧ AllE m'.eqs ∧ K pre a m' := h pre fun _ _ => rfl
theorem Ends.ret {α : Type} {a : α} {pre : Nat → Nat} {m : Mem} {K : (Nat → Nat) → α → Mem → Prop} (h : Ends (M.ret a) pre m K) : K pre a m := by
 obtain ⟨a', m', h1, _, h3⟩ := h.here
 simp only [M.ret, Option.some.injEq, Prod.mk.injEq] at h1
 obtain ⟨rfl, rfl⟩ := h1
 exact h3
theorem Ends.fail {α : Type} {pre : Nat → Nat} {m : Mem} {K : (Nat → Nat) → α → Mem → Prop} (h : Ends (M.fail : M α) pre m K) : False := by
 obtain ⟨a', m', h1, _⟩ := h.here
 cases h1
def upd (pre : Nat → Nat) (i b : Nat) : Nat → Nat := fun j => if j = i then b else pre j
theorem Ends.fresh {β : Type} {f : Nat → M β} {pre : Nat → Nat} {m : Mem} {K : (Nat → Nat) → β → Mem → Prop} (h : Ends (Run.fresh.bind f) pre m K) (b : Nat) : Ends (f b) (upd pre m.i b) { m with i := m.i + 1 } K := by
 intro A hA
 have hb : A m.i = b := by rw [hA m.i (Nat.lt_succ_self _)]; simp [upd]
 obtain ⟨a, m2, h1, h2⟩ := h A fun j hj => by
  rw [hA j (Nat.lt_succ_of_lt hj)]
  simp [upd, Nat.ne_of_lt hj]
 have h3 : Run.fresh A m = some (b, { m with i := m.i + 1 }) := by simp [Run.fresh, hb]
 rw [bind_of h3] at h1
 exact ⟨a, m2, h1, h2⟩
theorem Ends.loc {β : Type} {b : Nat} {f : Nat × ME → M β} {pre : Nat → Nat} {m : Mem} {K : (Nat → Nat) → β → Mem → Prop} (h : Ends ((Run.loc false b).bind f) pre m K) (hf : ∀ a, Good (f a)) :
  ∃ j e m1, m.hp.get j = some e ∧ b = e.b ∧ m1.hp = m.hp ∧ m1.n = m.n ∧ Ends (f (j, e)) pre m1 K := by
 obtain ⟨⟨j, e⟩, m1, h1, h2, h3⟩ := (h.bind (Good.locB b) hf).here
 obtain ⟨h4, h5, h6, h7, h8, _⟩ := loc_some h1
 exact ⟨j, e, m1, h4, (h8 h2).1, h5, h6, h3⟩
theorem Ends.pick {β : Type} {c : T ME → Nat → Nat} {f : Nat → M β} {pre : Nat → Nat} {m : Mem} {K : (Nat → Nat) → β → Mem → Prop} (h : Ends ((Run.pick false c).bind f) pre m K) (hf : ∀ a, Good (f a)) :
  ∃ k m1, m1.hp = m.hp ∧ m1.n = m.n ∧ Ends (f k) pre m1 K := by
 obtain ⟨k, m1, h1, h2, h3⟩ := (h.bind (Good.pick c) hf).here
 obtain ⟨h5, h6, h7, h8, _⟩ := pick_some h1
 exact ⟨k, m1, h5, h6, h3⟩
theorem Ends.same {β : Type} {a b : Nat} {f : Unit → M β} {pre : Nat → Nat} {m : Mem} {K : (Nat → Nat) → β → Mem → Prop} (h : Ends ((Run.same a b).bind f) pre m K) (hf : ∀ a, Good (f a)) :
  a = b ∧ ∃ m1, m1.hp = m.hp ∧ m1.n = m.n ∧ Ends (f ()) pre m1 K := by
 obtain ⟨u, m1, h1, h2, h3⟩ := (h.bind (Good.same a b) hf).here
 simp only [Run.same, Option.some.injEq, Prod.mk.injEq] at h1
 obtain ⟨_, rfl⟩ := h1
 exact ⟨(allE_addEq h2).1, { m with eqs := addEq (a, b) m.eqs }, rfl, rfl, h3⟩
theorem Ends.putE {β : Type} {j : Nat} {e : ME} {f : Unit → M β} {pre : Nat → Nat} {m : Mem} {K : (Nat → Nat) → β → Mem → Prop} (h : Ends ((Run.putE j e).bind f) pre m K) : Ends (f ()) pre { m with hp := m.hp.set j e } K := by
 intro A hA
 obtain ⟨b, m2, h1, h2, h3⟩ := h A hA
 obtain ⟨u, m1, h4, h5⟩ := bind_some h1
 rw [(putE_some h4).2.2] at h5
 exact ⟨b, m2, h5, h2, h3⟩
theorem Ends.pushE {β : Type} {e : ME} {f : Unit → M β} {pre : Nat → Nat} {m : Mem} {K : (Nat → Nat) → β → Mem → Prop} (h : Ends ((Run.pushE e).bind f) pre m K) : Ends (f ()) pre { m with hp := m.hp.set m.n e, n := m.n + 1 } K := by
 intro A hA
 obtain ⟨b, m2, h1, h2, h3⟩ := h A hA
 obtain ⟨u, m1, h4, h5⟩ := bind_some h1
 rw [(pushE_some h4).2] at h5
 exact ⟨b, m2, h5, h2, h3⟩
end
end Run
end Go.Proofs.Ytcncfmjfgdbfeab
