/- A second way to walk a function's text: by the kernel's own reckoning. Frames are tries of known slots; what is known of memory is a list of blocks. -/
import Derived.Test.YtlppbapofenagaaGreatDoorBase
import Derived.Deep.Quiet
namespace Go.Proofs.YtlppbapofenagaaGreatDoor
open Go.RowKit

noncomputable section
variable {P : Program}

/-! ### computations that ask the program alone -/
def runQ {α : Type} (p : Program) : Sem α → Option α
  | .pure a => some a
  | .program k => runQ p (k p)
  | .mark _ k => runQ p k
  | _ => none
theorem runQ_run {α : Type} {p : Program} : ∀ {s : Sem α} {a : α}, runQ p s = some a → ∀ w, s.run p w = .ok a w
  | .pure a, b, h, w => by simp only [runQ, Option.some.injEq] at h; subst h; rfl
  | .program k, b, h, w => by
    simp only [runQ] at h
    exact runQ_run (s := k p) h w
  | .mark m k, b, h, w => by
    simp only [runQ] at h
    exact runQ_run (s := k) h w
  | .load .., _, h, _ | .store .., _, h, _ | .new .., _, h, _ | .shape .., _, h, _ | .freeze .., _, h, _ | .frozen .., _, h, _ | .getObj .., _, h, _ | .setObj .., _, h, _ | .choose .., _, h, _ | .sys .., _, h, _ | .halt .., _, h, _ => by
    simp [runQ] at h

/-! ### tries -/
inductive Tr where
  | nil
  | node (v : Option Value) (l r : Tr)

/-- (by the recursors alone, and by numbers' own operations: what the kernel reckons fastest) -/
def Tr.get (t : Tr) : Nat → Option Value :=
  @Tr.rec (fun _ => Nat → Option Value) (fun _ => none)
    (fun v _ _ gl gr i => @Nat.rec (fun _ => Option Value) v (fun j _ => @Bool.rec (fun _ => Option Value) (gr (Nat.div j (nat_lit 2))) (gl (Nat.div j (nat_lit 2))) (Nat.beq (Nat.mod j (nat_lit 2)) (nat_lit 0))) i) t
def Tr.sing (v : Option Value) : Nat → Nat → Tr :=
  @Nat.rec (fun _ => Nat → Tr) (fun _ => .nil) (fun _ ih i => @Nat.rec (fun _ => Tr) (.node v .nil .nil) (fun j _ => @Bool.rec (fun _ => Tr) (.node none .nil (ih (Nat.div j (nat_lit 2)))) (.node none (ih (Nat.div j (nat_lit 2))) .nil) (Nat.beq (Nat.mod j (nat_lit 2)) (nat_lit 0))) i)
def Tr.set (t : Tr) (i : Nat) (v : Option Value) : Tr :=
  @Tr.rec (fun _ => Nat → Tr) (fun i => Tr.sing v (Nat.succ i) i)
    (fun u l r sl sr i => @Nat.rec (fun _ => Tr) (.node v l r) (fun j _ => @Bool.rec (fun _ => Tr) (.node u l (sr (Nat.div j (nat_lit 2)))) (.node u (sl (Nat.div j (nat_lit 2))) r) (Nat.beq (Nat.mod j (nat_lit 2)) (nat_lit 0))) i) t i
@[simp] theorem Tr.get_nil (i : Nat) : Tr.nil.get i = none := rfl
@[simp] theorem Tr.get_zero (v : Option Value) (l r : Tr) : (Tr.node v l r).get 0 = v := rfl
theorem Tr.get_succ (v : Option Value) (l r : Tr) (i : Nat) : (Tr.node v l r).get (i + 1) = bif Nat.beq (i % 2) 0 then l.get (i / 2) else r.get (i / 2) := by
  show @Bool.rec (fun _ => Option Value) (r.get (i / 2)) (l.get (i / 2)) (Nat.beq (i % 2) 0) = _
  cases Nat.beq (i % 2) 0 <;> rfl
theorem Tr.sing_zero (v : Option Value) (f : Nat) : Tr.sing v (f + 1) 0 = .node v .nil .nil := rfl
theorem Tr.sing_succ (v : Option Value) (f i : Nat) : Tr.sing v (f + 1) (i + 1) = bif Nat.beq (i % 2) 0 then Tr.node none (Tr.sing v f (i / 2)) .nil else Tr.node none .nil (Tr.sing v f (i / 2)) := by
  show @Bool.rec (fun _ => Tr) (Tr.node none .nil (Tr.sing v f (i / 2))) (Tr.node none (Tr.sing v f (i / 2)) .nil) (Nat.beq (i % 2) 0) = _
  cases Nat.beq (i % 2) 0 <;> rfl
theorem Tr.set_nil (i : Nat) (v : Option Value) : Tr.nil.set i v = Tr.sing v (i + 1) i := rfl
theorem Tr.set_zero (u v : Option Value) (l r : Tr) : (Tr.node u l r).set 0 v = .node v l r := rfl
theorem Tr.set_succ (u v : Option Value) (l r : Tr) (i : Nat) : (Tr.node u l r).set (i + 1) v = bif Nat.beq (i % 2) 0 then Tr.node u (l.set (i / 2) v) r else Tr.node u l (r.set (i / 2) v) := by
  show @Bool.rec (fun _ => Tr) (Tr.node u l (r.set (i / 2) v)) (Tr.node u (l.set (i / 2) v) r) (Nat.beq (i % 2) 0) = _
  cases Nat.beq (i % 2) 0 <;> rfl
/-- one level of both -/
theorem Tr.get_key (u : Option Value) (l r L R : Tr) (i j : Nat) (v : Option Value) (hl : ∀ j, L.get j = if j = i / 2 then v else l.get j) (hr : ∀ j, R.get j = if j = i / 2 then v else r.get j) :
    (bif Nat.beq (i % 2) 0 then Tr.node u L r else Tr.node u l R).get j = if j = i + 1 then v else (Tr.node u l r).get j := by
  cases j with
  | zero => cases hb : Nat.beq (i % 2) 0 <;> simp
  | succ j =>
    cases hb : Nat.beq (i % 2) 0 <;> cases hc : Nat.beq (j % 2) 0
    · simp only [cond_false, Tr.get_succ, hc, hr, Nat.add_right_cancel_iff]
      have h1 : i % 2 ≠ 0 := fun e => by rw [e] at hb; cases hb
      have h2 : j % 2 ≠ 0 := fun e => by rw [e] at hc; cases hc
      by_cases e : j / 2 = i / 2
      · rw [if_pos e, if_pos (by omega)]
      · rw [if_neg e, if_neg (by omega)]
    · simp only [cond_false, cond_true, Tr.get_succ, hc, Nat.add_right_cancel_iff]
      have h1 : i % 2 ≠ 0 := fun e => by rw [e] at hb; cases hb
      have h2 : j % 2 = 0 := Nat.eq_of_beq_eq_true hc
      rw [if_neg (by omega)]
    · simp only [cond_false, cond_true, Tr.get_succ, hc, Nat.add_right_cancel_iff]
      have h1 : i % 2 = 0 := Nat.eq_of_beq_eq_true hb
      have h2 : j % 2 ≠ 0 := fun e => by rw [e] at hc; cases hc
      rw [if_neg (by omega)]
    · simp only [cond_true, Tr.get_succ, hc, hl, Nat.add_right_cancel_iff]
      have h1 : i % 2 = 0 := Nat.eq_of_beq_eq_true hb
      have h2 : j % 2 = 0 := Nat.eq_of_beq_eq_true hc
      by_cases e : j / 2 = i / 2
      · rw [if_pos e, if_pos (by omega)]
      · rw [if_neg e, if_neg (by omega)]
theorem Tr.get_sing (v : Option Value) : ∀ (f i j : Nat), i < f → (Tr.sing v f i).get j = if j = i then v else none := by
  intro f
  induction f with
  | zero => intro i j h; omega
  | succ f ih =>
    intro i j h
    cases i with
    | zero =>
      rw [Tr.sing_zero]
      cases j with
      | zero => simp
      | succ j => rw [Tr.get_succ]; cases Nat.beq (j % 2) 0 <;> simp
    | succ i =>
      rw [Tr.sing_succ, Tr.get_key none .nil .nil _ _ i j v (fun j => by rw [ih _ _ (by omega), Tr.get_nil]) (fun j => by rw [ih _ _ (by omega), Tr.get_nil])]
      congr 1
      cases j with
      | zero => simp
      | succ j => rw [Tr.get_succ]; cases Nat.beq (j % 2) 0 <;> simp
theorem Tr.get_set (t : Tr) (i j : Nat) (v : Option Value) : (t.set i v).get j = if j = i then v else t.get j := by
  induction t generalizing i j with
  | nil => rw [Tr.set_nil, Tr.get_sing v _ _ _ (Nat.lt_succ_self i), Tr.get_nil]
  | node u l r hl hr =>
    cases i with
    | zero =>
      rw [Tr.set_zero]
      cases j with
      | zero => simp
      | succ j => simp [Tr.get_succ]
    | succ i => rw [Tr.set_succ]; exact Tr.get_key u l r _ _ i j v (fun j => hl _ j) (fun j => hr _ j)

/-! ### frames -/
structure Rep (n : Nat) (ds : List Deferred) (a : Act) (t : Tr) : Prop where
  size : a.tmps.size = n
  defers : a.defers = ds
  at_ : ∀ i v, t.get i = some v → a.tmps[i]? = some v

def Tr.put (n : Nat) (t : Tr) (dst : Option Tmp) (v : Value) : Tr :=
  match dst with
  | some d => bif Nat.blt d n then t.set d (some v) else t
  | none => t

theorem Rep.put {n : Nat} {ds : List Deferred} {a : Act} {t : Tr} (h : Rep n ds a t) (dst : Option Tmp) (v : Value) : Rep n ds (a.put dst v) (t.put n dst v) := by
  cases dst with
  | none => exact h
  | some d =>
    refine ⟨by simp [Act.put, h.size], by simp [Act.put, h.defers], fun i u hu => ?_⟩
    simp only [Act.put, Tr.put] at hu ⊢
    cases hb : Nat.blt d n with
    | false =>
      rw [hb, cond_false] at hu
      have hd : ¬ d < n := fun hlt => by
        have : Nat.blt d n = true := Nat.ble_eq_true_of_le hlt
        rw [this] at hb; cases hb
      have := h.at_ i u hu
      rw [Array.getElem?_setIfInBounds]
      by_cases e : d = i
      · subst e
        have hlt := (Array.getElem?_eq_some_iff.1 this).1
        exact absurd (h.size ▸ hlt) hd
      · rw [if_neg e]; exact this
    | true =>
      have hd : d < n := Nat.le_of_ble_eq_true hb
      rw [hb, cond_true, Tr.get_set] at hu
      rw [Array.getElem?_setIfInBounds]
      by_cases e : i = d
      · subst e
        rw [if_pos rfl] at hu
        rw [if_pos rfl, if_pos (h.size ▸ hd)]
        exact hu
      · rw [if_neg e] at hu
        rw [if_neg (fun e' => e e'.symm)]
        exact h.at_ i u hu

theorem Rep.forget {n : Nat} {ds : List Deferred} {a : Act} {t : Tr} (h : Rep n ds a t) (d : Nat) : Rep n ds a (t.set d none) :=
  ⟨h.size, h.defers, fun i v hv => by
    rw [Tr.get_set] at hv
    by_cases e : i = d
    · rw [if_pos e] at hv; cases hv
    · rw [if_neg e] at hv; exact h.at_ i v hv⟩

def Tr.ev? (t : Tr) : Operand → Option Value
  | .tmp i => t.get i
  | .const v => some v
  | .global g => some (.pointer (some ⟨g, 0, none⟩))
  | .func f => some (.func (.func f) #[] #[])
def Tr.ev (t : Tr) (x : Operand) : Value := (t.ev? x).getD undef

theorem Rep.ev {n : Nat} {ds : List Deferred} {a : Act} {t : Tr} (h : Rep n ds a t) {x : Operand} {v : Value} (hv : t.ev? x = some v) : a.eval x = v := by
  cases x with
  | tmp i =>
    have := h.at_ i v hv
    simp [Act.eval, this]
  | const u => exact Option.some.inj hv
  | global g => exact Option.some.inj hv
  | func f => exact Option.some.inj hv

def noSel : Op → Bool
  | .select .. => false
  | .defer .. => false
  | _ => true
/-- an operation's computation, where its operands are known -/
def opSem (t : Tr) (o : Oper) : Option (Sem Next) :=
  bif noSel o.op && o.op.operands.toList.all (fun x => (t.ev? x).isSome) then some (execOp t.ev o) else none

theorem Rep.opSem {n : Nat} {ds : List Deferred} {a : Act} {t : Tr} {o : Oper} {s : Sem Next} (h : Rep n ds a t) (hs : opSem t o = some s) : execOp a.eval o = s := by
  unfold Go.Proofs.YtlppbapofenagaaGreatDoor.opSem at hs
  cases hb : (noSel o.op && o.op.operands.toList.all (fun x => (t.ev? x).isSome)) with
  | false => rw [hb] at hs; cases hs
  | true =>
    rw [hb] at hs
    simp only [cond_true, Option.some.injEq] at hs
    rw [← hs]
    simp only [Bool.and_eq_true, List.all_eq_true] at hb
    refine execOp_congr o (fun cs b e => by rw [e] at hb; simp [noSel] at hb) fun x hx => ?_
    have := hb.2 x (by simpa using hx)
    obtain ⟨v, hv⟩ := Option.isSome_iff_exists.1 this
    rw [h.ev hv]
    simp [Tr.ev, hv]

/-- is the operation wanted? none: not known -/
def wanted? (ops : Array Oper) (t : Tr) (o : Oper) : Option Bool :=
  match o.guard with
  | none => some true
  | some (j, want) => match (ops[j]?).bind (·.dst) with
    | none => some false
    | some d => match t.get d with
      | some (.bool b) => some (b == want)
      | some _ => some false
      | none => none
theorem Rep.wanted {n : Nat} {ds : List Deferred} {a : Act} {t : Tr} {ops : Array Oper} {o : Oper} {b : Bool} (h : Rep n ds a t) (hb : wanted? ops t o = some b) : Region.wanted o (yielded ops a.tmps) = b := by
  unfold wanted? at hb
  unfold Region.wanted
  cases hg : o.guard with
  | none => rw [hg] at hb; simpa using hb
  | some jw =>
    obtain ⟨j, want⟩ := jw
    rw [hg] at hb
    simp only at hb ⊢
    unfold yielded
    cases hd : (ops[j]?).bind (·.dst) with
    | none => rw [hd] at hb; simp only [Option.some.injEq] at hb; subst hb; rfl
    | some d =>
      rw [hd] at hb
      simp only [Option.bind_some] at hb ⊢
      cases hv : t.get d with
      | none => rw [hv] at hb; cases hb
      | some v =>
        have := h.at_ d v hv
        rw [hv] at hb
        rw [this]
        cases v <;> simp only [Option.some.injEq] at hb <;> subst hb <;> simp
end
end Go.Proofs.YtlppbapofenagaaGreatDoor
