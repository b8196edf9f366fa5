/- A second way to walk a function's text: by the kernel's own reckoning. Frames are tries of known slots; what is known of memory is a list of blocks. -/
import Derived.Test.YtknmoalebdbgnaaGreatDoorBase
import Derived.Deep.Quiet
namespace Go.Proofs.YtknmoalebdbgnaaGreatDoor
open Go.RowKit

section
variable {P : Program}

/-! ### computations that ask the program alone -/
def runQ {α : Type} (p : Program) : Sem α → Option α
  | .pure a => some a
  | .program k => runQ p (k p)
  | .mark _ k => runQ p k
  | _ => none
theorem runQ_run {α : Type} {p : Program} : ∀ {s : Sem α} {a : α}, runQ p s = some a → ∀ w, s.run p w = .ok a w
  | .pure a, b, h, w => by simp only [runQ, Option.some.injEq] at h; subst h; rfl
  | .program k, b, h, w => by
    simp only [runQ] at h
    exact runQ_run (s := k p) h w
  | .mark m k, b, h, w => by
    simp only [runQ] at h
    exact runQ_run (s := k) h w
  | .load .., _, h, _ | .store .., _, h, _ | .new .., _, h, _ | .shape .., _, h, _ | .freeze .., _, h, _ | .frozen .., _, h, _ | .getObj .., _, h, _ | .setObj .., _, h, _ | .choose .., _, h, _ | .sys .., _, h, _ | .halt .., _, h, _ => by
    simp [runQ] at h

/-! ### tries -/
inductive Tr where
  | nil
  | node (v : Option Value) (l r : Tr)

def Tr.get : Tr → Nat → Option Value
  | .nil, _ => none
  | .node v l r, i => match i with
    | 0 => v
    | i + 1 => bif Nat.beq (i % 2) 0 then l.get (i / 2) else r.get (i / 2)

def Tr.setF : Nat → Tr → Nat → Option Value → Tr
  | 0, t, _, _ => t
  | f + 1, t, i, v =>
    match t with
    | .nil => match i with
      | 0 => .node v .nil .nil
      | i + 1 => bif Nat.beq (i % 2) 0 then .node none (Tr.setF f .nil (i / 2) v) .nil else .node none .nil (Tr.setF f .nil (i / 2) v)
    | .node u l r => match i with
      | 0 => .node v l r
      | i + 1 => bif Nat.beq (i % 2) 0 then .node u (Tr.setF f l (i / 2) v) r else .node u l (Tr.setF f r (i / 2) v)
def Tr.set (t : Tr) (i : Nat) (v : Option Value) : Tr := Tr.setF (i + 1) t i v

theorem Tr.get_setF : ∀ (f : Nat) (t : Tr) (i j : Nat) (v : Option Value), i < f → (Tr.setF f t i v).get j = if j = i then v else t.get j := by
  intro f
  induction f with
  | zero => intro t i j v h; omega
  | succ f ih =>
    intro t i j v h
    cases i with
    | zero =>
      cases t with
      | nil => cases j with
        | zero => simp [Tr.setF, Tr.get]
        | succ j => simp [Tr.setF, Tr.get]
      | node u l r => cases j with
        | zero => simp [Tr.setF, Tr.get]
        | succ j => simp [Tr.setF, Tr.get]
    | succ i =>
      have hlt : i / 2 < f := by omega
      have key : ∀ (u : Option Value) (l r : Tr), (bif Nat.beq (i % 2) 0 then Tr.node u (Tr.setF f l (i / 2) v) r else Tr.node u l (Tr.setF f r (i / 2) v)).get j = if j = i + 1 then v else (Tr.node u l r).get j := by
        intro u l r
        cases j with
        | zero => cases hb : Nat.beq (i % 2) 0 <;> simp [Tr.get]
        | succ j =>
          cases hb : Nat.beq (i % 2) 0 <;> cases hc : Nat.beq (j % 2) 0
          · simp only [cond_false, Tr.get, hc, ih _ _ _ _ hlt, Nat.add_right_cancel_iff]
            have h1 : i % 2 ≠ 0 := fun e => by rw [e] at hb; cases hb
            have h2 : j % 2 ≠ 0 := fun e => by rw [e] at hc; cases hc
            by_cases e : j / 2 = i / 2
            · rw [if_pos e, if_pos (by omega)]
            · rw [if_neg e, if_neg (by omega)]
          · simp only [cond_false, cond_true, Tr.get, hc, Nat.add_right_cancel_iff]
            have h1 : i % 2 ≠ 0 := fun e => by rw [e] at hb; cases hb
            have h2 : j % 2 = 0 := Nat.eq_of_beq_eq_true hc
            rw [if_neg (by omega)]
          · simp only [cond_false, cond_true, Tr.get, hc, Nat.add_right_cancel_iff]
            have h1 : i % 2 = 0 := Nat.eq_of_beq_eq_true hb
            have h2 : j % 2 ≠ 0 := fun e => by rw [e] at hc; cases hc
            rw [if_neg (by omega)]
          · simp only [cond_true, Tr.get, hc, ih _ _ _ _ hlt, Nat.add_right_cancel_iff]
            have h1 : i % 2 = 0 := Nat.eq_of_beq_eq_true hb
            have h2 : j % 2 = 0 := Nat.eq_of_beq_eq_true hc
            by_cases e : j / 2 = i / 2
            · rw [if_pos e, if_pos (by omega)]
            · rw [if_neg e, if_neg (by omega)]
      cases t with
      | nil =>
        have := key none .nil .nil
        simp only [Tr.setF]
        rw [this]
        cases j with
        | zero => simp [Tr.get]
        | succ j => simp [Tr.get]
      | node u l r => exact key u l r
theorem Tr.get_set (t : Tr) (i j : Nat) (v : Option Value) : (t.set i v).get j = if j = i then v else t.get j := Tr.get_setF _ _ _ _ _ (Nat.lt_succ_self i)

/-! ### frames -/
structure Rep (n : Nat) (ds : List Deferred) (a : Act) (t : Tr) : Prop where
  size : a.tmps.size = n
  defers : a.defers = ds
  at_ : ∀ i v, t.get i = some v → a.tmps[i]? = some v

def Tr.put (n : Nat) (t : Tr) (dst : Option Tmp) (v : Value) : Tr :=
  match dst with
  | some d => bif Nat.blt d n then t.set d (some v) else t
  | none => t

theorem Rep.put {n : Nat} {ds : List Deferred} {a : Act} {t : Tr} (h : Rep n ds a t) (dst : Option Tmp) (v : Value) : Rep n ds (a.put dst v) (t.put n dst v) := by
  cases dst with
  | none => exact h
  | some d =>
    refine ⟨by simp [Act.put, h.size], by simp [Act.put, h.defers], fun i u hu => ?_⟩
    simp only [Act.put, Tr.put] at hu ⊢
    cases hb : Nat.blt d n with
    | false =>
      rw [hb, cond_false] at hu
      have hd : ¬ d < n := fun hlt => by
        have : Nat.blt d n = true := Nat.ble_eq_true_of_le hlt
        rw [this] at hb; cases hb
      have := h.at_ i u hu
      rw [Array.getElem?_setIfInBounds]
      by_cases e : d = i
      · subst e
        have hlt := (Array.getElem?_eq_some_iff.1 this).1
        exact absurd (h.size ▸ hlt) hd
      · rw [if_neg e]; exact this
    | true =>
      have hd : d < n := Nat.le_of_ble_eq_true hb
      rw [hb, cond_true, Tr.get_set] at hu
      rw [Array.getElem?_setIfInBounds]
      by_cases e : i = d
      · subst e
        rw [if_pos rfl] at hu
        rw [if_pos rfl, if_pos (h.size ▸ hd)]
        exact hu
      · rw [if_neg e] at hu
        rw [if_neg (fun e' => e e'.symm)]
        exact h.at_ i u hu

theorem Rep.forget {n : Nat} {ds : List Deferred} {a : Act} {t : Tr} (h : Rep n ds a t) (d : Nat) : Rep n ds a (t.set d none) :=
  ⟨h.size, h.defers, fun i v hv => by
    rw [Tr.get_set] at hv
    by_cases e : i = d
    · rw [if_pos e] at hv; cases hv
    · rw [if_neg e] at hv; exact h.at_ i v hv⟩

def Tr.ev? (t : Tr) : Operand → Option Value
  | .tmp i => t.get i
  | .const v => some v
  | .global g => some (.pointer (some ⟨g, 0, none⟩))
  | .func f => some (.func (.func f) #[] #[])
def Tr.ev (t : Tr) (x : Operand) : Value := (t.ev? x).getD undef

theorem Rep.ev {n : Nat} {ds : List Deferred} {a : Act} {t : Tr} (h : Rep n ds a t) {x : Operand} {v : Value} (hv : t.ev? x = some v) : a.eval x = v := by
  cases x with
  | tmp i =>
    have := h.at_ i v hv
    simp [Act.eval, this]
  | const u => exact Option.some.inj hv
  | global g => exact Option.some.inj hv
  | func f => exact Option.some.inj hv

def noSel : Op → Bool
  | .select .. => false
  | .defer .. => false
  | _ => true
/-- an operation's computation, where its operands are known -/
def opSem (t : Tr) (o : Oper) : Option (Sem Next) :=
  bif noSel o.op && o.op.operands.toList.all (fun x => (t.ev? x).isSome) then some (execOp t.ev o) else none

theorem Rep.opSem {n : Nat} {ds : List Deferred} {a : Act} {t : Tr} {o : Oper} {s : Sem Next} (h : Rep n ds a t) (hs : opSem t o = some s) : execOp a.eval o = s := by
  unfold Go.Proofs.YtknmoalebdbgnaaGreatDoor.opSem at hs
  cases hb : (noSel o.op && o.op.operands.toList.all (fun x => (t.ev? x).isSome)) with
  | false => rw [hb] at hs; cases hs
  | true =>
    rw [hb] at hs
    simp only [cond_true, Option.some.injEq] at hs
    rw [← hs]
    simp only [Bool.and_eq_true, List.all_eq_true] at hb
    refine execOp_congr o (fun cs b e => by rw [e] at hb; simp [noSel] at hb) fun x hx => ?_
    have := hb.2 x (by simpa using hx)
    obtain ⟨v, hv⟩ := Option.isSome_iff_exists.1 this
    rw [h.ev hv]
    simp [Tr.ev, hv]

/-- is the operation wanted? none: not known -/
def wanted? (ops : Array Oper) (t : Tr) (o : Oper) : Option Bool :=
  match o.guard with
  | none => some true
  | some (j, want) => match (ops[j]?).bind (·.dst) with
    | none => some false
    | some d => match t.get d with
      | some (.bool b) => some (b == want)
      | some _ => some false
      | none => none
theorem Rep.wanted {n : Nat} {ds : List Deferred} {a : Act} {t : Tr} {ops : Array Oper} {o : Oper} {b : Bool} (h : Rep n ds a t) (hb : wanted? ops t o = some b) : Region.wanted o (yielded ops a.tmps) = b := by
  unfold wanted? at hb
  unfold Region.wanted
  cases hg : o.guard with
  | none => rw [hg] at hb; simpa using hb
  | some jw =>
    obtain ⟨j, want⟩ := jw
    rw [hg] at hb
    simp only at hb ⊢
    unfold yielded
    cases hd : (ops[j]?).bind (·.dst) with
    | none => rw [hd] at hb; simp only [Option.some.injEq] at hb; subst hb; rfl
    | some d =>
      rw [hd] at hb
      simp only [Option.bind_some] at hb ⊢
      cases hv : t.get d with
      | none => rw [hv] at hb; cases hb
      | some v =>
        have := h.at_ d v hv
        rw [hv] at hb
        rw [this]
        cases v <;> simp only [Option.some.injEq] at hb <;> subst hb <;> simp
end
end Go.Proofs.YtknmoalebdbgnaaGreatDoor
