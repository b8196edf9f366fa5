/- nodes: the walk through a list: a step, whichever it is. -/
import Derived.Test.YtcncfmjfgdbfeabNodR
namespace Go.Proofs.Ytcncfmjfgdbfeab
open Go.RowKit

/-- where a walk stands: behind, what is open, the deepest -/
structure Wk where
  beh : List Nat
  os : List (Nat × Nat)
  d : Int
def leaveW (l : List Nod) (at_ : Nat) (W : Wk) : Option Wk :=
  match W.os.getLast? with
  | none => none
  | some p => bif inDiscB l W.os && !decide (p.2 = 2) then none else some ⟨W.beh.set p.1 (at_ + 1), W.os.dropLast, W.d⟩
def partW (l : List Nod) (W : Wk) : Option Wk :=
  match W.os.getLast? with
  | none => none
  | some p => bif inDiscB l W.os && decide (p.2 + 1 ≤ 2) then some ⟨W.beh, W.os.dropLast ++ [(p.1, p.2 + 1)], W.d⟩ else none
def enters (k : Int) : Bool := decide (k = 4) || decide (k = 5) || decide (k = 10) || decide (k = 13) || decide (k = 17)
def stepW (l : List Nod) (at_ : Nat) (W : Wk) : Option Wk :=
  bif decide ((nth l at_).kind = 6) then leaveW l at_ W
  else bif decide ((nth l at_).kind = 11) then partW l W
  else bif !inDiscB l W.os || brokenB (nth l at_) then
    some (bif enters (nth l at_).kind then ⟨W.beh, W.os ++ [(at_, 0)], deep W.d W.os.length⟩ else ⟨W.beh.set at_ (at_ + 1), W.os, deep W.d W.os.length⟩)
  else none
def behC (beh : List Nat) : List Value := beh.map fun x => .int .i64 ((x : Nat) : Int)
theorem behC_set (beh : List Nat) (k v : Nat) : (behC beh).set k (.int .i64 ((v : Nat) : Int)) = behC (beh.set k v) := by simp [behC, List.map_set]
theorem behC_length (beh : List Nat) : (behC beh).length = beh.length := by simp [behC]
/-- what holds of a walk ahead of a node -/
structure Inv (l : List Nod) (at_ : Nat) (W : Wk) (base : Option Addr) (cap : Nat) (e : HE) : Prop where
  op : OpenIs W.os base cap e
  os : ∀ p ∈ W.os, p.1 < l.length ∧ p.2 ≤ 2
  beh : W.beh.length = l.length
  len : W.os.length ≤ at_
  eo : e.own = true ∨ ¬ e.live
abbrev wkHp (l : List Nod) (bw bl ol cl bb : Nat) (W : Wk) (base : Option Addr) (cap : Nat) (e : HE) : List HE :=
  walkHp l bw bl ol cl bb (behC W.beh) base W.os.length cap W.d e
/-- a call writes its own blocks; the others are left -/
theorem Sat.frame {w0 w w' : World} {bs : List Nat} {hp hp' rest : List HE} (h : Sat w0 bs (hp ++ rest) w) (h' : Sat w (owned hp) hp' w') (hn : ∀ e ∈ hp', e.own = true ∨ e ∈ hp ∨ ¬ e.live) : Sat w0 bs (hp' ++ rest) w' := by
  have h0 : Sat w0 bs hp w := by have := h.take hp.length; rwa [List.take_left'] at this; rfl
  have hu := h0.unbase h'
  -- an entry of the rest is far from what is written
  have far : ∀ (i : Nat) (e : HE), rest[i]? = some e → e.live → e.blk ∉ owned hp ∧ e.blk < w.heap.size := fun i e hi hl => by
    have hh := h.holds e (List.mem_append.2 (.inr (List.mem_of_getElem? hi)))
    refine ⟨fun hb => ?_, HE.holds_lt hh hl⟩
    obtain ⟨cs, T, hm⟩ := owned_mem hb
    obtain ⟨j, hj⟩ := List.mem_iff_getElem?.1 hm
    have hjl : j < hp.length := (List.getElem?_eq_some_iff.1 hj).1
    exact h.apart j (hp.length + i) (.obj true e.blk cs T) e (by omega) (by rw [List.getElem?_append_left hjl]; exact hj) (by rw [List.getElem?_append_right (by omega), Nat.add_sub_cancel_left]; exact hi) rfl hl rfl
  have kept : ∀ (i : Nat) (e : HE), rest[i]? = some e → e.holds w0 bs w' := fun i e hi => by
    have hh := h.holds e (List.mem_append.2 (.inr (List.mem_of_getElem? hi)))
    exact HE.holds_of_block hh h'.kept.size (fun hl => h'.kept.block _ (far i e hi hl).2 (far i e hi hl).1)
  -- where what is written lies
  have new : ∀ e : HE, e ∈ hp' → e.own = true → w.heap.size ≤ e.blk ∨ e.blk ∈ owned hp := fun e he ho => by
    have hh := h'.holds e he
    cases e with
    | obj o b cs T => exact hh.2 ho
    | row b off sz n f => cases ho
  have split : ∀ {k : Nat} {e : HE}, (hp' ++ rest)[k]? = some e → (k < hp'.length ∧ hp'[k]? = some e) ∨ (∃ i, k = hp'.length + i ∧ rest[i]? = some e) := fun {k e} hk => by
    rcases Nat.lt_or_ge k hp'.length with hl | hl
    · exact .inl ⟨hl, by rwa [List.getElem?_append_left hl] at hk⟩
    · exact .inr ⟨k - hp'.length, by omega, by rwa [List.getElem?_append_right hl] at hk⟩
  have own_live : ∀ e : HE, e.own = true → e.live := fun e ho => by cases e with
    | obj o b cs T => trivial
    | row b off sz n f => cases ho
  have apart2 : ∀ (e e' : HE) (i : Nat), e ∈ hp' → rest[i]? = some e' → (e.own = true ∧ e'.live ∨ e'.own = true ∧ e.live) → e.blk ≠ e'.blk := fun e e' i he hi hc => by
    by_cases ho : e.own = true
    · have hl' : e'.live := by rcases hc with ⟨_, h1⟩ | ⟨h1, _⟩; exact h1; exact own_live _ h1
      rcases new e he ho with h1 | h1
      · have := (far i e' hi hl').2; omega
      · exact fun e2 => (far i e' hi hl').1 (e2 ▸ h1)
    · rcases hc with ⟨h1, _⟩ | ⟨ho', hl⟩
      · exact absurd h1 ho
      · rcases hn e he with h1 | h1 | h1
        · exact absurd h1 ho
        · obtain ⟨j, hj⟩ := List.mem_iff_getElem?.1 h1
          have hjl : j < hp.length := (List.getElem?_eq_some_iff.1 hj).1
          exact fun e2 => h.apart (hp.length + i) j e' e (by omega) (by rw [List.getElem?_append_right (by omega), Nat.add_sub_cancel_left]; exact hi) (by rw [List.getElem?_append_left hjl]; exact hj) ho' hl e2.symm
        · exact absurd hl h1
  refine ⟨hu.kept, fun e he => ?_, fun k m e e' hkm hk hm ho hl => ?_⟩
  · rcases List.mem_append.1 he with he | he
    · exact hu.holds e he
    · obtain ⟨i, hi⟩ := List.mem_iff_getElem?.1 he
      exact kept i e hi
  · rcases split hk with ⟨_, hk⟩ | ⟨i, rfl, hi⟩ <;> rcases split hm with ⟨_, hm⟩ | ⟨j, rfl, hj⟩
    · exact h'.apart k m e e' hkm hk hm ho hl
    · exact apart2 e e' j (List.mem_of_getElem? hk) hj (.inl ⟨ho, hl⟩)
    · exact fun e2 => apart2 e' e i (List.mem_of_getElem? hm) hi (.inr ⟨ho, hl⟩) e2.symm
    · exact h.apart (hp.length + i) (hp.length + j) e e' (by omega) (by rw [List.getElem?_append_right (by omega), Nat.add_sub_cancel_left]; exact hi) (by rw [List.getElem?_append_right (by omega), Nat.add_sub_cancel_left]; exact hj) ho hl
/-- what a step leaves -/
structure StepR (l : List Nod) (at_ : Nat) (W : Wk) where
  ok : Bool
  W' : Wk
  base : Option Addr
  cap : Nat
  e : HE
  eo : e.own = true ∨ ¬ e.live
  is : ok = (stepW l at_ W).isSome
  good : ok = true → stepW l at_ W = some W' ∧ Inv l (at_ + 1) W' base cap e
def StepQ (l : List Nod) (bw bl ol cl bb at_ : Nat) (W : Wk) (w0 : World) (bs : List Nat) (e' : Ending) (w' : World) : Prop :=
  ∃ r : StepR l at_ W, e' = .returned (.bool r.ok) ∧ Sat w0 bs (wkHp l bw bl ol cl bb r.W' r.base r.cap r.e) w'
section
variable (l : List Nod) (bw bl ol cl bb : Nat) (base : Option Addr) (cap : Nat) (e : HE) (W : Wk) (at_ : Nat) (w0 : World) (bs : List Nat) (w : World)
  (hq : Sat w0 bs (wkHp l bw bl ol cl bb W base cap e) w) (hI : Inv l at_ W base cap e) (hat : at_ < l.length) (hl : l.length ≤ 2000)
include hq hI hat hl
theorem step_stand (h6 : (nth l at_).kind ≠ 6) (h11 : (nth l at_).kind ≠ 11) (hen : enters (nth l at_).kind = false) :
    Calls Try.prog 103 #[.pointer (some ⟨bw, 0, none⟩), .int .i64 (at_ : Int)] w (StepQ l bw bl ol cl bb at_ W w0 bs) := by
  have hlen := hI.len
  have hs : stepW l at_ W = bif !inDiscB l W.os || brokenB (nth l at_) then some ⟨W.beh.set at_ (at_ + 1), W.os, deep W.d W.os.length⟩ else none := by simp [stepW, h6, h11, hen]
  refine (stand_any l bw bl ol cl bb (behC W.beh) base cap W.d e W.os at_ w0 bs w hq hI.op (fun p hp => (hI.os p hp).1) (by omega) hat (by rw [behC_length, hI.beh]) (by omega)).mono ?_
  rintro e' w' ⟨rfl, hw⟩
  rw [behC_set] at hw
  refine ⟨⟨!inDiscB l W.os || brokenB (nth l at_), ⟨W.beh.set at_ (at_ + 1), W.os, deep W.d W.os.length⟩, base, cap, e, hI.eo, ?_, fun hk => ?_⟩, rfl, hw⟩
  · rw [hs]; cases (!inDiscB l W.os || brokenB (nth l at_)) <;> rfl
  · refine ⟨by rw [hs, hk]; rfl, ⟨hI.op, hI.os, ?_, ?_, hI.eo⟩⟩
    · simp [hI.beh]
    · simp only; omega
theorem step_enter (hen : enters (nth l at_).kind = true) :
    Calls Try.prog 104 #[.pointer (some ⟨bw, 0, none⟩), .int .i64 (at_ : Int)] w (StepQ l bw bl ol cl bb at_ W w0 bs) := by
  have hlen := hI.len
  have h6 : (nth l at_).kind ≠ 6 := fun h => by rw [h] at hen; revert hen; decide
  have h11 : (nth l at_).kind ≠ 11 := fun h => by rw [h] at hen; revert hen; decide
  have hs : stepW l at_ W = bif !inDiscB l W.os || brokenB (nth l at_) then some ⟨W.beh, W.os ++ [(at_, 0)], deep W.d W.os.length⟩ else none := by simp [stepW, h6, h11, hen]
  refine (enter_any l bw bl ol cl bb (behC W.beh) base cap W.d e W.os at_ w0 bs w hq hI.op (fun p hp => (hI.os p hp).1) (by omega) hat (by omega)).mono ?_
  rintro e' w' ⟨rfl, base', cap', e2, ho, hw⟩
  have heo : e2.own = true ∨ ¬ e2.live := by
    obtain ⟨bo, oc, _, he, _⟩ := ho.last
    exact .inl (by rw [he]; rfl)
  refine ⟨⟨!inDiscB l W.os || brokenB (nth l at_), ⟨W.beh, W.os ++ [(at_, 0)], deep W.d W.os.length⟩, base', cap', e2, heo, ?_, fun hk => ?_⟩, rfl, hw.at ?_⟩
  · rw [hs]; cases (!inDiscB l W.os || brokenB (nth l at_)) <;> rfl
  · refine ⟨by rw [hs, hk]; rfl, ⟨ho, fun p hp => ?_, hI.beh, ?_, heo⟩⟩
    · rcases List.mem_append.1 hp with hp | hp
      · exact hI.os p hp
      · rw [List.mem_singleton.1 hp]; exact ⟨hat, Nat.zero_le _⟩
    · simp only [List.length_append, List.length_cons, List.length_nil]; omega
  · simp only [wkHp, walkHp, List.length_append, List.length_cons, List.length_nil, Nat.zero_add]
theorem step_part (h11 : (nth l at_).kind = 11) :
    Calls Try.prog 106 #[.pointer (some ⟨bw, 0, none⟩), .int .i64 (at_ : Int)] w (StepQ l bw bl ol cl bb at_ W w0 bs) := by
  have hlen := hI.len
  have hs : stepW l at_ W = partW l W := by simp [stepW, h11]
  obtain ⟨beh, os, d⟩ := W
  cases hd : inDiscB l os with
  | false =>
    refine (part_no l bw bl ol cl bb (behC beh) base cap d e os at_ w0 bs w hq hI.op (fun p hp => (hI.os p hp).1) (by simp only at hlen; omega) hd).mono ?_
    rintro e' w' ⟨rfl, hw⟩
    refine ⟨⟨false, ⟨beh, os, d⟩, base, cap, e, hI.eo, ?_, fun hk => by cases hk⟩, rfl, hw⟩
    rw [hs]
    unfold partW
    simp only [hd, Bool.false_and, cond_false]
    cases os.getLast? <;> rfl
  | true =>
    rcases List.eq_nil_or_concat os with rfl | ⟨os, ⟨a, s⟩, rfl⟩
    · simp [inDiscB] at hd
    · rw [List.concat_eq_append] at *
      obtain ⟨bo, oc, rfl, rfl, hc1, hc2, hc3, h0, h1⟩ := hI.op.last
      have hos := hI.os
      simp only [List.length_append, List.length_cons, List.length_nil, Nat.zero_add] at hlen
      have hs2 := (hos (a, s) (by simp)).2
      simp only at hs2 h0 h1
      refine (part_yes l bw bl ol cl bb bo (behC beh) oc cap d os a s at_ w0 bs w (hq.at (by simp [wkHp, walkHp])) hI.op (fun p hp => (hos p hp).1) (by omega) h0 h1 (by omega) hd).mono ?_
      rintro e' w' ⟨rfl, hw⟩
      have hp : partW l ⟨beh, os ++ [(a, s)], d⟩ = bif decide (s + 1 ≤ 2) then some ⟨beh, os ++ [(a, s + 1)], d⟩ else none := by
        unfold partW
        simp [hd]
      have hlt := (List.getElem?_eq_some_iff.1 h1).1
      refine ⟨⟨decide (s + 1 ≤ 2), ⟨beh, os ++ [(a, s + 1)], d⟩, some ⟨bo, 0, none⟩, cap, .obj true bo (oc.set (0 + os.length * 2 + 1) (.int .i64 ((s + 1 : Nat) : Int))) 140, .inl rfl, ?_, fun hk => ⟨by rw [hs, hp, hk]; rfl, ⟨?_, fun p hp => ?_, hI.beh, ?_, .inl rfl⟩⟩⟩, rfl, hw.at ?_⟩
      · rw [hs, hp]; cases decide (s + 1 ≤ 2) <;> rfl
      · exact .inr ⟨bo, _, rfl, rfl, by rw [List.length_set]; exact hc1, by simpa using hc2, by
          rw [show (os ++ [(a, s + 1)]).length = os.length + 1 by simp]
          exact opC_set hc3 (by omega)⟩
      · rcases List.mem_append.1 hp with hp | hp
        · exact hos p (List.mem_append.2 (.inl hp))
        · rw [List.mem_singleton.1 hp]; exact ⟨(hos (a, s) (by simp)).1, by simpa using hk⟩
      · simp only [List.length_append, List.length_cons, List.length_nil]; omega
      · simp [wkHp, walkHp]
theorem step_leave (h6 : (nth l at_).kind = 6) :
    Calls Try.prog 105 #[.pointer (some ⟨bw, 0, none⟩), .int .i64 (at_ : Int)] w (StepQ l bw bl ol cl bb at_ W w0 bs) := by
  have hlen := hI.len
  have hs : stepW l at_ W = leaveW l at_ W := by simp [stepW, h6]
  obtain ⟨beh, os, d⟩ := W
  rcases List.eq_nil_or_concat os with rfl | ⟨os, ⟨a, s⟩, rfl⟩
  · refine (leave_none l bw bl ol cl bb (behC beh) base cap d e at_ w0 bs w hq).mono ?_
    rintro e' w' ⟨rfl, hw⟩
    exact ⟨⟨false, ⟨beh, [], d⟩, base, cap, e, hI.eo, by rw [hs]; rfl, fun hk => by cases hk⟩, rfl, hw⟩
  · rw [List.concat_eq_append] at *
    obtain ⟨bo, oc, rfl, rfl, hc1, hc2, hc3, h0, h1⟩ := hI.op.last
    have hos := hI.os
    simp only [List.length_append, List.length_cons, List.length_nil, Nat.zero_add] at hlen
    have hs2 := (hos (a, s) (by simp)).2
    have ha := (hos (a, s) (by simp)).1
    simp only at hs2 h0 h1 ha
    have hq2 := hq.at (hp' := walkHp l bw bl ol cl bb (behC beh) (some ⟨bo, 0, none⟩) (os.length + 1) cap d (.obj true bo oc 140)) (by simp [wkHp, walkHp])
    have hbl : (behC beh).length = l.length := by rw [behC_length]; exact hI.beh
    have go : ∀ {e' w'}, inDiscB l (os ++ [(a, s)]) = false ∨ s = 2 → (e' = .returned (.bool true) ∧ Sat w0 bs (walkHp l bw bl ol cl bb ((behC beh).set a (.int .i64 ((at_ + 1 : Nat) : Int))) (some ⟨bo, 0, none⟩) os.length cap d (.obj true bo oc 140)) w') →
        StepQ l bw bl ol cl bb at_ ⟨beh, os ++ [(a, s)], d⟩ w0 bs e' w' := fun {e' w'} hcase ⟨h, hw⟩ => by
      subst h
      rw [behC_set] at hw
      have hp : leaveW l at_ ⟨beh, os ++ [(a, s)], d⟩ = some ⟨beh.set a (at_ + 1), os, d⟩ := by
        unfold leaveW
        rcases hcase with h | h <;> simp [h]
      refine ⟨⟨true, ⟨beh.set a (at_ + 1), os, d⟩, some ⟨bo, 0, none⟩, cap, .obj true bo oc 140, .inl rfl, by rw [hs, hp]; rfl, fun _ => ⟨by rw [hs, hp], ⟨OpenIs.less hc3 hc1 hc2, fun p hp => hos p (List.mem_append.2 (.inl hp)), ?_, ?_, .inl rfl⟩⟩⟩, rfl, hw⟩
      · simp only [List.length_set]; exact hI.beh
      · simp only; omega
    cases hd : inDiscB l (os ++ [(a, s)]) with
    | false => exact (leave_go1 l bw bl ol cl bb bo (behC beh) oc cap d os a s at_ w0 bs w hq2 hI.op (fun p hp => (hos p hp).1) (by omega) h0 h1 (by omega) hd hat (by omega) hbl hc2).mono fun _ _ h => go (.inl hd) h
    | true =>
      by_cases h2 : s = 2
      · exact (leave_go2 l bw bl ol cl bb bo (behC beh) oc cap d os a s at_ w0 bs w hq2 hI.op (fun p hp => (hos p hp).1) (by omega) h0 h1 (by omega) hd h2 hat (by omega) hbl hc2).mono fun _ _ h => go (.inr h2) h
      · refine (leave_stop l bw bl ol cl bb bo (behC beh) oc cap d os a s at_ w0 bs w hq2 hI.op (fun p hp => (hos p hp).1) (by omega) h0 h1 (by omega) hd h2).mono ?_
        rintro e' w' ⟨rfl, hw⟩
        have hp : leaveW l at_ ⟨beh, os ++ [(a, s)], d⟩ = none := by
          unfold leaveW
          simp [hd, h2]
        exact ⟨⟨false, ⟨beh, os ++ [(a, s)], d⟩, some ⟨bo, 0, none⟩, cap, .obj true bo oc 140, .inl rfl, by rw [hs, hp]; rfl, fun hk => by cases hk⟩, rfl, hw.at (by simp [wkHp, walkHp])⟩
end
end Go.Proofs.Ytcncfmjfgdbfeab
