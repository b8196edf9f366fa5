/- nodes: a list's items follow one another: plain mathematics. -/
import Derived.Test.YtcncfmjfgdbfeabNodCnt
import Derived.Test.YtcncfmjfgdbfeabNodV
namespace Go.Proofs.Ytcncfmjfgdbfeab
open Go.RowKit

/-- from s one comes to e, item by item -/
inductive Ch (beh : List Nat) : Nat → Nat → Prop where
  | refl (s : Nat) : Ch beh s s
  | step {s e : Nat} (h1 : s < beh.length) (h2 : s < beh.getD s 0) (h3 : Ch beh (beh.getD s 0) e) : Ch beh s e
theorem Ch.le {beh : List Nat} {s e : Nat} (h : Ch beh s e) : s ≤ e := by
  induction h with
  | refl s => exact Nat.le_refl _
  | step h1 h2 h3 ih => omega
theorem getD_set {beh : List Nat} {k s v : Nat} (h : s ≠ k) : (beh.set k v).getD s 0 = beh.getD s 0 := by
  simp [List.getD, Ne.symm h]
theorem Ch.other {beh : List Nat} {s e k v : Nat} (h : Ch beh s e) (hk : e ≤ k) : Ch (beh.set k v) s e := by
  induction h with
  | refl s => exact .refl s
  | step h1 h2 h3 ih =>
    have := h3.le
    refine .step (by simpa using h1) ?_ ?_
    · rw [getD_set (by omega)]; exact h2
    · rw [getD_set (by omega)]; exact ih hk
theorem Ch.snoc {beh : List Nat} {s p q : Nat} (h : Ch beh s p) (hp : p < beh.length) (hq : p < q) : Ch (beh.set p q) s q := by
  induction h with
  | refl s =>
    have e : (beh.set s q).getD s 0 = q := by simp [List.getD, hp]
    exact .step (by simpa using hp) (by rw [e]; exact hq) (by rw [e]; exact .refl q)
  | step h1 h2 h3 ih =>
    have := h3.le
    refine .step (by simpa using h1) ?_ ?_
    · rw [getD_set (by omega)]; exact h2
    · rw [getD_set (by omega)]; exact ih hp hq
theorem Ch.ok {beh : List Nat} {s e : Nat} (h : Ch beh s e) : ∀ f, e - s ≤ f → okF beh e f s := by
  induction h with
  | refl s =>
    intro f _
    cases f with
    | zero => exact Nat.le_refl _
    | succ f => exact fun h => absurd h (Nat.lt_irrefl _)
  | @step s e h1 h2 h3 ih =>
    intro f hf
    have := h3.le
    cases f with
    | zero => omega
    | succ f => exact fun _ => ⟨h1, ih f (by omega)⟩
/-- how many items there are does not hang on the fuel -/
theorem Ch.fuel {beh : List Nat} {s e : Nat} (h : Ch beh s e) : ∀ f g, e - s ≤ f → e - s ≤ g → itemsF beh e f s = itemsF beh e g s := by
  induction h with
  | refl s =>
    intro f g _ _
    cases f <;> cases g <;> simp [itemsF]
  | @step s e h1 h2 h3 ih =>
    intro f g hf hg
    have := h3.le
    cases f with
    | zero => omega
    | succ f => cases g with
      | zero => omega
      | succ g =>
        simp only [itemsF]
        rw [ih f g (by omega) (by omega)]

/-- what holds of a walk: its items, as far as they are whole, follow one another -/
structure WI (W : Wk) (n at_ : Nat) : Prop where
  len : W.beh.length = n
  pos : ∀ p ∈ W.os, p.1 < at_
  up : (W.os.map Prod.fst).Pairwise (· < ·)
  ch : Ch W.beh 0 ((W.os.map Prod.fst ++ [at_]).headD 0)
theorem head_app (a : List Nat) (x y : Nat) : (a ++ [x] ++ [y]).headD 0 = (a ++ [x]).headD 0 := by cases a <;> rfl
theorem wi_step {l : List Nod} {at_ : Nat} {W W' : Wk} (h : stepW l at_ W = some W') (hl : at_ < l.length) (I : WI W l.length at_) : WI W' l.length (at_ + 1) := by
  unfold stepW at h
  by_cases h6 : (nth l at_).kind = 6
  · simp only [h6, decide_true, cond_true] at h
    unfold leaveW at h
    split at h
    · cases h
    · rename_i p hp
      cases hb : (inDiscB l W.os && !decide (p.2 = 2)) with
      | true => rw [hb] at h; cases h
      | false =>
        rw [hb] at h
        simp only [cond_false, Option.some.injEq] at h
        subst h
        obtain ⟨os, hos⟩ : ∃ os, W.os = os ++ [p] := by
          rcases List.eq_nil_or_concat W.os with e | ⟨L, b, e⟩
          · rw [e] at hp; cases hp
          · rw [e, List.concat_eq_append] at hp ⊢
            simp at hp
            exact ⟨L, by rw [hp]⟩
        obtain ⟨h1, h2, h3, h4⟩ := I
        rw [hos] at h2 h3 h4
        have hpa : p.1 < at_ := h2 p (by simp)
        refine ⟨by simpa using h1, fun q hq => ?_, ?_, ?_⟩
        · rw [hos] at hq
          simp only [List.dropLast_concat] at hq
          have := h2 q (by simp [hq]); omega
        · simp only [hos, List.dropLast_concat]
          rw [List.map_append] at h3
          exact (List.pairwise_append.1 h3).1
        · simp only [hos, List.dropLast_concat]
          cases os with
          | nil => exact Ch.snoc h4 (by omega) (by omega)
          | cons q r =>
            have hq : q.1 < p.1 := by
              simp only [List.cons_append, List.map_cons, List.pairwise_cons] at h3
              exact h3.1 p.1 (by simp)
            exact (Ch.other (show Ch W.beh 0 q.1 from h4) (k := p.1) (v := at_ + 1) (by omega) : Ch _ 0 q.1)
  · simp only [h6, decide_false, cond_false] at h
    by_cases h11 : (nth l at_).kind = 11
    · simp only [h11, decide_true, cond_true] at h
      unfold partW at h
      split at h
      · cases h
      · rename_i p hp
        cases hb : (inDiscB l W.os && decide (p.2 + 1 ≤ 2)) with
        | false => rw [hb] at h; cases h
        | true =>
          rw [hb] at h
          simp only [cond_true, Option.some.injEq] at h
          subst h
          obtain ⟨os, hos⟩ : ∃ os, W.os = os ++ [p] := by
            rcases List.eq_nil_or_concat W.os with e | ⟨L, b, e⟩
            · rw [e] at hp; cases hp
            · rw [e, List.concat_eq_append] at hp ⊢
              simp at hp
              exact ⟨L, by rw [hp]⟩
          obtain ⟨h1, h2, h3, h4⟩ := I
          rw [hos] at h2 h3 h4
          have e : (os ++ [(p.1, p.2 + 1)]).map Prod.fst = (os ++ [p]).map Prod.fst := by simp
          refine ⟨h1, fun q hq => ?_, ?_, ?_⟩
          · simp only [hos, List.dropLast_concat] at hq
            rcases List.mem_append.1 hq with q1 | q1
            · have := h2 q (by simp [q1]); omega
            · rw [List.mem_singleton.1 q1]
              have := h2 p (by simp); simp only; omega
          · simp only [hos, List.dropLast_concat, e]; exact h3
          · simp only [hos, List.dropLast_concat, e]
            rw [List.map_append] at h4 ⊢
            simp only [List.map_cons, List.map_nil] at h4 ⊢
            rw [head_app] at h4 ⊢
            exact h4
    · simp only [h11, decide_false, cond_false] at h
      cases hb : (!inDiscB l W.os || brokenB (nth l at_)) with
      | false => rw [hb] at h; cases h
      | true =>
        rw [hb, cond_true, Option.some.injEq] at h
        subst h
        obtain ⟨h1, h2, h3, h4⟩ := I
        cases enters (nth l at_).kind with
        | true =>
          simp only [cond_true]
          refine ⟨h1, fun q hq => ?_, ?_, ?_⟩
          · rcases List.mem_append.1 hq with q1 | q1
            · have := h2 q q1; omega
            · rw [List.mem_singleton.1 q1]; simp only; omega
          · rw [List.map_append]
            refine List.pairwise_append.2 ⟨h3, by simp, fun a ha b hb' => ?_⟩
            obtain ⟨q, hq, rfl⟩ := List.mem_map.1 ha
            simp only [List.map_cons, List.map_nil, List.mem_singleton] at hb'
            rw [hb']; exact h2 q hq
          · rw [List.map_append]
            simp only [List.map_cons, List.map_nil]
            rw [head_app]
            exact h4
        | false =>
          simp only [cond_false]
          refine ⟨by simpa using h1, fun q hq => by have := h2 q hq; omega, h3, ?_⟩
          cases ho : W.os with
          | nil =>
            rw [ho] at h4
            exact Ch.snoc h4 (by omega) (by omega)
          | cons q r =>
            rw [ho] at h4
            have hq := h2 q (by rw [ho]; simp)
            exact (Ch.other (show Ch W.beh 0 q.1 from h4) (k := at_) (v := at_ + 1) (by omega) : Ch _ 0 q.1)
theorem wi_walk {l : List Nod} : ∀ {n at_ : Nat} {W W' : Wk}, walkW l n at_ W = some W' → at_ + n ≤ l.length → WI W l.length at_ → WI W' l.length (at_ + n)
  | 0, at_, W, W', h, _, I => by
    simp only [walkW, Option.some.injEq] at h
    subst h; exact I
  | n + 1, at_, W, W', h, hl, I => by
    unfold walkW at h
    cases hr : rightB (nth l at_) with
    | false => rw [hr] at h; cases h
    | true =>
      rw [hr, cond_true] at h
      split at h
      · rename_i W1 h1
        have := wi_walk h (by omega) (wi_step h1 (by omega) I)
        rwa [show at_ + 1 + n = at_ + (n + 1) by omega] at this
      · cases h
/-- a good list's items follow one another from its beginning to its end -/
theorem good_ch {l : List Nod} {Wf : Wk} (hW : walkW l l.length 0 (walk0 l) = some Wf) (ho : Wf.os.length = 0) : Ch Wf.beh 0 l.length ∧ Wf.beh.length = l.length := by
  have I := wi_walk hW (by omega) ⟨by simp [walk0], fun p hp => by simp [walk0] at hp, by simp [walk0], .refl 0⟩
  have he : Wf.os = [] := List.length_eq_zero_iff.1 ho
  have h4 := I.ch
  rw [he] at h4
  exact ⟨by simpa using h4, I.len⟩
end Go.Proofs.Ytcncfmjfgdbfeab
