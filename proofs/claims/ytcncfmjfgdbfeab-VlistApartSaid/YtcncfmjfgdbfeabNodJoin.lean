/- nodes: two lists, one behind the other: plain mathematics. -/
import Derived.Test.YtcncfmjfgdbfeabNodCh
namespace Go.Proofs.Ytcncfmjfgdbfeab
open Go.RowKit

theorem nth_left {a b : List Nod} {k : Nat} (h : k < a.length) : nth (a ++ b) k = nth a k := by
  simp [nth, List.getD, List.getElem?_append_left h]
theorem nth_right {a b : List Nod} {k : Nat} : nth (a ++ b) (k + a.length) = nth b k := by
  simp [nth, List.getD, List.getElem?_append_right]
theorem last_mem {os : List (Nat × Nat)} {p : Nat × Nat} (h : os.getLast? = some p) : p ∈ os := List.mem_of_getLast? h
/-- a walk over the first list, in both -/
def extW (m : Nat) (W : Wk) : Wk := ⟨W.beh ++ List.replicate m 0, W.os, W.d⟩
theorem disc_left {a b : List Nod} {os : List (Nat × Nat)} (h : ∀ p ∈ os, p.1 < a.length) : inDiscB (a ++ b) os = inDiscB a os := by
  unfold inDiscB
  cases hp : os.getLast? with
  | none => rfl
  | some p => simp only [nth_left (h p (last_mem hp))]
theorem step_left {a b : List Nod} {at_ : Nat} {W W' : Wk} (h : stepW a at_ W = some W') (hl : at_ < a.length) (I : WI W a.length at_) : stepW (a ++ b) at_ (extW b.length W) = some (extW b.length W') := by
  have hpos : ∀ p ∈ W.os, p.1 < a.length := fun p hp => by have := I.pos p hp; omega
  unfold stepW at h ⊢
  rw [nth_left hl]
  have hos : (extW b.length W).os = W.os := rfl
  by_cases h6 : (nth a at_).kind = 6
  · simp only [h6, decide_true, cond_true] at h ⊢
    unfold leaveW at h ⊢
    rw [hos, disc_left hpos]
    cases hp : W.os.getLast? with
    | none => rw [hp] at h; cases h
    | some p =>
      rw [hp] at h
      simp only at h ⊢
      cases hb : (inDiscB a W.os && !decide (p.2 = 2)) with
      | true => rw [hb] at h; cases h
      | false =>
        rw [hb] at h
        simp only [cond_false, Option.some.injEq] at h ⊢
        subst h
        have h1 := hpos p (last_mem hp)
        simp only [extW]
        rw [List.set_append_left _ _ (by rw [I.len]; exact h1)]
  · simp only [h6, decide_false, cond_false] at h ⊢
    by_cases h11 : (nth a at_).kind = 11
    · simp only [h11, decide_true, cond_true] at h ⊢
      unfold partW at h ⊢
      rw [hos, disc_left hpos]
      cases hp : W.os.getLast? with
      | none => rw [hp] at h; cases h
      | some p =>
        rw [hp] at h
        simp only at h ⊢
        cases hb : (inDiscB a W.os && decide (p.2 + 1 ≤ 2)) with
        | false => rw [hb] at h; cases h
        | true =>
          rw [hb] at h
          simp only [cond_true, Option.some.injEq] at h ⊢
          subst h
          rfl
    · simp only [h11, decide_false, cond_false] at h ⊢
      rw [hos, disc_left hpos]
      cases hb : (!inDiscB a W.os || brokenB (nth a at_)) with
      | false => rw [hb] at h; cases h
      | true =>
        rw [hb, cond_true, Option.some.injEq] at h
        rw [cond_true, Option.some.injEq]
        subst h
        cases enters (nth a at_).kind with
        | true => rfl
        | false =>
          simp only [cond_false, extW]
          rw [List.set_append_left _ _ (by rw [I.len]; exact hl)]
theorem walk_left {a b : List Nod} : ∀ {n at_ : Nat} {W W' : Wk}, walkW a n at_ W = some W' → at_ + n ≤ a.length → WI W a.length at_ → walkW (a ++ b) n at_ (extW b.length W) = some (extW b.length W')
  | 0, at_, W, W', h, _, I => by
    simp only [walkW, Option.some.injEq] at h ⊢
    rw [h]
  | n + 1, at_, W, W', h, hl, I => by
    unfold walkW at h ⊢
    rw [nth_left (by omega)]
    cases hr : rightB (nth a at_) with
    | false => rw [hr] at h; cases h
    | true =>
      rw [hr, cond_true] at h
      rw [cond_true]
      split at h
      · rename_i W1 h1
        rw [step_left h1 (by omega) I]
        exact walk_left h (by omega) (wi_step h1 (by omega) I)
      · cases h
/-- a place moved -/
def sh (m x : Nat) : Nat := if x = 0 then 0 else x + m
/-- a walk over the second list, in both -/
def mvW (A : Wk) (m : Nat) (W : Wk) : Wk := ⟨A.beh ++ W.beh.map (sh m), W.os.map fun p => (p.1 + m, p.2), if A.d ≤ W.d then W.d else A.d⟩
theorem disc_right {a b : List Nod} {os : List (Nat × Nat)} : inDiscB (a ++ b) (os.map fun p => (p.1 + a.length, p.2)) = inDiscB b os := by
  unfold inDiscB
  rw [List.getLast?_map]
  cases hp : os.getLast? with
  | none => rfl
  | some p => simp only [Option.map_some, nth_right]
theorem sh_succ (m x : Nat) : sh m (x + 1) = x + m + 1 := by simp [sh]; omega
theorem set_right (A : List Nat) (beh : List Nat) (k v : Nat) : (A ++ beh.map (sh A.length)).set (k + A.length) (v + A.length + 1) = A ++ (beh.set k (v + 1)).map (sh A.length) := by
  rw [List.set_append_right _ _ (by omega), Nat.add_sub_cancel, List.map_set, sh_succ]
theorem deep_max (x d : Int) (m : Nat) : (if x ≤ deep d m then deep d m else x) = deep (if x ≤ d then d else x) m := by
  unfold deep
  (repeat' split) <;> first | rfl | omega
theorem step_right {a b : List Nod} {A : Wk} {at_ : Nat} {W W' : Wk} (hA : A.beh.length = a.length) (h : stepW b at_ W = some W') : stepW (a ++ b) (at_ + a.length) (mvW A a.length W) = some (mvW A a.length W') := by
  unfold stepW at h ⊢
  rw [nth_right]
  have hos : (mvW A a.length W).os = W.os.map fun p => (p.1 + a.length, p.2) := rfl
  have hol : (mvW A a.length W).os.length = W.os.length := by simp [hos]
  by_cases h6 : (nth b at_).kind = 6
  · simp only [h6, decide_true, cond_true] at h ⊢
    unfold leaveW at h ⊢
    rw [hos, disc_right, List.getLast?_map]
    cases hp : W.os.getLast? with
    | none => rw [hp] at h; cases h
    | some p =>
      rw [hp] at h
      simp only [Option.map_some] at h ⊢
      cases hb : (inDiscB b W.os && !decide (p.2 = 2)) with
      | true => rw [hb] at h; cases h
      | false =>
        rw [hb] at h
        simp only [cond_false, Option.some.injEq] at h ⊢
        subst h
        have := set_right A.beh W.beh p.1 at_
        rw [hA] at this
        simp only [mvW, this, List.map_dropLast]
  · simp only [h6, decide_false, cond_false] at h ⊢
    by_cases h11 : (nth b at_).kind = 11
    · simp only [h11, decide_true, cond_true] at h ⊢
      unfold partW at h ⊢
      rw [hos, disc_right, List.getLast?_map]
      cases hp : W.os.getLast? with
      | none => rw [hp] at h; cases h
      | some p =>
        rw [hp] at h
        simp only [Option.map_some] at h ⊢
        cases hb : (inDiscB b W.os && decide (p.2 + 1 ≤ 2)) with
        | false => rw [hb] at h; cases h
        | true =>
          rw [hb] at h
          simp only [cond_true, Option.some.injEq] at h ⊢
          subst h
          simp only [mvW, List.map_dropLast, List.map_append, List.map_cons, List.map_nil]
    · simp only [h11, decide_false, cond_false] at h ⊢
      rw [hol, hos, disc_right]
      cases hb : (!inDiscB b W.os || brokenB (nth b at_)) with
      | false => rw [hb] at h; cases h
      | true =>
        rw [hb, cond_true, Option.some.injEq] at h
        rw [cond_true, Option.some.injEq]
        subst h
        cases enters (nth b at_).kind with
        | true =>
          simp only [cond_true, mvW, List.map_append, List.map_cons, List.map_nil, deep_max]
        | false =>
          have := set_right A.beh W.beh at_ at_
          rw [hA] at this
          simp only [cond_false, mvW, this, deep_max]
theorem walk_right {a b : List Nod} {A : Wk} (hA : A.beh.length = a.length) : ∀ {n at_ : Nat} {W W' : Wk}, walkW b n at_ W = some W' → walkW (a ++ b) n (at_ + a.length) (mvW A a.length W) = some (mvW A a.length W')
  | 0, at_, W, W', h => by
    simp only [walkW, Option.some.injEq] at h ⊢
    rw [h]
  | n + 1, at_, W, W', h => by
    unfold walkW at h ⊢
    rw [nth_right]
    cases hr : rightB (nth b at_) with
    | false => rw [hr] at h; cases h
    | true =>
      rw [hr, cond_true] at h
      rw [cond_true]
      split at h
      · rename_i W1 h1
        rw [step_right hA h1]
        have := walk_right hA h (a := a)
        rwa [show at_ + 1 + a.length = at_ + a.length + 1 by omega] at this
      · cases h
theorem walk_split {l : List Nod} : ∀ {n m at_ : Nat} {W W1 : Wk}, walkW l n at_ W = some W1 → walkW l (n + m) at_ W = walkW l m (at_ + n) W1
  | 0, m, at_, W, W1, h => by
    simp only [walkW, Option.some.injEq] at h
    subst h
    rw [Nat.zero_add, Nat.add_zero]
  | n + 1, m, at_, W, W1, h => by
    have e : ∀ N, walkW l (N + 1) at_ W = bif rightB (nth l at_) then (match stepW l at_ W with | some W' => walkW l N (at_ + 1) W' | none => none) else none := fun _ => rfl
    rw [show n + 1 + m = (n + m) + 1 by omega, e]
    rw [e] at h
    cases hr : rightB (nth l at_) with
    | false => rw [hr] at h; cases h
    | true =>
      rw [hr, cond_true] at h
      rw [cond_true]
      split at h
      · rename_i W2 h2
        rw [walk_split h, show at_ + 1 + n = at_ + (n + 1) by omega]
      · cases h
/-- the walk over two lists, one behind the other -/
theorem walk_join {a b : List Nod} {A B : Wk} (ha : walkW a a.length 0 (walk0 a) = some A) (hb : walkW b b.length 0 (walk0 b) = some B) (hoa : A.os.length = 0) (hda : 0 ≤ A.d) :
    walkW (a ++ b) (a ++ b).length 0 (walk0 (a ++ b)) = some (mvW A a.length B) := by
  obtain ⟨_, hlen⟩ := good_ch ha hoa
  have hI : WI (walk0 a) a.length 0 := ⟨by simp [walk0], fun p hp => by simp [walk0] at hp, by simp [walk0], .refl 0⟩
  have h1 := walk_left (b := b) ha (by omega) hI
  have e0 : extW b.length (walk0 a) = walk0 (a ++ b) := by simp [extW, walk0, List.replicate_append_replicate]
  rw [e0] at h1
  rw [List.length_append, walk_split h1, Nat.zero_add]
  have h2 := walk_right (a := a) hlen hb
  rw [Nat.zero_add] at h2
  have e1 : mvW A a.length (walk0 b) = extW b.length A := by
    have ho : A.os = [] := List.length_eq_zero_iff.1 hoa
    simp only [mvW, extW, walk0, ho, List.map_nil, List.map_replicate]
    congr 1
    have key : ∀ x : Int, 0 ≤ x → (if x ≤ (0 : Int) then (0 : Int) else x) = x := fun x hx => by split <;> omega
    exact key A.d hda
  rw [← e1]
  exact h2

theorem getD_left {A B : List Nat} {k : Nat} (h : k < A.length) : (A ++ B).getD k 0 = A.getD k 0 := by simp [List.getD, List.getElem?_append_left h]
theorem getD_right {A B : List Nat} {k : Nat} (h : k < B.length) : (A ++ B.map (sh A.length)).getD (k + A.length) 0 = sh A.length (B.getD k 0) := by
  simp [List.getD, List.getElem?_append_right, h]
theorem Ch.left {A B : List Nat} {s e : Nat} (h : Ch A s e) : Ch (A ++ B) s e := by
  induction h with
  | refl s => exact .refl s
  | step h1 h2 h3 ih => exact .step (by simp; omega) (by rw [getD_left h1]; exact h2) (by rw [getD_left h1]; exact ih)
theorem sh_pos {m x s : Nat} (h : s < x) : sh m x = x + m := by unfold sh; rw [if_neg (by omega)]
theorem Ch.right {A B : List Nat} {s e : Nat} (h : Ch B s e) : Ch (A ++ B.map (sh A.length)) (s + A.length) (e + A.length) := by
  induction h with
  | refl s => exact .refl _
  | step h1 h2 h3 ih =>
    refine .step (by simp; omega) ?_ ?_
    · rw [getD_right h1, sh_pos h2]; omega
    · rw [getD_right h1, sh_pos h2]; exact ih
theorem items_right {A B : List Nat} {s e : Nat} (h : Ch B s e) : ∀ f, (itemsF (A ++ B.map (sh A.length)) (e + A.length) f (s + A.length)).length = (itemsF B e f s).length := by
  induction h with
  | refl s => intro f; cases f <;> simp [itemsF]
  | @step s e h1 h2 h3 ih =>
    intro f
    have := h3.le
    cases f with
    | zero => rfl
    | succ f =>
      simp only [itemsF]
      rw [if_pos (by omega), if_pos (by omega), getD_right h1, sh_pos h2]
      simp only [List.length_cons, ih f]
theorem items_left {A B : List Nat} {s e : Nat} (h : Ch A s e) : ∀ (T f : Nat), e ≤ T → T - s ≤ f → Ch (A ++ B) e T → (itemsF (A ++ B) T f s).length = (itemsF A e f s).length + (itemsF (A ++ B) T f e).length := by
  induction h with
  | refl s => intro T f _ _ _; cases f <;> simp [itemsF]
  | @step s e h1 h2 h3 ih =>
    intro T f hT hf h4
    have := h3.le
    cases f with
    | zero => omega
    | succ f =>
      have h5 := ih T f hT (by omega) h4
      have h6 := h4.fuel (f + 1) f (by omega) (by omega)
      rw [h6]
      simp only [itemsF]
      rw [if_pos (by omega), if_pos (by omega), getD_left h1]
      simp only [List.length_cons, h5]
      omega
/-- two lists have as many items as both together -/
theorem items_join {a b : List Nod} {A B : Wk} (ha : walkW a a.length 0 (walk0 a) = some A) (hb : walkW b b.length 0 (walk0 b) = some B) (hoa : A.os.length = 0) (hob : B.os.length = 0) :
    (itemsF (mvW A a.length B).beh (a ++ b).length (a ++ b).length 0).length = (itemsF A.beh a.length a.length 0).length + (itemsF B.beh b.length b.length 0).length := by
  obtain ⟨h1, h2⟩ := good_ch ha hoa
  obtain ⟨h3, h4⟩ := good_ch hb hob
  have e : (mvW A a.length B).beh = A.beh ++ B.beh.map (sh A.beh.length) := by simp [mvW, h2]
  rw [e]
  have h5 := h3.right (A := A.beh)
  rw [Nat.zero_add, h2, Nat.add_comm b.length, ← List.length_append] at h5
  have h6 := items_left (B := B.beh.map (sh A.beh.length)) h1 (a ++ b).length (a ++ b).length (by simp) (by omega) (by rw [h2]; exact h5)
  rw [h6, h1.fuel (a ++ b).length a.length (by simp) (by omega)]
  have h7 := items_right (A := A.beh) h3 (a ++ b).length
  rw [Nat.zero_add, h2, Nat.add_comm b.length, ← List.length_append] at h7
  rw [h2, h7, h3.fuel (a ++ b).length b.length (by simp) (by omega)]
end Go.Proofs.Ytcncfmjfgdbfeab
