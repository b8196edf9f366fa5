/- nodes: what a row holds, item by item; of two lists, one behind the other. -/
import Derived.Test.YtohbomeodcjenaaM38
namespace Go.Proofs.Ytohbomeodcjenaa
open Go.RowKit

theorem Ch.small {beh : List Nat} {s e : Nat} (h : Ch beh s e) : s = e ∨ s < beh.length := by
  rcases h.inv with h | h
  · exact .inl h
  · exact .inr h.1
theorem kind_in {n : Nod} (h : rightB n = true) : 1 ≤ n.kind ∧ n.kind ≤ 17 := by
  have h2 : ¬ (n.kind < 1 ∨ 17 < n.kind) := fun h' => by rw [rightB_no _ h'] at h; cases h
  omega
/-- where a list within ends -/
def endF (beh : List Nat) : Nat → Nat → Nat
  | 0, at_ => at_
  | f + 1, at_ => if beh.getD at_ 0 = 0 then at_ else endF beh f (beh.getD at_ 0)
theorem Ch.endF {beh : List Nat} {s e : Nat} (h : Ch beh s e) (z : beh.getD e 0 = 0) : ∀ f, e - s ≤ f → endF beh f s = e := by
  induction h with
  | refl s =>
    intro f _
    cases f with
    | zero => rfl
    | succ f => simp only [Proofs.Ytohbomeodcjenaa.endF]; rw [if_pos z]
  | @step s e h1 h2 h3 ih =>
    intro f hf
    have := h3.le
    cases f with
    | zero => omega
    | succ f =>
      simp only [Proofs.Ytohbomeodcjenaa.endF]
      rw [if_neg (by omega)]
      exact ih z f (by omega)
def third (beh : List Nat) (p : Nat) : Nat × Nat :=
  (endF beh beh.length (endF beh beh.length (p + 1) + 1) + 1, endF beh beh.length (endF beh beh.length (endF beh beh.length (p + 1) + 1) + 1))
structure Three (beh : List Nat) (p s1 s2 e : Nat) : Prop where
  h1 : Ch beh (p + 1) s1
  z1 : beh.getD s1 0 = 0
  h2 : Ch beh (s1 + 1) s2
  z2 : beh.getD s2 0 = 0
  h3 : Ch beh (s2 + 1) e
  z3 : beh.getD e 0 = 0
  he : e < beh.length
theorem three_of' {l : List Nod} {W : Wk} (h : Good l W) {p : Nat} (hp : W.beh.getD p 0 ≠ 0) (h10 : (nth l p).kind = 10) : ∃ s1 s2 e, Three W.beh p s1 s2 e ∧ third W.beh p = (s2 + 1, e) ∧ e ≤ W.beh.getD p 0 := by
  obtain ⟨h1, h2, h3⟩ := h.discs p hp
  obtain ⟨h3, h4⟩ := h3 h10
  obtain ⟨_, hlen⟩ := good_ch h.walk h.os
  generalize he : W.beh.getD p 0 - 1 = e at h3 h4
  cases h3 with
  | more a1 a2 a3 r =>
    rename_i s1
    cases r with
    | more b1 b2 b3 r =>
      rename_i s2
      cases r with
      | last c1 =>
        have l1 := a1.le
        have l2 := b1.le
        have l3 := c1.le
        refine ⟨s1, s2, e, ⟨a1, a3, b1, b3, c1, h4, by omega⟩, ?_, by omega⟩
        unfold third
        rw [a1.endF a3 _ (by omega), b1.endF b3 _ (by omega), c1.endF h4 _ (by omega)]
theorem three_of {l : List Nod} {W : Wk} (h : Good l W) {p : Nat} (hp : W.beh.getD p 0 ≠ 0) (h10 : (nth l p).kind = 10) : ∃ s1 s2 e, Three W.beh p s1 s2 e ∧ third W.beh p = (s2 + 1, e) := by
  obtain ⟨s1, s2, e, t, h1, _⟩ := three_of' h hp h10
  exact ⟨s1, s2, e, t, h1⟩
def hereF (l : List Nod) (beh : List Nat) (p : Nat) : Nat × Nat := if (nth l p).kind = 10 then third beh p else (p, beh.getD p 0)
/-- what one item of a row holds -/
def partN (l : List Nod) (beh : List Nat) (p : Nat) : List Nod := (itemsF beh (hereF l beh p).2 l.length (hereF l beh p).1).map (nth l)
def rowN (l : List Nod) (W : Wk) : List Nod := (itemsF W.beh l.length l.length 0).flatMap (partN l W.beh)
theorem here_ch {l : List Nod} {W : Wk} (h : Good l W) {p : Nat} (hl : p < W.beh.length) (hp : p < W.beh.getD p 0) : Ch W.beh (hereF l W.beh p).1 (hereF l W.beh p).2 ∧ (hereF l W.beh p).2 ≤ l.length := by
  obtain ⟨h1, h2, _⟩ := h.discs p (by omega)
  obtain ⟨_, hlen⟩ := good_ch h.walk h.os
  unfold hereF
  split
  · rename_i h10
    obtain ⟨s1, s2, e, t, ht⟩ := three_of h (by omega) h10
    rw [ht]
    have := t.he
    exact ⟨t.h3, by show e ≤ l.length; omega⟩
  · exact ⟨.step hl hp (.refl _), h2⟩
/-- where the walk over the items stands -/
structure ROX (l : List Nod) (beh : List Nat) (v : Nod → Int) (T : Int) (S : List Nod) where
  at_ : Nat
  ch : Ch beh at_ l.length
  nat : Int
  ss : List Nod
  base : Option Addr
  cap : Nat
  e : HE
  sk : SkIs ss base cap e
  n : Nat
  hn : ss.length = n
  isT : natF v ((itemsF beh l.length l.length at_).flatMap (partN l beh)) nat = T
  isS : ss ++ skF ((itemsF beh l.length l.length at_).flatMap (partN l beh)) = S
/-- where the walk over one item's own stands -/
structure RIX (l : List Nod) (beh : List Nat) (v : Nod → Int) (to : Nat) (T : Int) (S : List Nod) where
  at_ : Nat
  ch : Ch beh at_ to
  nat : Int
  ss : List Nod
  base : Option Addr
  cap : Nat
  e : HE
  sk : SkIs ss base cap e
  n : Nat
  hn : ss.length = n
  isT : natF v ((itemsF beh to l.length at_).map (nth l)) nat = T
  isS : ss ++ skF ((itemsF beh to l.length at_).map (nth l)) = S
theorem items_unroll {beh : List Nat} {at_ to n : Nat} (h : Ch beh at_ to) (hl : at_ < to) (hto : to ≤ n) : itemsF beh to n at_ = at_ :: itemsF beh to n (beh.getD at_ 0) ∧ at_ < beh.length ∧ at_ < beh.getD at_ 0 ∧ Ch beh (beh.getD at_ 0) to := by
  rcases h.inv with h1 | ⟨h1, h2, h3⟩
  · omega
  · refine ⟨?_, h1, h2, h3⟩
    obtain ⟨m, rfl⟩ : ∃ m, n = m + 1 := ⟨n - 1, by omega⟩
    rw [show itemsF beh to (m + 1) at_ = at_ :: itemsF beh to m (beh.getD at_ 0) by simp [itemsF, hl], h3.fuel (m + 1) m (by omega) (by omega)]
theorem items_end {beh : List Nat} {at_ to n : Nat} (h : ¬ at_ < to) : itemsF beh to n at_ = [] := by cases n <;> simp [itemsF, h]
section
variable {l : List Nod} {beh : List Nat} {v : Nod → Int} {T : Int} {S : List Nod} {to : Nat}
def RIX.next (x : RIX l beh v to T S) (h : x.at_ < to) (hto : to ≤ l.length) (ss : List Nod) (base : Option Addr) (cap : Nat) (e : HE) (sk : SkIs ss base cap e) (m : Nat) (hm : ss.length = m) (hss : ss = if (nth l x.at_).kind = 7 then x.ss ++ [nth l x.at_] else x.ss) : RIX l beh v to T S :=
  ⟨beh.getD x.at_ 0, (items_unroll x.ch h hto).2.2.2, wr x.nat (v (nth l x.at_)), ss, base, cap, e, sk, m, hm, by
    have := x.isT
    rw [(items_unroll x.ch h hto).1] at this
    exact this, by
    have := x.isS
    rw [(items_unroll x.ch h hto).1] at this
    refine Eq.trans ?_ this
    rw [hss]
    by_cases h7 : (nth l x.at_).kind = 7
    · simp [skF, h7]
    · simp [skF, h7]⟩
theorem RIX.done (x : RIX l beh v to T S) (h : ¬ x.at_ < to) : x.nat = T ∧ x.ss = S := by
  have h1 := x.isT
  have h2 := x.isS
  rw [items_end h] at h1 h2
  exact ⟨h1, by simpa [skF] using h2⟩
theorem RIX.len (x : RIX l beh v to T S) : x.ss.length ≤ S.length := by
  have := congrArg List.length x.isS
  rw [List.length_append] at this
  omega
theorem ROX.done (x : ROX l beh v T S) (h : ¬ x.at_ < l.length) : x.nat = T ∧ x.ss = S := by
  have h1 := x.isT
  have h2 := x.isS
  rw [items_end h] at h1 h2
  exact ⟨h1, by simpa [skF] using h2⟩
theorem ROX.len (x : ROX l beh v T S) : x.ss.length ≤ S.length := by
  have := congrArg List.length x.isS
  rw [List.length_append] at this
  omega
/-- the way into one item -/
def ROX.into (x : ROX l beh v T S) (h : Ch beh (hereF l beh x.at_).1 (hereF l beh x.at_).2) : RIX l beh v (hereF l beh x.at_).2 (natF v (partN l beh x.at_) x.nat) (x.ss ++ skF (partN l beh x.at_)) :=
  ⟨(hereF l beh x.at_).1, h, x.nat, x.ss, x.base, x.cap, x.e, x.sk, x.n, x.hn, rfl, rfl⟩
def ROX.into2 (x : ROX l beh v T S) {s to : Nat} (hh : hereF l beh x.at_ = (s, to)) (h : Ch beh s to) : RIX l beh v to (natF v (partN l beh x.at_) x.nat) (x.ss ++ skF (partN l beh x.at_)) :=
  ⟨s, h, x.nat, x.ss, x.base, x.cap, x.e, x.sk, x.n, x.hn, by unfold partN; rw [hh], by unfold partN; rw [hh]⟩
/-- and out of it -/
def ROX.next (x : ROX l beh v T S) (h : x.at_ < l.length) (y : RIX l beh v to (natF v (partN l beh x.at_) x.nat) (x.ss ++ skF (partN l beh x.at_))) (hy : ¬ y.at_ < to) : ROX l beh v T S :=
  ⟨beh.getD x.at_ 0, (items_unroll x.ch h (Nat.le_refl _)).2.2.2, y.nat, y.ss, y.base, y.cap, y.e, y.sk, y.n, y.hn, by
    have := x.isT
    rw [(items_unroll x.ch h (Nat.le_refl _)).1, List.flatMap_cons, natF_app] at this
    rw [(y.done hy).1]
    exact this, by
    have := x.isS
    rw [(items_unroll x.ch h (Nat.le_refl _)).1, List.flatMap_cons, skF_app, ← List.append_assoc] at this
    rw [(y.done hy).2]
    exact this⟩
end
theorem items_mem {beh : List Nat} {s e : Nat} (h : Ch beh s e) : ∀ {f k : Nat}, k ∈ itemsF beh e f s → k < beh.length ∧ k < beh.getD k 0 ∧ beh.getD k 0 ≤ e := by
  induction h with
  | refl s =>
    intro f k hk
    rw [items_end (Nat.lt_irrefl s)] at hk
    cases hk
  | @step s e h1 h2 h3 ih =>
    intro f k hk
    cases f with
    | zero => cases hk
    | succ f =>
      have := h3.le
      simp only [itemsF] at hk
      rw [if_pos (by omega)] at hk
      rcases List.mem_cons.1 hk with rfl | hk
      · exact ⟨h1, h2, this⟩
      · exact ih hk
theorem Three.third {beh : List Nat} {p s1 s2 e : Nat} (t : Three beh p s1 s2 e) : Proofs.Ytohbomeodcjenaa.third beh p = (s2 + 1, e) := by
  have l1 := t.h1.le
  have l2 := t.h2.le
  have l3 := t.h3.le
  have l4 := t.he
  unfold Proofs.Ytohbomeodcjenaa.third
  rw [t.h1.endF t.z1 _ (by omega), t.h2.endF t.z2 _ (by omega), t.h3.endF t.z3 _ (by omega)]
theorem Three.left {A B : List Nat} {p s1 s2 e : Nat} (t : Three A p s1 s2 e) : Three (A ++ B) p s1 s2 e := by
  have l2 := t.h2.le
  have l3 := t.h3.le
  have l4 := t.he
  exact ⟨t.h1.left, by rw [getD_left (by omega)]; exact t.z1, t.h2.left, by rw [getD_left (by omega)]; exact t.z2, t.h3.left, by rw [getD_left l4]; exact t.z3, by simp; omega⟩
theorem sh_zero (m : Nat) : sh m 0 = 0 := rfl
theorem Three.right {A B : List Nat} {p s1 s2 e : Nat} (t : Three B p s1 s2 e) : Three (A ++ B.map (sh A.length)) (p + A.length) (s1 + A.length) (s2 + A.length) (e + A.length) := by
  have l2 := t.h2.le
  have l3 := t.h3.le
  have l4 := t.he
  refine ⟨?_, by rw [getD_right (by omega), t.z1]; rfl, ?_, by rw [getD_right (by omega), t.z2]; rfl, ?_, by rw [getD_right l4, t.z3]; rfl, by simp; omega⟩
  · have := t.h1.right (A := A)
    rwa [show p + 1 + A.length = p + A.length + 1 by omega] at this
  · have := t.h2.right (A := A)
    rwa [show s1 + 1 + A.length = s1 + A.length + 1 by omega] at this
  · have := t.h3.right (A := A)
    rwa [show s2 + 1 + A.length = s2 + A.length + 1 by omega] at this
/-- an item's own list, in both -/
theorem here_left {a b : List Nod} {A B : Wk} (ha : Good a A) (hA : A.beh.length = a.length) {k : Nat} (hk : k < A.beh.length) (hk2 : k < A.beh.getD k 0) : hereF (a ++ b) (A.beh ++ B.beh.map (sh A.beh.length)) k = hereF a A.beh k := by
  unfold hereF
  rw [nth_left (by omega), getD_left hk]
  by_cases h10 : (nth a k).kind = 10
  · rw [if_pos h10, if_pos h10]
    obtain ⟨s1, s2, e, t, _⟩ := three_of ha (by omega) h10
    rw [t.third, (t.left (B := B.beh.map (sh A.beh.length))).third]
  · rw [if_neg h10, if_neg h10]
theorem here_right {a b : List Nod} {A B : Wk} (hb : Good b B) (hA : A.beh.length = a.length) {k : Nat} (hk : k < B.beh.length) (hk2 : k < B.beh.getD k 0) : hereF (a ++ b) (A.beh ++ B.beh.map (sh A.beh.length)) (k + a.length) = ((hereF b B.beh k).1 + a.length, (hereF b B.beh k).2 + a.length) := by
  unfold hereF
  rw [nth_right, ← hA, getD_right hk, sh_pos hk2]
  by_cases h10 : (nth b k).kind = 10
  · rw [if_pos h10, if_pos h10]
    obtain ⟨s1, s2, e, t, _⟩ := three_of hb (by omega) h10
    rw [t.third, (t.right (A := A.beh)).third]
    show _ = (s2 + 1 + A.beh.length, e + A.beh.length)
    rw [show s2 + A.beh.length + 1 = s2 + 1 + A.beh.length by omega]
  · rw [if_neg h10, if_neg h10]
theorem part_left {a b : List Nod} {A B : Wk} (ha : Good a A) (hA : A.beh.length = a.length) {k : Nat} (hk : k < A.beh.length) (hk2 : k < A.beh.getD k 0) : partN (a ++ b) (A.beh ++ B.beh.map (sh A.beh.length)) k = partN a A.beh k := by
  unfold partN
  rw [here_left ha hA hk hk2]
  obtain ⟨h1, h2⟩ := here_ch ha hk hk2
  have h3 := itemsL_left (B := B.beh.map (sh A.beh.length)) h1 (hereF a A.beh k).2 (a ++ b).length (Nat.le_refl _) (by simp; omega) (.refl _)
  rw [items_end (Nat.lt_irrefl _), List.append_nil] at h3
  rw [h3, h1.fuel (a ++ b).length a.length (by simp; omega) (by omega)]
  exact List.map_congr_left fun q hq => nth_left (by have := items_lt hq; omega)
theorem part_right {a b : List Nod} {A B : Wk} (hb : Good b B) (hA : A.beh.length = a.length) {k : Nat} (hk : k < B.beh.length) (hk2 : k < B.beh.getD k 0) : partN (a ++ b) (A.beh ++ B.beh.map (sh A.beh.length)) (k + a.length) = partN b B.beh k := by
  unfold partN
  rw [here_right hb hA hk hk2]
  obtain ⟨h1, h2⟩ := here_ch hb hk hk2
  have h3 := itemsL_right (A := A.beh) h1 (a ++ b).length
  rw [hA] at h3
  rw [hA]
  dsimp only
  rw [h3, h1.fuel (a ++ b).length b.length (by simp; omega) (by omega), List.map_map]
  exact List.map_congr_left fun q _ => nth_right
theorem flat_congr {α β : Type} {l : List α} {f g : α → List β} (h : ∀ x ∈ l, f x = g x) : l.flatMap f = l.flatMap g := by
  show (l.map f).flatten = (l.map g).flatten
  rw [List.map_congr_left h]
theorem rowN_join {a b : List Nod} {A B : Wk} (ha : Good a A) (hb : Good b B) : rowN (a ++ b) (mvW A a.length B) = rowN a A ++ rowN b B := by
  obtain ⟨h1, hA⟩ := good_ch ha.walk ha.os
  obtain ⟨h3, hB⟩ := good_ch hb.walk hb.os
  have e : (mvW A a.length B).beh = A.beh ++ B.beh.map (sh A.beh.length) := by simp [mvW, hA]
  unfold rowN
  rw [itemsL_join ha hb, List.flatMap_append, List.flatMap_map, e]
  congr 1
  · refine flat_congr fun k hk => ?_
    obtain ⟨q1, q2, _⟩ := items_mem h1 hk
    exact part_left ha hA q1 q2
  · refine flat_congr fun k hk => ?_
    obtain ⟨q1, q2, _⟩ := items_mem h3 hk
    exact part_right hb hA q1 q2
theorem ch_len {beh : List Nat} {s e : Nat} (h : Ch beh s e) (f : Nat) : (itemsF beh e f s).length ≤ e - s := by
  rcases Nat.le_total f (e - s) with hf | hf
  · have := items_le (beh := beh) (to := e) (f := f) (at_ := s)
    omega
  · rw [h.fuel f (e - s) hf (Nat.le_refl _)]
    exact items_le
theorem here_le {l : List Nod} {W : Wk} (h : Good l W) {p : Nat} (hp : p < W.beh.getD p 0) : p ≤ (hereF l W.beh p).1 ∧ (hereF l W.beh p).2 ≤ W.beh.getD p 0 := by
  unfold hereF
  split
  · rename_i h10
    obtain ⟨s1, s2, e, t, ht, he⟩ := three_of' h (by omega) h10
    rw [ht]
    have l1 := t.h1.le
    have l2 := t.h2.le
    exact ⟨by show p ≤ s2 + 1; omega, he⟩
  · exact ⟨Nat.le_refl _, Nat.le_refl _⟩
theorem part_len {l : List Nod} {W : Wk} (h : Good l W) {p : Nat} (hl : p < W.beh.length) (hp : p < W.beh.getD p 0) : (partN l W.beh p).length ≤ W.beh.getD p 0 - p := by
  obtain ⟨h1, _⟩ := here_ch h hl hp
  obtain ⟨h2, h3⟩ := here_le h hp
  have := ch_len h1 l.length
  simp only [partN, List.length_map]
  omega
theorem flat_len {l : List Nod} {W : Wk} (h : Good l W) {s e : Nat} (hc : Ch W.beh s e) : ∀ f, ((itemsF W.beh e f s).flatMap (partN l W.beh)).length ≤ e - s := by
  induction hc with
  | refl s => intro f; rw [items_end (Nat.lt_irrefl s)]; simp
  | @step s e h1 h2 h3 ih =>
    intro f
    cases f with
    | zero => simp [itemsF]
    | succ f =>
      have := h3.le
      have h4 := ih f
      have h5 := part_len h h1 h2
      simp only [itemsF]
      rw [if_pos (by omega), List.flatMap_cons, List.length_append]
      omega
theorem rowN_len {l : List Nod} {W : Wk} (h : Good l W) : (rowN l W).length ≤ l.length := by
  obtain ⟨h1, _⟩ := good_ch h.walk h.os
  exact flat_len h h1 l.length
theorem rowN_right {l : List Nod} {W : Wk} (h : Good l W) : ∀ n ∈ rowN l W, rightB n = true := fun n hn => by
  obtain ⟨k, hk, hn⟩ := List.mem_flatMap.1 hn
  obtain ⟨h1, hlen⟩ := good_ch h.walk h.os
  obtain ⟨q1, q2, _⟩ := items_mem h1 hk
  obtain ⟨h2, h3⟩ := here_ch h q1 q2
  obtain ⟨q, hq, rfl⟩ := List.mem_map.1 hn
  exact h.right q (by have := items_lt hq; omega)
end Go.Proofs.Ytohbomeodcjenaa
