/- NodJoin NodCn2 NodJn2 NodSeg. -/
import Derived.Test.YtcncfmjfgdbfeaaM26
namespace Go.Proofs.Ytcncfmjfgdbfeaa
open Go.RowKit
theorem nth_left {a b : List Nod} {k : Nat} (h : k < a.length) : nth (a ++ b) k = nth a k := by
 simp [nth, List.getD, List.getElem?_append_left h]
theorem nth_right {a b : List Nod} {k : Nat} : nth (a ++ b) (k + a.length) = nth b k := by
 simp [nth, List.getD, List.getElem?_append_right]
def sh (m x : Nat) : Nat := if x = 0 then 0 else x + m
theorem getD_left {A B : List Nat} {k : Nat} (h : k < A.length) : (A ++ B).getD k 0 = A.getD k 0 := by simp [List.getD, List.getElem?_append_left h]
theorem getD_right {A B : List Nat} {k : Nat} (h : k < B.length) : (A ++ B.map (sh A.length)).getD (k + A.length) 0 = sh A.length (B.getD k 0) := by
 simp [List.getD, List.getElem?_append_right, h]
theorem Ch.left {A B : List Nat} {s e : Nat} (h : Ch A s e) : Ch (A ++ B) s e := by
 induction h with
 | refl s => exact .refl s
 | step h1 h2 h3 ih => exact .step (by simp; omega) (by rw [getD_left h1]; exact h2) (by rw [getD_left h1]; exact ih)
theorem sh_pos {m x s : Nat} (h : s < x) : sh m x = x + m := by unfold sh; rw [if_neg (by omega)]
theorem Ch.right {A B : List Nat} {s e : Nat} (h : Ch B s e) : Ch (A ++ B.map (sh A.length)) (s + A.length) (e + A.length) := by
 induction h with
 | refl s => exact .refl _
 | step h1 h2 h3 ih =>
  refine .step (by simp; omega) ?_ ?_
  ·rw [getD_right h1, sh_pos h2]; omega
  rw [getD_right h1, sh_pos h2]; exact ih
end Go.Proofs.Ytcncfmjfgdbfeaa
namespace Go.Proofs.Ytcncfmjfgdbfeaa
set_option maxRecDepth 100000
set_option maxHeartbeats 4000000
open Go.RowKit
theorem Sat.one {w w' : World} {bb : Nat} {cs : List Value} {T : TypeId} (k : Kept w w') (hb : w.heap.size ≤ bb) (h : w'.heap[bb]? = some (.cells cs.toArray T (0, 0))) : Sat w [] [.obj true bb cs T] w' :=
 ⟨.of_kept k, fun e he => by
  rw [List.mem_singleton.1 he]
  exact ⟨h, fun _ => .inl hb⟩, fun i j e e' hij hi hj => by
  have hi' := (List.getElem?_eq_some_iff.1 hi).1
  have hj' := (List.getElem?_eq_some_iff.1 hj).1
  simp at hi' hj'
  omega⟩
theorem nwhole_any (nb : Option Addr) (nn nc : Nat) (bb : Option Addr) (bn bc : Nat) (w : World) :
  Calls Try.prog 94 #[.agg #[.slice nb nn nc, .slice bb bn bc]] w fun e w' => e = .returned (.agg #[.int .i64 0, .int .i64 (nn : Int)]) ∧ Kept w w' := by
 refine g_enter (args := [.agg #[.slice nb nn nc, .slice bb bn bc]]) [] [] Try.func94 rfl Try.ntmps94 kL (sat0 w) ?_
 refine g0 ?_
 refine gN fun b0 hb0 => ?_
 refine gN fun b1 hb1 => ?_
 refine gA ([0] ++ [1, 1]) 0 ?_
 refine g_ret ([1, 1]) (Value.agg (Array.mk [Value.int IntKind.i64 0, Value.int IntKind.i64 (↑nn : Int)])) kR kR kR fun w' hs => ?_
 exact ⟨rfl, hs.kk⟩
theorem countv_any (beh : List Nat) (bb : Nat) (nb : Option Addr) (nn nc fr to f n : Nat) (hn : (itemsF beh to f fr).length = n) (hok : okF beh to f fr) (hlen : beh.length = to) (hn2 : n ≤ 1000000) (w : World) (hb : w.heap[bb]? = some (.cells (behC beh).toArray 3 (0, 0))) :
  Calls Try.prog 93 #[.agg #[.slice nb nn nc, .slice (some ⟨bb, 0, none⟩) to to], .agg #[.int .i64 (fr : Int), .int .i64 (to : Int)]] w fun e w' => e = .returned (.int .i64 (n : Int)) ∧ Kept w w' := by
 have h := count_any beh bb nb nn nc fr to f hok (by omega) w hb
 rw [hlen, hn] at h
 exact h
theorem countOk_any (l : List Nod) (bl ol cl : Nat) (w : World) (hq : Sat w [] [.row bl ol 19 l.length (rowOf l)] w) (Wf : Wk) (hl : l.length ≤ 2000) (hw : wholeB l (walk0 l) = true) (hW : walkW l l.length 0 (walk0 l) = some Wf) (hd : Wf.d ≤ 40) (n : Nat) (hn : (itemsF Wf.beh l.length l.length 0).length = n) (hok : okF Wf.beh l.length l.length 0) (hlen : Wf.beh.length = l.length) (hn2 : n ≤ 1000000) :
  Calls Try.prog 47 #[.slice (some ⟨bl, ol, none⟩) l.length cl] w fun e w' => e = .returned (.tuple #[.int .i64 (n : Int), .int .i64 0]) ∧ Kept w w' := by
 refine g_enter (args := [.slice (some ⟨bl, ol, none⟩) l.length cl]) [] [.row bl ol 19 l.length (rowOf l)] Try.func47 rfl Try.ntmps47 kL hq ?_
 refine g0 ?_
 refine g_call (X := Nat) _ _ ?_ (fun bb => .tuple #[.agg #[.slice (some ⟨bl, ol, none⟩) l.length cl, .slice (some ⟨bb, 0, none⟩) l.length l.length], .int .i64 0]) (fun bb => [.row bl ol 19 l.length (rowOf l)] ++ [.obj true bb (behC Wf.beh) 3])
  (fun w1 hs => (outline_ok l bl ol cl w1 (hs.read [0] [.row bl ol 19 l.length (rowOf l)] kR) Wf hl hw hW hd).mono fun e w2 ⟨bb, h1, h2, h3, h4⟩ => ⟨bb, h1, (Sat.at hs kR).more (Sat.one h4 h2 h3) (by simp [HE.own])⟩) (fun bb => ?_)
 ·kernel_rfl
 refine g0 ?_
 refine gN fun b2 hb2 => ?_
 refine gA ([2, 2]) 1 ?_
 refine gD 6 ?_
 refine lA (List.replicate 4 2) 0 ?_
 refine l_callq _ _ _ ?_ (fun w hs => nwhole_any (some ⟨bl, ol, none⟩) l.length cl (some ⟨bb, 0, none⟩) l.length l.length w) ?_
 ·kernel_rfl
 refine l_callq _ _ _ ?_ (fun w hs => countv_any Wf.beh bb (some ⟨bl, ol, none⟩) l.length cl 0 l.length l.length n hn hok hlen hn2 w (hs.obj (o := true) (i := 1) kR)) ?_
 ·kernel_rfl
 refine l0 ?_
 refine lE ?_
 refine gR (Value.tuple (Array.mk [Value.int IntKind.i64 (↑n : Int), Value.int IntKind.i64 0])) fun w' hs => ?_
 exact ⟨rfl, hs.kk⟩
end Go.Proofs.Ytcncfmjfgdbfeaa
namespace Go.Proofs.Ytcncfmjfgdbfeaa
open Go.RowKit
structure Good (l : List Nod) (W : Wk) : Prop where
 le : l.length ≤ 2000
 walk : walkW l l.length 0 (walk0 l) = some W
 os : W.os.length = 0
 d : W.d ≤ 40
theorem good_of {l : List Nod} (h : checkB l = 0) : ∃ W, Good l W := by
 unfold checkB at h
 by_cases hl : 2000 < l.length
 ·simp [hl] at h
 simp only [hl, decide_false, cond_false] at h
 split at h
 ·cases h
 rename_i W hW
 by_cases ho : W.os.length = 0
 ·simp only [ho, decide_true, cond_true] at h
  by_cases hd : 40 < W.d
  ·simp [hd] at h
  exact ⟨W, by omega, hW, ho, by omega⟩
 simp [ho] at h
theorem Good.whole {l : List Nod} {W : Wk} (h : Good l W) : wholeB l (walk0 l) = true := by
 unfold wholeB
 simp [h.walk, h.os]
def countN (l : List Nod) (W : Wk) : Nat := (itemsF W.beh l.length l.length 0).length
theorem items_le {beh : List Nat} {to : Nat} : ∀ {f at_ : Nat}, (itemsF beh to f at_).length ≤ f
 | 0, _ => by simp [itemsF]
 | f + 1, at_ => by
  simp only [itemsF]
  split
  ·have := items_le (beh := beh) (to := to) (f := f) (at_ := beh.getD at_ 0)
   simp only [List.length_cons]; omega
  simp
theorem goodCount_any (l : List Nod) (bl ol cl : Nat) (W : Wk) (hG : Good l W) (w : World) (hq : Sat w [] [.row bl ol 19 l.length (rowOf l)] w) :
  Calls Try.prog 47 #[.slice (some ⟨bl, ol, none⟩) l.length cl] w fun e w' => e = .returned (.tuple #[.int .i64 (countN l W : Int), .int .i64 0]) ∧ Kept w w' := by
 obtain ⟨h1, h2⟩ := good_ch hG.walk hG.os
 have h3 : countN l W ≤ l.length := items_le
 have h4 := hG.le
 exact countOk_any l bl ol cl w hq W hG.le hG.whole hG.walk hG.d (countN l W) rfl (h1.ok l.length (by omega)) h2 (by omega)
end Go.Proofs.Ytcncfmjfgdbfeaa
namespace Go.Proofs.Ytcncfmjfgdbfeaa
open Go.RowKit
theorem Ch.before {beh : List Nat} {s e k v : Nat} (h : Ch beh s e) (hk : k < s) : Ch (beh.set k v) s e := by
 induction h with
 | refl s => exact .refl s
 | step h1 h2 h3 ih =>
  refine .step (by simpa using h1) ?_ ?_
  ·rw [getD_set (by omega)]; exact h2
  rw [getD_set (by omega)]; exact ih (by omega)
inductive Segs (beh : List Nat) : Nat → Nat → Nat → Prop where
 | last {s q : Nat} (h : Ch beh s q) : Segs beh 0 s q
 | more {k s m q : Nat} (h : Ch beh s m) (hm : m < beh.length) (h0 : beh.getD m 0 = 0) (r : Segs beh k (m + 1) q) : Segs beh (k + 1) s q
theorem Segs.le {beh : List Nat} {k s q : Nat} (h : Segs beh k s q) : s ≤ q := by
 induction h with
 | last h => exact h.le
 | more h _ _ _ ih => have := h.le; omega
theorem Segs.other {beh : List Nat} {k s q j v : Nat} (h : Segs beh k s q) (hj : q ≤ j) : Segs (beh.set j v) k s q := by
 induction h with
 | last h => exact .last (h.other hj)
 | more h hm h0 r ih =>
  have h1 := r.le
  exact .more (h.other (by omega)) (by simpa using hm) (by rw [getD_set (by omega)]; exact h0) (ih hj)
theorem Segs.before {beh : List Nat} {k s q j v : Nat} (h : Segs beh k s q) (hj : j < s) : Segs (beh.set j v) k s q := by
 induction h with
 | last h => exact .last (h.before hj)
 | more h hm h0 r ih =>
  have h1 := h.le
  exact .more (h.before hj) (by simpa using hm) (by rw [getD_set (by omega)]; exact h0) (ih (by omega))
theorem Segs.stand {beh : List Nat} {k s q v : Nat} (h : Segs beh k s q) (hq : q < beh.length) (hv : q < v) : Segs (beh.set q v) k s v := by
 induction h with
 | last h => exact .last (h.snoc hq hv)
 | more h hm h0 r ih =>
  have h1 := r.le
  exact .more (h.other (by omega)) (by simpa using hm) (by rw [getD_set (by omega)]; exact h0) (ih hq hv)
theorem Segs.sep {beh : List Nat} {k s q : Nat} (h : Segs beh k s q) (hq : q < beh.length) (h0 : beh.getD q 0 = 0) : Segs beh (k + 1) s (q + 1) := by
 induction h with
 | last h => exact .more h hq h0 (.last (.refl _))
 | more h hm h1 r ih => exact .more h hm h1 (ih hq h0)
def OSr (beh : List Nat) : List (Nat × Nat) → Nat → Prop
 | [], _ => True
 | p :: r, q => p.1 < q ∧ Segs beh p.2 (p.1 + 1) q ∧ OSr beh r p.1
theorem OSr.other {beh : List Nat} {j v : Nat} : ∀ {os : List (Nat × Nat)} {q : Nat}, OSr beh os q → q ≤ j → OSr (beh.set j v) os q
 | [], _, _, _ => trivial
 | _ :: _, _, ⟨h0, h1, h2⟩, hj => ⟨h0, h1.other hj, h2.other (by omega)⟩
theorem OSr.stand {beh : List Nat} {os : List (Nat × Nat)} {q v : Nat} (h : OSr beh os q) (hq : q < beh.length) (hv : q < v) : OSr (beh.set q v) os v := by
 cases os with
 | nil => trivial
 | cons p r =>
  obtain ⟨h0, h1, h2⟩ := h
  exact ⟨by omega, h1.stand hq hv, h2.other (by omega)⟩
theorem OSr.lt {beh : List Nat} : ∀ {os : List (Nat × Nat)} {q : Nat}, OSr beh os q → ∀ p ∈ os, p.1 < q
 | [], _, _, _, hp => by cases hp
 | p :: r, q, ⟨h0, _, h2⟩, x, hx => by
  rcases List.mem_cons.1 hx with rfl | hx
  ·exact h0
  have := OSr.lt h2 x hx; omega
structure WJ (l : List Nod) (W : Wk) (at_ : Nat) : Prop where
 len : W.beh.length = l.length
 zero : ∀ q, at_ ≤ q → W.beh.getD q 0 = 0
 open_ : OSr W.beh W.os.reverse at_
 done : ∀ p, W.beh.getD p 0 ≠ 0 → p < W.beh.getD p 0 ∧ W.beh.getD p 0 ≤ at_ ∧ (∀ o ∈ W.os, o.1 < p ∨ W.beh.getD p 0 ≤ o.1) ∧
  ((nth l p).kind = 10 → Segs W.beh 2 (p + 1) (W.beh.getD p 0 - 1) ∧ W.beh.getD (W.beh.getD p 0 - 1) 0 = 0)
theorem getD_here {beh : List Nat} {k v : Nat} (h : k < beh.length) : (beh.set k v).getD k 0 = v := by simp [List.getD, h]
theorem wj_set {l : List Nod} {at_ : Nat} {W : Wk} {os : List (Nat × Nat)} {d : Int} {k : Nat} (I : WJ l W at_) (hl : at_ < l.length) (hk : k ≤ at_) (ho : OSr (W.beh.set k (at_ + 1)) os.reverse (at_ + 1))
  (hos : ∀ o ∈ os, o ∈ W.os ∧ o.1 < k) (hkw : k = at_ ∨ ∃ o ∈ W.os, o.1 = k) (hd : (nth l k).kind = 10 → Segs W.beh 2 (k + 1) at_) : WJ l ⟨W.beh.set k (at_ + 1), os, d⟩ (at_ + 1) := by
 have hkl : k < W.beh.length := by rw [I.len]; omega
 refine ⟨by simpa using I.len, fun q hq => ?_, ho, fun p hp => ?_⟩
 ·rw [getD_set (by omega)]; exact I.zero q (by omega)
 by_cases e : p = k
 ·subst e
  rw [getD_here hkl]
  refine ⟨by omega, Nat.le_refl _, fun o h => .inl (hos o h).2, fun h10 => ⟨?_, ?_⟩⟩
  ·rw [Nat.add_sub_cancel]
   exact (hd h10).before (by omega)
  rw [Nat.add_sub_cancel]
  have := (hd h10).le
  rw [getD_set (by omega)]; exact I.zero at_ (Nat.le_refl _)
 rw [getD_set e] at hp ⊢
 obtain ⟨h1, h2, h3, h4⟩ := I.done p hp
 have far : k < p ∨ W.beh.getD p 0 ≤ k := by
  rcases hkw with rfl | ⟨o, ho1, ho2⟩
  ·exact .inr h2
  rw [← ho2]; exact h3 o ho1
 refine ⟨h1, by omega, fun o h => h3 o (hos o h).1, fun h10 => ?_⟩
 obtain ⟨h5, h6⟩ := h4 h10
 refine ⟨?_, ?_⟩
 ·rcases far with q | q
  ·exact h5.before (by omega)
  exact h5.other (by omega)
 rw [getD_set (by omega)]; exact h6
theorem os_snoc {os : List (Nat × Nat)} {p : Nat × Nat} (h : os.getLast? = some p) : ∃ r, os = r ++ [p] := by
 rcases List.eq_nil_or_concat os with e | ⟨L, b, e⟩
 ·rw [e] at h; cases h
 rw [e, List.concat_eq_append] at h ⊢
 simp at h
 exact ⟨L, by rw [h]⟩
theorem wj_step {l : List Nod} {at_ : Nat} {W W' : Wk} (h : stepW l at_ W = some W') (hl : at_ < l.length) (I : WJ l W at_) : WJ l W' (at_ + 1) := by
 unfold stepW at h
 by_cases h6 : (nth l at_).kind = 6
 ·simp only [h6, decide_true, cond_true] at h
  unfold leaveW at h
  split at h
  ·cases h
  rename_i p hp
  cases hb : (inDiscB l W.os && !decide (p.2 = 2)) with
  | true => rw [hb] at h; cases h
  | false =>
   rw [hb] at h
   simp only [cond_false, Option.some.injEq] at h
   subst h
   obtain ⟨r, hr⟩ := os_snoc hp
   have ho := I.open_
   rw [hr, List.reverse_append] at ho
   obtain ⟨h1, h2, h3⟩ : p.1 < at_ ∧ Segs W.beh p.2 (p.1 + 1) at_ ∧ OSr W.beh r.reverse p.1 := ho
   have hdl : W.os.dropLast = r := by rw [hr, List.dropLast_concat]
   rw [hdl]
   refine wj_set I hl (by omega) (h3.stand (by rw [I.len]; omega) (by omega)) (fun o hx => ⟨by rw [hr]; simp [hx], h3.lt o (by simpa using hx)⟩) (.inr ⟨p, by rw [hr]; simp, rfl⟩) fun h10 => ?_
   have hin : inDiscB l W.os = true := by
    unfold inDiscB
    rw [hp]
    simp only [h10, decide_true]
   rw [hin] at hb
   have : p.2 = 2 := by simpa using hb
   rw [← this]; exact h2
 simp only [h6, decide_false, cond_false] at h
 by_cases h11 : (nth l at_).kind = 11
 ·simp only [h11, decide_true, cond_true] at h
  unfold partW at h
  split at h
  ·cases h
  rename_i p hp
  cases hb : (inDiscB l W.os && decide (p.2 + 1 ≤ 2)) with
  | false => rw [hb] at h; cases h
  | true =>
   rw [hb] at h
   simp only [cond_true, Option.some.injEq] at h
   subst h
   obtain ⟨r, hr⟩ := os_snoc hp
   have ho := I.open_
   rw [hr, List.reverse_append] at ho
   obtain ⟨h1, h2, h3⟩ : p.1 < at_ ∧ Segs W.beh p.2 (p.1 + 1) at_ ∧ OSr W.beh r.reverse p.1 := ho
   have hdl : W.os.dropLast = r := by rw [hr, List.dropLast_concat]
   rw [hdl]
   refine ⟨I.len, fun q hq => I.zero q (by omega), ?_, fun q hq => ?_⟩
   ·rw [List.reverse_append]
    exact ⟨by show p.1 < at_ + 1; omega, h2.sep (by rw [I.len]; omega) (I.zero at_ (Nat.le_refl _)), h3⟩
   obtain ⟨q1, q2, q3, q4⟩ := I.done q hq
   refine ⟨q1, Nat.le_succ_of_le q2, fun o hx => ?_, q4⟩
   rcases List.mem_append.1 hx with hx | hx
   ·exact q3 o (by rw [hr]; simp [hx])
   rw [List.mem_singleton.1 hx]
   exact q3 p (by rw [hr]; simp)
 simp only [h11, decide_false, cond_false] at h
 cases hb : (!inDiscB l W.os || brokenB (nth l at_)) with
 | false => rw [hb] at h; cases h
 | true =>
  rw [hb, cond_true, Option.some.injEq] at h
  subst h
  cases hen : enters (nth l at_).kind with
  | true =>
   simp only [cond_true]
   refine ⟨I.len, fun q hq => I.zero q (by omega), ?_, fun q hq => ?_⟩
   ·rw [List.reverse_append]
    exact ⟨by show at_ < at_ + 1; omega, .last (.refl _), I.open_⟩
   obtain ⟨q1, q2, q3, q4⟩ := I.done q hq
   refine ⟨q1, Nat.le_succ_of_le q2, fun o hx => ?_, q4⟩
   rcases List.mem_append.1 hx with hx | hx
   ·exact q3 o hx
   rw [List.mem_singleton.1 hx]
   exact .inr q2
  | false =>
   simp only [cond_false]
   refine wj_set I hl (Nat.le_refl _) (I.open_.stand (by rw [I.len]; omega) (by omega)) (fun o hx => ⟨hx, I.open_.lt o (by simpa using hx)⟩) (.inl rfl) fun h10 => ?_
   rw [h10] at hen
   cases hen
theorem wj_walk {l : List Nod} : ∀ {n at_ : Nat} {W W' : Wk}, walkW l n at_ W = some W' → at_ + n ≤ l.length → WJ l W at_ → WJ l W' (at_ + n)
 | 0, at_, W, W', h, _, I => by
  simp only [walkW, Option.some.injEq] at h
  subst h; exact I
 | n + 1, at_, W, W', h, hl, I => by
  unfold walkW at h
  cases hr : rightB (nth l at_) with
  | false => rw [hr] at h; cases h
  | true =>
   rw [hr, cond_true] at h
   split at h
   ·rename_i W1 h1
    have := wj_walk h (by omega) (wj_step h1 (by omega) I)
    rwa [show at_ + 1 + n = at_ + (n + 1) by omega] at this
   cases h
theorem zeros_getD (n q : Nat) : (List.replicate n 0).getD q 0 = 0 := by
 rw [List.getD_eq_getElem?_getD, List.getElem?_replicate]
 split <;> rfl
theorem Good.discs {l : List Nod} {W : Wk} (h : Good l W) : ∀ p, W.beh.getD p 0 ≠ 0 → p < W.beh.getD p 0 ∧ W.beh.getD p 0 ≤ l.length ∧
  ((nth l p).kind = 10 → Segs W.beh 2 (p + 1) (W.beh.getD p 0 - 1) ∧ W.beh.getD (W.beh.getD p 0 - 1) 0 = 0) := by
 have I := wj_walk h.walk (by omega) ⟨by simp [walk0], fun q _ => zeros_getD _ q, trivial, fun p hp => absurd (zeros_getD _ p) hp⟩
 intro p hp
 obtain ⟨h1, h2, _, h4⟩ := I.done p hp
 exact ⟨h1, by omega, h4⟩
end Go.Proofs.Ytcncfmjfgdbfeaa
