/- NodJoin NodCn2 NodJn2 NodSeg. -/
import Derived.Test.YtcncfmjfgdbfeabM26
namespace Go.Proofs.Ytcncfmjfgdbfeab
open Go.RowKit
theorem nth_left {a b : List Nod} {k : Nat} (h : k < a.length) : nth (a ++ b) k = nth a k := by
 simp [nth, List.getD, List.getElem?_append_left h]
theorem nth_right {a b : List Nod} {k : Nat} : nth (a ++ b) (k + a.length) = nth b k := by
 simp [nth, List.getD, List.getElem?_append_right]
theorem last_mem {os : List (Nat × Nat)} {p : Nat × Nat} (h : os.getLast? = some p) : p ∈ os := List.mem_of_getLast? h
def extW (m : Nat) (W : Wk) : Wk := ⟨W.beh ++ List.replicate m 0, W.os, W.d⟩
theorem disc_left {a b : List Nod} {os : List (Nat × Nat)} (h : ∀ p ∈ os, p.1 < a.length) : inDiscB (a ++ b) os = inDiscB a os := by
 unfold inDiscB
 cases hp : os.getLast? with
 | none => rfl
 | some p => simp only [nth_left (h p (last_mem hp))]
theorem step_left {a b : List Nod} {at_ : Nat} {W W' : Wk} (h : stepW a at_ W = some W') (hl : at_ < a.length) (I : WI W a.length at_) : stepW (a ++ b) at_ (extW b.length W) = some (extW b.length W') := by
 have hpos : ∀ p ∈ W.os, p.1 < a.length := fun p hp => by have := I.pos p hp; omega
 unfold stepW at h ⊢
 rw [nth_left hl]
 have hos : (extW b.length W).os = W.os := rfl
 by_cases h6 : (nth a at_).kind = 6
 ·simp only [h6, decide_true, cond_true] at h ⊢
  unfold leaveW at h ⊢
  rw [hos, disc_left hpos]
  cases hp : W.os.getLast? with
  | none => rw [hp] at h; cases h
  | some p =>
   rw [hp] at h
   simp only at h ⊢
   cases hb : (inDiscB a W.os && !decide (p.2 = 2)) with
   | true => rw [hb] at h; cases h
   | false =>
    rw [hb] at h
    simp only [cond_false, Option.some.injEq] at h ⊢
    subst h
    have h1 := hpos p (last_mem hp)
    simp only [extW]
    rw [List.set_append_left _ _ (by rw [I.len]; exact h1)]
 simp only [h6, decide_false, cond_false] at h ⊢
 by_cases h11 : (nth a at_).kind = 11
 ·simp only [h11, decide_true, cond_true] at h ⊢
  unfold partW at h ⊢
  rw [hos, disc_left hpos]
  cases hp : W.os.getLast? with
  | none => rw [hp] at h; cases h
  | some p =>
   rw [hp] at h
   simp only at h ⊢
   cases hb : (inDiscB a W.os && decide (p.2 + 1 ≤ 2)) with
   | false => rw [hb] at h; cases h
   | true =>
    rw [hb] at h
    simp only [cond_true, Option.some.injEq] at h ⊢
    subst h
    rfl
 simp only [h11, decide_false, cond_false] at h ⊢
 rw [hos, disc_left hpos]
 cases hb : (!inDiscB a W.os || brokenB (nth a at_)) with
 | false => rw [hb] at h; cases h
 | true =>
  rw [hb, cond_true, Option.some.injEq] at h
  rw [cond_true, Option.some.injEq]
  subst h
  cases enters (nth a at_).kind with
  | true => rfl
  | false =>
   simp only [cond_false, extW]
   rw [List.set_append_left _ _ (by rw [I.len]; exact hl)]
theorem walk_left {a b : List Nod} : ∀ {n at_ : Nat} {W W' : Wk}, walkW a n at_ W = some W' → at_ + n ≤ a.length → WI W a.length at_ → walkW (a ++ b) n at_ (extW b.length W) = some (extW b.length W')
 | 0, at_, W, W', h, _, I => by
  simp only [walkW, Option.some.injEq] at h ⊢
  rw [h]
 | n + 1, at_, W, W', h, hl, I => by
  unfold walkW at h ⊢
  rw [nth_left (by omega)]
  cases hr : rightB (nth a at_) with
  | false => rw [hr] at h; cases h
  | true =>
   rw [hr, cond_true] at h
   rw [cond_true]
   split at h
   ·rename_i W1 h1
    rw [step_left h1 (by omega) I]
    exact walk_left h (by omega) (wi_step h1 (by omega) I)
   cases h
def sh (m x : Nat) : Nat := if x = 0 then 0 else x + m
def mvW (A : Wk) (m : Nat) (W : Wk) : Wk := ⟨A.beh ++ W.beh.map (sh m), W.os.map fun p => (p.1 + m, p.2), if A.d ≤ W.d then W.d else A.d⟩
theorem disc_right {a b : List Nod} {os : List (Nat × Nat)} : inDiscB (a ++ b) (os.map fun p => (p.1 + a.length, p.2)) = inDiscB b os := by
 unfold inDiscB
 rw [List.getLast?_map]
 cases hp : os.getLast? with
 | none => rfl
 | some p => simp only [Option.map_some, nth_right]
theorem sh_succ (m x : Nat) : sh m (x + 1) = x + m + 1 := by simp [sh]; omega
theorem set_right (A : List Nat) (beh : List Nat) (k v : Nat) : (A ++ beh.map (sh A.length)).set (k + A.length) (v + A.length + 1) = A ++ (beh.set k (v + 1)).map (sh A.length) := by
 rw [List.set_append_right _ _ (by omega), Nat.add_sub_cancel, List.map_set, sh_succ]
theorem deep_max (x d : Int) (m : Nat) : (if x ≤ deep d m then deep d m else x) = deep (if x ≤ d then d else x) m := by
 unfold deep
 (repeat' split) <;> first | rfl | omega
theorem step_right {a b : List Nod} {A : Wk} {at_ : Nat} {W W' : Wk} (hA : A.beh.length = a.length) (h : stepW b at_ W = some W') : stepW (a ++ b) (at_ + a.length) (mvW A a.length W) = some (mvW A a.length W') := by
 unfold stepW at h ⊢
 rw [nth_right]
 have hos : (mvW A a.length W).os = W.os.map fun p => (p.1 + a.length, p.2) := rfl
 have hol : (mvW A a.length W).os.length = W.os.length := by simp [hos]
 by_cases h6 : (nth b at_).kind = 6
 ·simp only [h6, decide_true, cond_true] at h ⊢
  unfold leaveW at h ⊢
  rw [hos, disc_right, List.getLast?_map]
  cases hp : W.os.getLast? with
  | none => rw [hp] at h; cases h
  | some p =>
   rw [hp] at h
   simp only [Option.map_some] at h ⊢
   cases hb : (inDiscB b W.os && !decide (p.2 = 2)) with
   | true => rw [hb] at h; cases h
   | false =>
    rw [hb] at h
    simp only [cond_false, Option.some.injEq] at h ⊢
    subst h
    have := set_right A.beh W.beh p.1 at_
    rw [hA] at this
    simp only [mvW, this, List.map_dropLast]
 simp only [h6, decide_false, cond_false] at h ⊢
 by_cases h11 : (nth b at_).kind = 11
 ·simp only [h11, decide_true, cond_true] at h ⊢
  unfold partW at h ⊢
  rw [hos, disc_right, List.getLast?_map]
  cases hp : W.os.getLast? with
  | none => rw [hp] at h; cases h
  | some p =>
   rw [hp] at h
   simp only [Option.map_some] at h ⊢
   cases hb : (inDiscB b W.os && decide (p.2 + 1 ≤ 2)) with
   | false => rw [hb] at h; cases h
   | true =>
    rw [hb] at h
    simp only [cond_true, Option.some.injEq] at h ⊢
    subst h
    simp only [mvW, List.map_dropLast, List.map_append, List.map_cons, List.map_nil]
 simp only [h11, decide_false, cond_false] at h ⊢
 rw [hol, hos, disc_right]
 cases hb : (!inDiscB b W.os || brokenB (nth b at_)) with
 | false => rw [hb] at h; cases h
 | true =>
  rw [hb, cond_true, Option.some.injEq] at h
  rw [cond_true, Option.some.injEq]
  subst h
  cases enters (nth b at_).kind with
  | true =>
   simp only [cond_true, mvW, List.map_append, List.map_cons, List.map_nil, deep_max]
  | false =>
   have := set_right A.beh W.beh at_ at_
   rw [hA] at this
   simp only [cond_false, mvW, this, deep_max]
theorem walk_right {a b : List Nod} {A : Wk} (hA : A.beh.length = a.length) : ∀ {n at_ : Nat} {W W' : Wk}, walkW b n at_ W = some W' → walkW (a ++ b) n (at_ + a.length) (mvW A a.length W) = some (mvW A a.length W')
 | 0, at_, W, W', h => by
  simp only [walkW, Option.some.injEq] at h ⊢
  rw [h]
 | n + 1, at_, W, W', h => by
  unfold walkW at h ⊢
  rw [nth_right]
  cases hr : rightB (nth b at_) with
  | false => rw [hr] at h; cases h
  | true =>
   rw [hr, cond_true] at h
   rw [cond_true]
   split at h
   ·rename_i W1 h1
    rw [step_right hA h1]
    have := walk_right hA h (a := a)
    rwa [show at_ + 1 + a.length = at_ + a.length + 1 by omega] at this
   cases h
theorem walk_split {l : List Nod} : ∀ {n m at_ : Nat} {W W1 : Wk}, walkW l n at_ W = some W1 → walkW l (n + m) at_ W = walkW l m (at_ + n) W1
 | 0, m, at_, W, W1, h => by
  simp only [walkW, Option.some.injEq] at h
  subst h
  rw [Nat.zero_add, Nat.add_zero]
 | n + 1, m, at_, W, W1, h => by
  have e : ∀ N, walkW l (N + 1) at_ W = bif rightB (nth l at_) then (match stepW l at_ W with | some W' => walkW l N (at_ + 1) W' | none => none) else none := fun _ => rfl
  rw [show n + 1 + m = (n + m) + 1 by omega, e]
  rw [e] at h
  cases hr : rightB (nth l at_) with
  | false => rw [hr] at h; cases h
  | true =>
   rw [hr, cond_true] at h
   rw [cond_true]
   split at h
   ·rename_i W2 h2
    rw [walk_split h, show at_ + 1 + n = at_ + (n + 1) by omega]
   cases h
theorem walk_join {a b : List Nod} {A B : Wk} (ha : walkW a a.length 0 (walk0 a) = some A) (hb : walkW b b.length 0 (walk0 b) = some B) (hoa : A.os.length = 0) (hda : 0 ≤ A.d) :
  walkW (a ++ b) (a ++ b).length 0 (walk0 (a ++ b)) = some (mvW A a.length B) := by
 obtain ⟨_, hlen⟩ := good_ch ha hoa
 have hI : WI (walk0 a) a.length 0 := ⟨by simp [walk0], fun p hp => by simp [walk0] at hp, by simp [walk0], .refl 0⟩
 have h1 := walk_left (b := b) ha (by omega) hI
 have e0 : extW b.length (walk0 a) = walk0 (a ++ b) := by simp [extW, walk0, List.replicate_append_replicate]
 rw [e0] at h1
 rw [List.length_append, walk_split h1, Nat.zero_add]
 have h2 := walk_right (a := a) hlen hb
 rw [Nat.zero_add] at h2
 have e1 : mvW A a.length (walk0 b) = extW b.length A := by
  have ho : A.os = [] := List.length_eq_zero_iff.1 hoa
  simp only [mvW, extW, walk0, ho, List.map_nil, List.map_replicate]
  congr 1
  have key : ∀ x : Int, 0 ≤ x → (if x ≤ (0 : Int) then (0 : Int) else x) = x := fun x hx => by split <;> omega
  exact key A.d hda
 rw [← e1]
 exact h2
theorem getD_left {A B : List Nat} {k : Nat} (h : k < A.length) : (A ++ B).getD k 0 = A.getD k 0 := by simp [List.getD, List.getElem?_append_left h]
theorem getD_right {A B : List Nat} {k : Nat} (h : k < B.length) : (A ++ B.map (sh A.length)).getD (k + A.length) 0 = sh A.length (B.getD k 0) := by
 simp [List.getD, List.getElem?_append_right, h]
theorem Ch.left {A B : List Nat} {s e : Nat} (h : Ch A s e) : Ch (A ++ B) s e := by
 induction h with
 | refl s => exact .refl s
 | step h1 h2 h3 ih => exact .step (by simp; omega) (by rw [getD_left h1]; exact h2) (by rw [getD_left h1]; exact ih)
theorem sh_pos {m x s : Nat} (h : s < x) : sh m x = x + m := by unfold sh; rw [if_neg (by omega)]
theorem Ch.right {A B : List Nat} {s e : Nat} (h : Ch B s e) : Ch (A ++ B.map (sh A.length)) (s + A.length) (e + A.length) := by
 induction h with
 | refl s => exact .refl _
 | step h1 h2 h3 ih =>
  refine .step (by simp; omega) ?_ ?_
  ·rw [getD_right h1, sh_pos h2]; omega
  rw [getD_right h1, sh_pos h2]; exact ih
theorem items_right {A B : List Nat} {s e : Nat} (h : Ch B s e) : ∀ f, (itemsF (A ++ B.map (sh A.length)) (e + A.length) f (s + A.length)).length = (itemsF B e f s).length := by
 induction h with
 | refl s => intro f; cases f <;> simp [itemsF]
 | @step s e h1 h2 h3 ih =>
  intro f
  have := h3.le
  cases f with
  | zero => rfl
  | succ f =>
   simp only [itemsF]
   rw [if_pos (by omega), if_pos (by omega), getD_right h1, sh_pos h2]
   simp only [List.length_cons, ih f]
theorem items_left {A B : List Nat} {s e : Nat} (h : Ch A s e) : ∀ (T f : Nat), e ≤ T → T - s ≤ f → Ch (A ++ B) e T → (itemsF (A ++ B) T f s).length = (itemsF A e f s).length + (itemsF (A ++ B) T f e).length := by
 induction h with
 | refl s => intro T f _ _ _; cases f <;> simp [itemsF]
 | @step s e h1 h2 h3 ih =>
  intro T f hT hf h4
  have := h3.le
  cases f with
  | zero => omega
  | succ f =>
   have h5 := ih T f hT (by omega) h4
   have h6 := h4.fuel (f + 1) f (by omega) (by omega)
   rw [h6]
   simp only [itemsF]
   rw [if_pos (by omega), if_pos (by omega), getD_left h1]
   simp only [List.length_cons, h5]
   omega
theorem items_join {a b : List Nod} {A B : Wk} (ha : walkW a a.length 0 (walk0 a) = some A) (hb : walkW b b.length 0 (walk0 b) = some B) (hoa : A.os.length = 0) (hob : B.os.length = 0) :
  (itemsF (mvW A a.length B).beh (a ++ b).length (a ++ b).length 0).length = (itemsF A.beh a.length a.length 0).length + (itemsF B.beh b.length b.length 0).length := by
 obtain ⟨h1, h2⟩ := good_ch ha hoa
 obtain ⟨h3, h4⟩ := good_ch hb hob
 have e : (mvW A a.length B).beh = A.beh ++ B.beh.map (sh A.beh.length) := by simp [mvW, h2]
 rw [e]
 have h5 := h3.right (A := A.beh)
 rw [Nat.zero_add, h2, Nat.add_comm b.length, ← List.length_append] at h5
 have h6 := items_left (B := B.beh.map (sh A.beh.length)) h1 (a ++ b).length (a ++ b).length (by simp) (by omega) (by rw [h2]; exact h5)
 rw [h6, h1.fuel (a ++ b).length a.length (by simp) (by omega)]
 have h7 := items_right (A := A.beh) h3 (a ++ b).length
 rw [Nat.zero_add, h2, Nat.add_comm b.length, ← List.length_append] at h7
 rw [h2, h7, h3.fuel (a ++ b).length b.length (by simp) (by omega)]
end Go.Proofs.Ytcncfmjfgdbfeab
namespace Go.Proofs.Ytcncfmjfgdbfeab
set_option maxRecDepth 100000
set_option maxHeartbeats 4000000
open Go.RowKit
theorem Sat.one {w w' : World} {bb : Nat} {cs : List Value} {T : TypeId} (k : Kept w w') (hb : w.heap.size ≤ bb) (h : w'.heap[bb]? = some (.cells cs.toArray T (0, 0))) : Sat w [] [.obj true bb cs T] w' :=
 ⟨.of_kept k, fun e he => by
  rw [List.mem_singleton.1 he]
  exact ⟨h, fun _ => .inl hb⟩, fun i j e e' hij hi hj => by
  have hi' := (List.getElem?_eq_some_iff.1 hi).1
  have hj' := (List.getElem?_eq_some_iff.1 hj).1
  simp at hi' hj'
  omega⟩
theorem nwhole_any (nb : Option Addr) (nn nc : Nat) (bb : Option Addr) (bn bc : Nat) (w : World) :
  Calls Try.prog 68 #[.agg #[.slice nb nn nc, .slice bb bn bc]] w fun e w' => e = .returned (.agg #[.int .i64 0, .int .i64 (nn : Int)]) ∧ Kept w w' := by
 refine g_enter (args := [.agg #[.slice nb nn nc, .slice bb bn bc]]) [] [] Try.func68 rfl Try.ntmps68 kL (sat0 w) ?_
 refine g0 ?_
 refine gN fun b0 hb0 => ?_
 refine gN fun b1 hb1 => ?_
 refine gA ([0] ++ [1, 1]) 0 ?_
 refine g_ret ([1, 1]) (Value.agg (Array.mk [Value.int IntKind.i64 0, Value.int IntKind.i64 (↑nn : Int)])) kR kR kR fun w' hs => ?_
 exact ⟨rfl, hs.kk⟩
theorem countv_any (beh : List Nat) (bb : Nat) (nb : Option Addr) (nn nc fr to f n : Nat) (hn : (itemsF beh to f fr).length = n) (hok : okF beh to f fr) (hlen : beh.length = to) (hn2 : n ≤ 1000000) (w : World) (hb : w.heap[bb]? = some (.cells (behC beh).toArray 3 (0, 0))) :
  Calls Try.prog 67 #[.agg #[.slice nb nn nc, .slice (some ⟨bb, 0, none⟩) to to], .agg #[.int .i64 (fr : Int), .int .i64 (to : Int)]] w fun e w' => e = .returned (.int .i64 (n : Int)) ∧ Kept w w' := by
 have h := count_any beh bb nb nn nc fr to f hok (by omega) w hb
 rw [hlen, hn] at h
 exact h
theorem countOk_any (l : List Nod) (bl ol cl : Nat) (w : World) (hq : Sat w [] [.row bl ol 19 l.length (rowOf l)] w) (Wf : Wk) (hl : l.length ≤ 2000) (hw : wholeB l (walk0 l) = true) (hW : walkW l l.length 0 (walk0 l) = some Wf) (hd : Wf.d ≤ 40) (n : Nat) (hn : (itemsF Wf.beh l.length l.length 0).length = n) (hok : okF Wf.beh l.length l.length 0) (hlen : Wf.beh.length = l.length) (hn2 : n ≤ 1000000) :
  Calls Try.prog 41 #[.slice (some ⟨bl, ol, none⟩) l.length cl] w fun e w' => e = .returned (.tuple #[.int .i64 (n : Int), .int .i64 0]) ∧ Kept w w' := by
 refine g_enter (args := [.slice (some ⟨bl, ol, none⟩) l.length cl]) [] [.row bl ol 19 l.length (rowOf l)] Try.func41 rfl Try.ntmps41 kL hq ?_
 refine g0 ?_
 refine g_call (X := Nat) _ _ ?_ (fun bb => .tuple #[.agg #[.slice (some ⟨bl, ol, none⟩) l.length cl, .slice (some ⟨bb, 0, none⟩) l.length l.length], .int .i64 0]) (fun bb => [.row bl ol 19 l.length (rowOf l)] ++ [.obj true bb (behC Wf.beh) 3])
  (fun w1 hs => (outline_ok l bl ol cl w1 (hs.read [0] [.row bl ol 19 l.length (rowOf l)] kR) Wf hl hw hW hd).mono fun e w2 ⟨bb, h1, h2, h3, h4⟩ => ⟨bb, h1, (Sat.at hs kR).more (Sat.one h4 h2 h3) (by simp [HE.own])⟩) (fun bb => ?_)
 ·kernel_rfl
 refine g0 ?_
 refine gN fun b2 hb2 => ?_
 refine gA ([2, 2]) 1 ?_
 refine gD 6 ?_
 refine lA (List.replicate 4 2) 0 ?_
 refine l_callq _ _ _ ?_ (fun w hs => nwhole_any (some ⟨bl, ol, none⟩) l.length cl (some ⟨bb, 0, none⟩) l.length l.length w) ?_
 ·kernel_rfl
 refine l_callq _ _ _ ?_ (fun w hs => countv_any Wf.beh bb (some ⟨bl, ol, none⟩) l.length cl 0 l.length l.length n hn hok hlen hn2 w (hs.obj (o := true) (i := 1) kR)) ?_
 ·kernel_rfl
 refine l0 ?_
 refine lE ?_
 refine gR (Value.tuple (Array.mk [Value.int IntKind.i64 (↑n : Int), Value.int IntKind.i64 0])) fun w' hs => ?_
 exact ⟨rfl, hs.kk⟩
end Go.Proofs.Ytcncfmjfgdbfeab
namespace Go.Proofs.Ytcncfmjfgdbfeab
open Go.RowKit
theorem deep_nonneg {d : Int} {m : Nat} (h : 0 ≤ d) : 0 ≤ deep d m := by unfold deep; split <;> omega
theorem step_d {l : List Nod} {at_ : Nat} {W W' : Wk} (h : stepW l at_ W = some W') (hd : 0 ≤ W.d) : 0 ≤ W'.d := by
 unfold stepW at h
 by_cases h6 : (nth l at_).kind = 6
 ·simp only [h6, decide_true, cond_true] at h
  unfold leaveW at h
  split at h
  ·cases h
  rename_i p hp
  cases hb : (inDiscB l W.os && !decide (p.2 = 2)) with
  | true => rw [hb] at h; cases h
  | false => rw [hb] at h; simp only [cond_false, Option.some.injEq] at h; subst h; exact hd
 simp only [h6, decide_false, cond_false] at h
 by_cases h11 : (nth l at_).kind = 11
 ·simp only [h11, decide_true, cond_true] at h
  unfold partW at h
  split at h
  ·cases h
  rename_i p hp
  cases hb : (inDiscB l W.os && decide (p.2 + 1 ≤ 2)) with
  | false => rw [hb] at h; cases h
  | true => rw [hb] at h; simp only [cond_true, Option.some.injEq] at h; subst h; exact hd
 simp only [h11, decide_false, cond_false] at h
 cases hb : (!inDiscB l W.os || brokenB (nth l at_)) with
 | false => rw [hb] at h; cases h
 | true =>
  rw [hb, cond_true, Option.some.injEq] at h
  subst h
  cases enters (nth l at_).kind with
  | true => exact deep_nonneg hd
  | false => exact deep_nonneg hd
theorem walk_d {l : List Nod} : ∀ {n at_ : Nat} {W W' : Wk}, walkW l n at_ W = some W' → 0 ≤ W.d → 0 ≤ W'.d
 | 0, at_, W, W', h, hd => by
  simp only [walkW, Option.some.injEq] at h
  subst h; exact hd
 | n + 1, at_, W, W', h, hd => by
  unfold walkW at h
  cases hr : rightB (nth l at_) with
  | false => rw [hr] at h; cases h
  | true =>
   rw [hr, cond_true] at h
   split at h
   ·rename_i W1 h1
    exact walk_d h (step_d h1 hd)
   cases h
structure Good (l : List Nod) (W : Wk) : Prop where
 le : l.length ≤ 2000
 walk : walkW l l.length 0 (walk0 l) = some W
 os : W.os.length = 0
 d : W.d ≤ 40
theorem good_of {l : List Nod} (h : checkB l = 0) : ∃ W, Good l W := by
 unfold checkB at h
 by_cases hl : 2000 < l.length
 ·simp [hl] at h
 simp only [hl, decide_false, cond_false] at h
 split at h
 ·cases h
 rename_i W hW
 by_cases ho : W.os.length = 0
 ·simp only [ho, decide_true, cond_true] at h
  by_cases hd : 40 < W.d
  ·simp [hd] at h
  exact ⟨W, by omega, hW, ho, by omega⟩
 simp [ho] at h
theorem Good.check {l : List Nod} {W : Wk} (h : Good l W) : checkB l = 0 := by
 unfold checkB
 have h1 := h.le
 have h2 := h.d
 have e : ¬ 2000 < l.length := by omega
 have e2 : ¬ 40 < W.d := by omega
 simp [e, h.walk, h.os, e2]
theorem Good.whole {l : List Nod} {W : Wk} (h : Good l W) : wholeB l (walk0 l) = true := by
 unfold wholeB
 simp [h.walk, h.os]
theorem Good.join {a b : List Nod} {A B : Wk} (ha : Good a A) (hb : Good b B) (hl : a.length + b.length ≤ 2000) : Good (a ++ b) (mvW A a.length B) := by
 refine ⟨by simpa using hl, walk_join ha.walk hb.walk ha.os (walk_d ha.walk (by simp [walk0])), ?_, ?_⟩
 ·have := hb.os
  simp only [mvW, List.length_map]; exact this
 have h1 := ha.d
 have h2 := hb.d
 simp only [mvW]
 split <;> omega
def countN (l : List Nod) (W : Wk) : Nat := (itemsF W.beh l.length l.length 0).length
theorem Good.count {a b : List Nod} {A B : Wk} (ha : Good a A) (hb : Good b B) : countN (a ++ b) (mvW A a.length B) = countN a A + countN b B :=
 items_join ha.walk hb.walk ha.os hb.os
theorem items_le {beh : List Nat} {to : Nat} : ∀ {f at_ : Nat}, (itemsF beh to f at_).length ≤ f
 | 0, _ => by simp [itemsF]
 | f + 1, at_ => by
  simp only [itemsF]
  split
  ·have := items_le (beh := beh) (to := to) (f := f) (at_ := beh.getD at_ 0)
   simp only [List.length_cons]; omega
  simp
theorem goodCount_any (l : List Nod) (bl ol cl : Nat) (W : Wk) (hG : Good l W) (w : World) (hq : Sat w [] [.row bl ol 19 l.length (rowOf l)] w) :
  Calls Try.prog 41 #[.slice (some ⟨bl, ol, none⟩) l.length cl] w fun e w' => e = .returned (.tuple #[.int .i64 (countN l W : Int), .int .i64 0]) ∧ Kept w w' := by
 obtain ⟨h1, h2⟩ := good_ch hG.walk hG.os
 have h3 : countN l W ≤ l.length := items_le
 have h4 := hG.le
 exact countOk_any l bl ol cl w hq W hG.le hG.whole hG.walk hG.d (countN l W) rfl (h1.ok l.length (by omega)) h2 (by omega)
end Go.Proofs.Ytcncfmjfgdbfeab
namespace Go.Proofs.Ytcncfmjfgdbfeab
open Go.RowKit
theorem Ch.before {beh : List Nat} {s e k v : Nat} (h : Ch beh s e) (hk : k < s) : Ch (beh.set k v) s e := by
 induction h with
 | refl s => exact .refl s
 | step h1 h2 h3 ih =>
  refine .step (by simpa using h1) ?_ ?_
  ·rw [getD_set (by omega)]; exact h2
  rw [getD_set (by omega)]; exact ih (by omega)
inductive Segs (beh : List Nat) : Nat → Nat → Nat → Prop where
 | last {s q : Nat} (h : Ch beh s q) : Segs beh 0 s q
 | more {k s m q : Nat} (h : Ch beh s m) (hm : m < beh.length) (h0 : beh.getD m 0 = 0) (r : Segs beh k (m + 1) q) : Segs beh (k + 1) s q
theorem Segs.le {beh : List Nat} {k s q : Nat} (h : Segs beh k s q) : s ≤ q := by
 induction h with
 | last h => exact h.le
 | more h _ _ _ ih => have := h.le; omega
theorem Segs.other {beh : List Nat} {k s q j v : Nat} (h : Segs beh k s q) (hj : q ≤ j) : Segs (beh.set j v) k s q := by
 induction h with
 | last h => exact .last (h.other hj)
 | more h hm h0 r ih =>
  have h1 := r.le
  exact .more (h.other (by omega)) (by simpa using hm) (by rw [getD_set (by omega)]; exact h0) (ih hj)
theorem Segs.before {beh : List Nat} {k s q j v : Nat} (h : Segs beh k s q) (hj : j < s) : Segs (beh.set j v) k s q := by
 induction h with
 | last h => exact .last (h.before hj)
 | more h hm h0 r ih =>
  have h1 := h.le
  exact .more (h.before hj) (by simpa using hm) (by rw [getD_set (by omega)]; exact h0) (ih (by omega))
theorem Segs.stand {beh : List Nat} {k s q v : Nat} (h : Segs beh k s q) (hq : q < beh.length) (hv : q < v) : Segs (beh.set q v) k s v := by
 induction h with
 | last h => exact .last (h.snoc hq hv)
 | more h hm h0 r ih =>
  have h1 := r.le
  exact .more (h.other (by omega)) (by simpa using hm) (by rw [getD_set (by omega)]; exact h0) (ih hq hv)
theorem Segs.sep {beh : List Nat} {k s q : Nat} (h : Segs beh k s q) (hq : q < beh.length) (h0 : beh.getD q 0 = 0) : Segs beh (k + 1) s (q + 1) := by
 induction h with
 | last h => exact .more h hq h0 (.last (.refl _))
 | more h hm h1 r ih => exact .more h hm h1 (ih hq h0)
def OSr (beh : List Nat) : List (Nat × Nat) → Nat → Prop
 | [], _ => True
 | p :: r, q => p.1 < q ∧ Segs beh p.2 (p.1 + 1) q ∧ OSr beh r p.1
theorem OSr.other {beh : List Nat} {j v : Nat} : ∀ {os : List (Nat × Nat)} {q : Nat}, OSr beh os q → q ≤ j → OSr (beh.set j v) os q
 | [], _, _, _ => trivial
 | _ :: _, _, ⟨h0, h1, h2⟩, hj => ⟨h0, h1.other hj, h2.other (by omega)⟩
theorem OSr.stand {beh : List Nat} {os : List (Nat × Nat)} {q v : Nat} (h : OSr beh os q) (hq : q < beh.length) (hv : q < v) : OSr (beh.set q v) os v := by
 cases os with
 | nil => trivial
 | cons p r =>
  obtain ⟨h0, h1, h2⟩ := h
  exact ⟨by omega, h1.stand hq hv, h2.other (by omega)⟩
theorem OSr.lt {beh : List Nat} : ∀ {os : List (Nat × Nat)} {q : Nat}, OSr beh os q → ∀ p ∈ os, p.1 < q
 | [], _, _, _, hp => by cases hp
 | p :: r, q, ⟨h0, _, h2⟩, x, hx => by
  rcases List.mem_cons.1 hx with rfl | hx
  ·exact h0
  have := OSr.lt h2 x hx; omega
structure WJ (l : List Nod) (W : Wk) (at_ : Nat) : Prop where
 len : W.beh.length = l.length
 zero : ∀ q, at_ ≤ q → W.beh.getD q 0 = 0
 open_ : OSr W.beh W.os.reverse at_
 done : ∀ p, W.beh.getD p 0 ≠ 0 → p < W.beh.getD p 0 ∧ W.beh.getD p 0 ≤ at_ ∧ (∀ o ∈ W.os, o.1 < p ∨ W.beh.getD p 0 ≤ o.1) ∧
  ((nth l p).kind = 10 → Segs W.beh 2 (p + 1) (W.beh.getD p 0 - 1) ∧ W.beh.getD (W.beh.getD p 0 - 1) 0 = 0)
theorem getD_here {beh : List Nat} {k v : Nat} (h : k < beh.length) : (beh.set k v).getD k 0 = v := by simp [List.getD, h]
theorem wj_set {l : List Nod} {at_ : Nat} {W : Wk} {os : List (Nat × Nat)} {d : Int} {k : Nat} (I : WJ l W at_) (hl : at_ < l.length) (hk : k ≤ at_) (ho : OSr (W.beh.set k (at_ + 1)) os.reverse (at_ + 1))
  (hos : ∀ o ∈ os, o ∈ W.os ∧ o.1 < k) (hkw : k = at_ ∨ ∃ o ∈ W.os, o.1 = k) (hd : (nth l k).kind = 10 → Segs W.beh 2 (k + 1) at_) : WJ l ⟨W.beh.set k (at_ + 1), os, d⟩ (at_ + 1) := by
 have hkl : k < W.beh.length := by rw [I.len]; omega
 refine ⟨by simpa using I.len, fun q hq => ?_, ho, fun p hp => ?_⟩
 ·rw [getD_set (by omega)]; exact I.zero q (by omega)
 by_cases e : p = k
 ·subst e
  rw [getD_here hkl]
  refine ⟨by omega, Nat.le_refl _, fun o h => .inl (hos o h).2, fun h10 => ⟨?_, ?_⟩⟩
  ·rw [Nat.add_sub_cancel]
   exact (hd h10).before (by omega)
  rw [Nat.add_sub_cancel]
  have := (hd h10).le
  rw [getD_set (by omega)]; exact I.zero at_ (Nat.le_refl _)
 rw [getD_set e] at hp ⊢
 obtain ⟨h1, h2, h3, h4⟩ := I.done p hp
 have far : k < p ∨ W.beh.getD p 0 ≤ k := by
  rcases hkw with rfl | ⟨o, ho1, ho2⟩
  ·exact .inr h2
  rw [← ho2]; exact h3 o ho1
 refine ⟨h1, by omega, fun o h => h3 o (hos o h).1, fun h10 => ?_⟩
 obtain ⟨h5, h6⟩ := h4 h10
 refine ⟨?_, ?_⟩
 ·rcases far with q | q
  ·exact h5.before (by omega)
  exact h5.other (by omega)
 rw [getD_set (by omega)]; exact h6
theorem os_snoc {os : List (Nat × Nat)} {p : Nat × Nat} (h : os.getLast? = some p) : ∃ r, os = r ++ [p] := by
 rcases List.eq_nil_or_concat os with e | ⟨L, b, e⟩
 ·rw [e] at h; cases h
 rw [e, List.concat_eq_append] at h ⊢
 simp at h
 exact ⟨L, by rw [h]⟩
theorem wj_step {l : List Nod} {at_ : Nat} {W W' : Wk} (h : stepW l at_ W = some W') (hl : at_ < l.length) (I : WJ l W at_) : WJ l W' (at_ + 1) := by
 unfold stepW at h
 by_cases h6 : (nth l at_).kind = 6
 ·simp only [h6, decide_true, cond_true] at h
  unfold leaveW at h
  split at h
  ·cases h
  rename_i p hp
  cases hb : (inDiscB l W.os && !decide (p.2 = 2)) with
  | true => rw [hb] at h; cases h
  | false =>
   rw [hb] at h
   simp only [cond_false, Option.some.injEq] at h
   subst h
   obtain ⟨r, hr⟩ := os_snoc hp
   have ho := I.open_
   rw [hr, List.reverse_append] at ho
   obtain ⟨h1, h2, h3⟩ : p.1 < at_ ∧ Segs W.beh p.2 (p.1 + 1) at_ ∧ OSr W.beh r.reverse p.1 := ho
   have hdl : W.os.dropLast = r := by rw [hr, List.dropLast_concat]
   rw [hdl]
   refine wj_set I hl (by omega) (h3.stand (by rw [I.len]; omega) (by omega)) (fun o hx => ⟨by rw [hr]; simp [hx], h3.lt o (by simpa using hx)⟩) (.inr ⟨p, by rw [hr]; simp, rfl⟩) fun h10 => ?_
   have hin : inDiscB l W.os = true := by
    unfold inDiscB
    rw [hp]
    simp only [h10, decide_true]
   rw [hin] at hb
   have : p.2 = 2 := by simpa using hb
   rw [← this]; exact h2
 simp only [h6, decide_false, cond_false] at h
 by_cases h11 : (nth l at_).kind = 11
 ·simp only [h11, decide_true, cond_true] at h
  unfold partW at h
  split at h
  ·cases h
  rename_i p hp
  cases hb : (inDiscB l W.os && decide (p.2 + 1 ≤ 2)) with
  | false => rw [hb] at h; cases h
  | true =>
   rw [hb] at h
   simp only [cond_true, Option.some.injEq] at h
   subst h
   obtain ⟨r, hr⟩ := os_snoc hp
   have ho := I.open_
   rw [hr, List.reverse_append] at ho
   obtain ⟨h1, h2, h3⟩ : p.1 < at_ ∧ Segs W.beh p.2 (p.1 + 1) at_ ∧ OSr W.beh r.reverse p.1 := ho
   have hdl : W.os.dropLast = r := by rw [hr, List.dropLast_concat]
   rw [hdl]
   refine ⟨I.len, fun q hq => I.zero q (by omega), ?_, fun q hq => ?_⟩
   ·rw [List.reverse_append]
    exact ⟨by show p.1 < at_ + 1; omega, h2.sep (by rw [I.len]; omega) (I.zero at_ (Nat.le_refl _)), h3⟩
   obtain ⟨q1, q2, q3, q4⟩ := I.done q hq
   refine ⟨q1, Nat.le_succ_of_le q2, fun o hx => ?_, q4⟩
   rcases List.mem_append.1 hx with hx | hx
   ·exact q3 o (by rw [hr]; simp [hx])
   rw [List.mem_singleton.1 hx]
   exact q3 p (by rw [hr]; simp)
 simp only [h11, decide_false, cond_false] at h
 cases hb : (!inDiscB l W.os || brokenB (nth l at_)) with
 | false => rw [hb] at h; cases h
 | true =>
  rw [hb, cond_true, Option.some.injEq] at h
  subst h
  cases hen : enters (nth l at_).kind with
  | true =>
   simp only [cond_true]
   refine ⟨I.len, fun q hq => I.zero q (by omega), ?_, fun q hq => ?_⟩
   ·rw [List.reverse_append]
    exact ⟨by show at_ < at_ + 1; omega, .last (.refl _), I.open_⟩
   obtain ⟨q1, q2, q3, q4⟩ := I.done q hq
   refine ⟨q1, Nat.le_succ_of_le q2, fun o hx => ?_, q4⟩
   rcases List.mem_append.1 hx with hx | hx
   ·exact q3 o hx
   rw [List.mem_singleton.1 hx]
   exact .inr q2
  | false =>
   simp only [cond_false]
   refine wj_set I hl (Nat.le_refl _) (I.open_.stand (by rw [I.len]; omega) (by omega)) (fun o hx => ⟨hx, I.open_.lt o (by simpa using hx)⟩) (.inl rfl) fun h10 => ?_
   rw [h10] at hen
   cases hen
theorem wj_walk {l : List Nod} : ∀ {n at_ : Nat} {W W' : Wk}, walkW l n at_ W = some W' → at_ + n ≤ l.length → WJ l W at_ → WJ l W' (at_ + n)
 | 0, at_, W, W', h, _, I => by
  simp only [walkW, Option.some.injEq] at h
  subst h; exact I
 | n + 1, at_, W, W', h, hl, I => by
  unfold walkW at h
  cases hr : rightB (nth l at_) with
  | false => rw [hr] at h; cases h
  | true =>
   rw [hr, cond_true] at h
   split at h
   ·rename_i W1 h1
    have := wj_walk h (by omega) (wj_step h1 (by omega) I)
    rwa [show at_ + 1 + n = at_ + (n + 1) by omega] at this
   cases h
theorem zeros_getD (n q : Nat) : (List.replicate n 0).getD q 0 = 0 := by
 rw [List.getD_eq_getElem?_getD, List.getElem?_replicate]
 split <;> rfl
theorem Good.discs {l : List Nod} {W : Wk} (h : Good l W) : ∀ p, W.beh.getD p 0 ≠ 0 → p < W.beh.getD p 0 ∧ W.beh.getD p 0 ≤ l.length ∧
  ((nth l p).kind = 10 → Segs W.beh 2 (p + 1) (W.beh.getD p 0 - 1) ∧ W.beh.getD (W.beh.getD p 0 - 1) 0 = 0) := by
 have I := wj_walk h.walk (by omega) ⟨by simp [walk0], fun q _ => zeros_getD _ q, trivial, fun p hp => absurd (zeros_getD _ p) hp⟩
 intro p hp
 obtain ⟨h1, h2, _, h4⟩ := I.done p hp
 exact ⟨h1, by omega, h4⟩
end Go.Proofs.Ytcncfmjfgdbfeab
