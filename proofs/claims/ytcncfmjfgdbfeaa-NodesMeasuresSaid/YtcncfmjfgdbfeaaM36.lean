/- NodEn NodFw NodSt. -/
import Derived.Test.YtcncfmjfgdbfeaaM35
import Derived.Test.YtcncfmjfgdbfeaaM31
namespace Go.Proofs.Ytcncfmjfgdbfeaa
set_option maxRecDepth 100000
set_option maxHeartbeats 4000000
open Go.RowKit
/-! ### plain mathematics: what is open -/
def balS (l : List Nod) (a b : Nat) : Int := ((seg l a b).map balN).sum
theorem balS_snoc {l : List Nod} {a q : Nat} (h : a ≤ q) (hq : q < l.length) : balS l a (q + 1) = balS l a q + balN (nth l q) := by
 unfold balS
 rw [seg_snoc h hq]
 simp
theorem balS_cut {l : List Nod} {a b c : Nat} (h1 : a ≤ b) (h2 : b ≤ c) : balS l a c = balS l a b + balS l b c := by
 unfold balS
 rw [seg_cut h1 h2]
 simp
theorem balS_same {l : List Nod} {a : Nat} : balS l a a = 0 := by
 unfold balS
 rw [seg_same]; rfl
def OB (l : List Nod) : List (Nat × Nat) → Nat → Prop
 | [], _ => True
 | x :: r, q => x.1 < q ∧ (∀ k, x.1 < k → k ≤ q → 1 ≤ balS l x.1 k) ∧ balS l x.1 q = 1 ∧ OB l r x.1
theorem OB.item {l : List Nod} {os : List (Nat × Nat)} {p e : Nat} (h : OB l os p) (hpe : p < e) (h0 : balS l p e = 0) (h1 : ∀ k, p < k → k < e → 1 ≤ balS l p k) : OB l os e := by
 cases os with
 | nil => trivial
 | cons x r =>
  obtain ⟨q1, q2, q3, q4⟩ := h
  refine ⟨by omega, fun k hk hke => ?_, ?_, q4⟩
  ·rcases Nat.lt_or_ge p k with hpk | hpk
   ·rw [balS_cut (Nat.le_of_lt q1) (Nat.le_of_lt hpk), q3]
    rcases Nat.lt_or_ge k e with h2 | h2
    ·have := h1 k hpk h2; omega
    have : k = e := by omega
    rw [this, h0]; omega
   exact q2 k hk hpk
  rw [balS_cut (Nat.le_of_lt q1) (Nat.le_of_lt hpe), q3, h0]; rfl
structure WB (l : List Nod) (W : Wk) (q : Nat) : Prop where
 len : W.beh.length = l.length
 op : OB l W.os.reverse q
 done : ∀ p, W.beh.getD p 0 ≠ 0 → p < W.beh.getD p 0 ∧ balS l p (W.beh.getD p 0) = 0 ∧ ∀ k, p < k → k < W.beh.getD p 0 → 1 ≤ balS l p k
theorem wb_done {l : List Nod} {beh : List Nat} {k v : Nat} (hk : k < beh.length) (I : ∀ p, beh.getD p 0 ≠ 0 → p < beh.getD p 0 ∧ balS l p (beh.getD p 0) = 0 ∧ ∀ j, p < j → j < beh.getD p 0 → 1 ≤ balS l p j)
  (h : k < v ∧ balS l k v = 0 ∧ ∀ j, k < j → j < v → 1 ≤ balS l k j) : ∀ p, (beh.set k v).getD p 0 ≠ 0 → p < (beh.set k v).getD p 0 ∧ balS l p ((beh.set k v).getD p 0) = 0 ∧ ∀ j, p < j → j < (beh.set k v).getD p 0 → 1 ≤ balS l p j := by
 intro p hp
 by_cases e : p = k
 ·subst e
  rw [getD_here hk]; exact h
 rw [getD_set e] at hp ⊢
 exact I p hp
theorem balN_end {n : Nod} (h : n.kind = 6) : balN n = -1 := by unfold balN; rw [if_pos h]
theorem balN_open {n : Nod} (h : enters n.kind = true) : balN n = 1 := by
 unfold balN
 rw [if_neg (enters_no h).1, if_pos h]
theorem balN_none {n : Nod} (h : enters n.kind = false) (h6 : n.kind ≠ 6) : balN n = 0 := by
 unfold balN
 rw [if_neg h6, h]; rfl
theorem wb_step {l : List Nod} {at_ : Nat} {W W' : Wk} (h : stepW l at_ W = some W') (hl : at_ < l.length) (I : WB l W at_) : WB l W' (at_ + 1) := by
 unfold stepW at h
 by_cases h6 : (nth l at_).kind = 6
 ·simp only [h6, decide_true, cond_true] at h
  unfold leaveW at h
  split at h
  ·cases h
  rename_i p hp
  cases hb : (inDiscB l W.os && !decide (p.2 = 2)) with
  | true => rw [hb] at h; cases h
  | false =>
   rw [hb] at h
   simp only [cond_false, Option.some.injEq] at h
   subst h
   obtain ⟨r, hos⟩ := os_snoc hp
   have ho := I.op
   rw [hos, List.reverse_append] at ho
   obtain ⟨q1, q2, q3, q4⟩ : p.1 < at_ ∧ (∀ k, p.1 < k → k ≤ at_ → 1 ≤ balS l p.1 k) ∧ balS l p.1 at_ = 1 ∧ OB l r.reverse p.1 := ho
   have hdl : W.os.dropLast = r := by rw [hos, List.dropLast_concat]
   have h0 : balS l p.1 (at_ + 1) = 0 := by rw [balS_snoc (Nat.le_of_lt q1) hl, q3, balN_end h6]; rfl
   have h1 : ∀ k, p.1 < k → k < at_ + 1 → 1 ≤ balS l p.1 k := fun k hk hk2 => q2 k hk (by omega)
   rw [hdl]
   exact ⟨by simpa using I.len, q4.item (by omega) h0 h1, wb_done (by rw [I.len]; omega) I.done ⟨by omega, h0, h1⟩⟩
 simp only [h6, decide_false, cond_false] at h
 by_cases h11 : (nth l at_).kind = 11
 ·simp only [h11, decide_true, cond_true] at h
  unfold partW at h
  split at h
  ·cases h
  rename_i p hp
  cases hb : (inDiscB l W.os && decide (p.2 + 1 ≤ 2)) with
  | false => rw [hb] at h; cases h
  | true =>
   rw [hb] at h
   simp only [cond_true, Option.some.injEq] at h
   subst h
   obtain ⟨r, hos⟩ := os_snoc hp
   have ho := I.op
   rw [hos, List.reverse_append] at ho
   obtain ⟨q1, q2, q3, q4⟩ : p.1 < at_ ∧ (∀ k, p.1 < k → k ≤ at_ → 1 ≤ balS l p.1 k) ∧ balS l p.1 at_ = 1 ∧ OB l r.reverse p.1 := ho
   have hdl : W.os.dropLast = r := by rw [hos, List.dropLast_concat]
   have h0 : balS l p.1 (at_ + 1) = 1 := by rw [balS_snoc (Nat.le_of_lt q1) hl, q3, balN_none (by rw [h11]; rfl) h6]; rfl
   rw [hdl]
   refine ⟨I.len, ?_, I.done⟩
   rw [List.reverse_append]
   refine ⟨by show p.1 < at_ + 1; omega, fun k hk hk2 => ?_, h0, q4⟩
   rcases Nat.lt_or_ge k (at_ + 1) with h2 | h2
   ·exact q2 k hk (by omega)
   have : k = at_ + 1 := by omega
   subst this
   show 1 ≤ balS l p.1 (at_ + 1)
   omega
 simp only [h11, decide_false, cond_false] at h
 cases hb : (!inDiscB l W.os || brokenB (nth l at_)) with
 | false => rw [hb] at h; cases h
 | true =>
  rw [hb, cond_true, Option.some.injEq] at h
  subst h
  cases hen : enters (nth l at_).kind with
  | true =>
   simp only [cond_true]
   have h0 : balS l at_ (at_ + 1) = 1 := by rw [balS_snoc (Nat.le_refl _) hl, balS_same, balN_open hen]; rfl
   refine ⟨I.len, ?_, I.done⟩
   rw [List.reverse_append]
   refine ⟨by show at_ < at_ + 1; omega, fun k hk hk2 => ?_, h0, I.op⟩
   have : k = at_ + 1 := by have : at_ < k := hk; omega
   subst this
   show 1 ≤ balS l at_ (at_ + 1)
   omega
  | false =>
   simp only [cond_false]
   have h0 : balS l at_ (at_ + 1) = 0 := by rw [balS_snoc (Nat.le_refl _) hl, balS_same, balN_none hen h6]; rfl
   have h1 : ∀ k, at_ < k → k < at_ + 1 → 1 ≤ balS l at_ k := fun k _ _ => by omega
   exact ⟨by simpa using I.len, I.op.item (by omega) h0 h1, wb_done (by rw [I.len]; omega) I.done ⟨by omega, h0, h1⟩⟩
theorem wb_walk {l : List Nod} : ∀ {n at_ : Nat} {W W' : Wk}, walkW l n at_ W = some W' → at_ + n ≤ l.length → WB l W at_ → WB l W' (at_ + n)
 | 0, at_, W, W', h, _, I => by
  simp only [walkW, Option.some.injEq] at h
  subst h; exact I
 | n + 1, at_, W, W', h, hl, I => by
  unfold walkW at h
  cases hr : rightB (nth l at_) with
  | false => rw [hr] at h; cases h
  | true =>
   rw [hr, cond_true] at h
   split at h
   ·rename_i W1 h1
    have := wb_walk h (by omega) (wb_step h1 (by omega) I)
    rwa [show at_ + 1 + n = at_ + (n + 1) by omega] at this
   cases h
theorem Good.bal {l : List Nod} {W : Wk} (h : Good l W) : ∀ p, W.beh.getD p 0 ≠ 0 → p < W.beh.getD p 0 ∧ balS l p (W.beh.getD p 0) = 0 ∧ ∀ k, p < k → k < W.beh.getD p 0 → 1 ≤ balS l p k :=
 (wb_walk h.walk (by omega) ⟨by simp [walk0], trivial, fun p hp => absurd (zeros_getD _ p) hp⟩).done
/-! ### the walk -/
structure EX (l : List Nod) (p e : Nat) where
 i : Nat
 n : Nat
 le : p ≤ i
 lt : i < e
 hn : balS l p i = (n : Int)
structure Itm (l : List Nod) (p e : Nat) : Prop where
 lt : p < e
 le : e ≤ l.length
 zero : balS l p e = 0
 pos : ∀ k, p < k → k < e → 1 ≤ balS l p k
theorem Good.itm {l : List Nod} {W : Wk} (h : Good l W) {p e : Nat} (he : W.beh.getD p 0 = e) (h0 : e ≠ 0) : Itm l p e := by
 subst he
 obtain ⟨h1, h2, h3⟩ := h.bal p h0
 exact ⟨h1, (h.items p h0).le, h2, h3⟩
section
variable {l : List Nod} {p e : Nat}
theorem EX.small (x : EX l p e) (I : Itm l p e) (hl : l.length ≤ 2000) : x.n ≤ 2000 := by
 have h1 := x.hn
 have h2 := x.lt
 have h3 := I.le
 have key : ∀ m, p + m ≤ l.length → balS l p (p + m) ≤ m := by
  intro m
  induction m with
  | zero => intro _; rw [Nat.add_zero, balS_same]; simp
  | succ m ih =>
   intro hm
   rw [← Nat.add_assoc, balS_snoc (by omega) (by omega)]
   have := ih (by omega)
   have hb : balN (nth l (p + m)) ≤ 1 := by unfold balN; split; omega; split <;> omega
   omega
 have h4 := key (x.i - p) (by have := x.le; omega)
 rw [show p + (x.i - p) = x.i by have := x.le; omega] at h4
 omega
def EX.up (x : EX l p e) (I : Itm l p e) (h : enters (nth l x.i).kind = true) : EX l p e :=
 ⟨x.i + 1, x.n + 1, by have := x.le; omega, by
  have h1 := x.lt
  rcases Nat.lt_or_ge (x.i + 1) e with h2 | h2
  ·exact h2
  exfalso
  have h3 : e = x.i + 1 := by omega
  have h4 := I.zero
  rw [h3, balS_snoc x.le (by have := I.le; omega), x.hn, balN_open h] at h4
  omega, by rw [balS_snoc x.le (by have := I.le; have := x.lt; omega), x.hn, balN_open h]; simp⟩
def EX.same (x : EX l p e) (I : Itm l p e) (hp : enters (nth l p).kind = true) (h : enters (nth l x.i).kind = false) (h6 : (nth l x.i).kind ≠ 6) : EX l p e :=
 ⟨x.i + 1, x.n, by have := x.le; omega, by
  have h1 := x.lt
  rcases Nat.lt_or_ge (x.i + 1) e with h2 | h2
  ·exact h2
  exfalso
  have h3 : e = x.i + 1 := by omega
  have h4 := I.zero
  rw [h3, balS_snoc x.le (by have := I.le; omega), balN_none h h6] at h4
  rcases Nat.lt_or_ge p x.i with h5 | h5
  ·have := I.pos x.i h5 (by omega)
   omega
  have : x.i = p := by have := x.le; omega
  rw [this, hp] at h
  exact Bool.noConfusion h, by rw [balS_snoc x.le (by have := I.le; have := x.lt; omega), x.hn, balN_none h h6]; simp⟩
theorem EX.one (x : EX l p e) (I : Itm l p e) (hp : enters (nth l p).kind = true) (h6 : (nth l x.i).kind = 6) : 1 ≤ x.n := by
 have h1 := x.hn
 rcases Nat.lt_or_ge p x.i with h5 | h5
 ·have := I.pos x.i h5 x.lt
  omega
 have : x.i = p := by have := x.le; omega
 rw [this] at h6
 exact absurd h6 (enters_no hp).1
theorem EX.end_ (x : EX l p e) (I : Itm l p e) (h6 : (nth l x.i).kind = 6) (h1 : x.n = 1) : x.i + 1 = e := by
 have h0 : balS l p (x.i + 1) = 0 := by
  rw [balS_snoc x.le (by have := I.le; have := x.lt; omega), x.hn, balN_end h6, h1]; rfl
 have h2 := x.lt
 rcases Nat.lt_or_ge (x.i + 1) e with h3 | h3
 ·have := I.pos (x.i + 1) (by have := x.le; omega) h3
  omega
 omega
def EX.down (x : EX l p e) (I : Itm l p e) (h6 : (nth l x.i).kind = 6) (h1 : 1 < x.n) : EX l p e :=
 ⟨x.i + 1, x.n - 1, by have := x.le; omega, by
  have h2 := x.lt
  rcases Nat.lt_or_ge (x.i + 1) e with h3 | h3
  ·exact h3
  exfalso
  have h3 : e = x.i + 1 := by omega
  have h4 := I.zero
  rw [h3, balS_snoc x.le (by have := I.le; omega), x.hn, balN_end h6] at h4
  omega, by rw [balS_snoc x.le (by have := I.le; have := x.lt; omega), x.hn, balN_end h6]; omega⟩
end
theorem of_end {k : Int} (h : (k == 6) = true) : k = 6 := by simpa using h
theorem not_end {k : Int} (h : (k == 6) = false) : k ≠ 6 := by simpa using h
theorem ret_nat {a b : Nat} (h : a = b) : Ending.returned (.int .i64 ((a : Nat) : Int)) = Ending.returned (.int .i64 (b : Int)) := by rw [h]
theorem down1 {i e : Nat} (h : i < e) : e - (i + 1) < e - i := by omega
theorem n_small {n : Nat} (h : n ≤ 2000) : n < 9223372036854775807 := by omega
theorem sub_one {n : Nat} (h : n ≤ 2000) (h1 : 1 ≤ n) (w : World) : (binSem .sub 3 (.tmp 31) (.const (.int .i64 1)) (.int .i64 (n : Int)) (.int .i64 1)).run Try.prog w = .ok (.value (.int .i64 ((n - 1 : Nat) : Int))) w :=
 bin_run (v := .int .i64 (IntKind.wrap .i64 ((n : Int) - 1))) kR (by rw [wrap_i64 (by omega) (by omega), show (n : Int) - 1 = ((n - 1 : Nat) : Int) by omega])
theorem one_of {n : Nat} (h : (((n - 1 : Nat) : Int) == 0) = true) (h1 : 1 ≤ n) : n = 1 := by simp at h; omega
theorem two_of {n : Nat} (h : (((n - 1 : Nat) : Int) == 0) = false) : 1 < n := by simp at h; omega
theorem rends_one (l : List Nod) (bl ol cl p : Nat) (hp : p < l.length) (hl : l.length ≤ 2000) (hen : enters (nth l p).kind = false) (w : World) (hq : Sat w [] [.row bl ol 19 l.length (rowOf l)] w) :
  Calls Try.prog 73 #[.slice (some ⟨bl, ol, none⟩) l.length cl, .int .i64 (p : Int)] w fun e' w' => e' = .returned (.int .i64 ((p + 1 : Nat) : Int)) ∧ Kept w w' := by
 refine g_enter (args := [.slice (some ⟨bl, ol, none⟩) l.length cl, .int .i64 (p : Int)]) [] [.row bl ol 19 l.length (rowOf l)] Try.func73 rfl Try.ntmps73 kL hq ?_
 refine gU 9 [] 0 ?_
 refine g_val _ _ ?_ (fun w _hs => idx_run (P := Try.prog) (T := 59) (E := 63) (b := bl) (o := ol) (n := l.length) (c := cl) (k := p) (sz := 19) (kk := .i64) w kR kR hp) ?_
 ·kernel_rfl
 refine g_val _ _ ?_ (fun w _hs => nodeLoad (l := l) (bl := bl) (ol := ol) (k := p) (j := 0) _hs kR hp) ?_
 ·kernel_rfl
 refine g_callq _ _ _ ?_ (fun w hs => ropensv_any (nth l p) w false hen) ?_
 ·kernel_rfl
 refine gU 14 [] 1 ?_
 refine g_val _ _ ?_ (fun w _hs => nat_succ (P := Try.prog) (t := 3) (x := .tmp 13) (y := .const (.int .i64 1)) (m := p) (w := w) kR (by omega)) ?_
 ·kernel_rfl
 refine g0 ?_
 refine gR (Value.int IntKind.i64 (↑(p + 1) : Int)) fun w' hs => ?_
 exact ⟨rfl, hs.kk⟩
theorem rends_open (l : List Nod) (bl ol cl p e : Nat) (I : Itm l p e) (hp : p < l.length) (hl : l.length ≤ 2000) (hen : enters (nth l p).kind = true) (w : World) (hq : Sat w [] [.row bl ol 19 l.length (rowOf l)] w) :
  Calls Try.prog 73 #[.slice (some ⟨bl, ol, none⟩) l.length cl, .int .i64 (p : Int)] w fun e' w' => e' = .returned (.int .i64 (e : Int)) ∧ Kept w w' := by
 refine g_enter (args := [.slice (some ⟨bl, ol, none⟩) l.length cl, .int .i64 (p : Int)]) [] [.row bl ol 19 l.length (rowOf l)] Try.func73 rfl Try.ntmps73 kL hq ?_
 refine gU 9 [] 0 ?_
 refine g_val _ _ ?_ (fun w _hs => idx_run (P := Try.prog) (T := 59) (E := 63) (b := bl) (o := ol) (n := l.length) (c := cl) (k := p) (sz := 19) (kk := .i64) w kR kR hp) ?_
 ·kernel_rfl
 refine g_val _ _ ?_ (fun w _hs => nodeLoad (l := l) (bl := bl) (ol := ol) (k := p) (j := 0) _hs kR hp) ?_
 ·kernel_rfl
 refine g_callq _ _ _ ?_ (fun w hs => ropensv_any (nth l p) w true hen) ?_
 ·kernel_rfl
 refine gA [] 1 ?_
 refine g_loopN (X := EX l p e) (fun x => [(5, .int .i64 (x.n : Int)), (6, .int .i64 (x.i : Int))]) (fun _ => [.row bl ol 19 l.length (rowOf l)]) (fun x => e - x.i) ⟨p, 0, Nat.le_refl _, I.lt, balS_same⟩ kR (by unfold Known; kernel_rfl) kR fun x N hN => ?_
 have hlt := x.lt
 have hx : x.i < l.length := Nat.lt_of_lt_of_le x.lt I.le
 have hn := x.small I hl
 refine gU 20 [] 0 ?_
 refine g_val _ _ ?_ (fun w _hs => idx_run (P := Try.prog) (T := 59) (E := 63) (b := bl) (o := ol) (n := l.length) (c := cl) (k := x.i) (sz := 19) (kk := .i64) w kR kR hx) ?_
 ·kernel_rfl
 refine g_val _ _ ?_ (fun w _hs => nodeLoad (l := l) (bl := bl) (ol := ol) (k := x.i) (j := 0) _hs kR hx) ?_
 ·kernel_rfl
 refine g_callq _ _ _ ?_ (fun w hs => ropens_any (nth l x.i) w) ?_
 ·kernel_rfl
 refine g_dec 22 (enters (nth l x.i).kind) kR (fun h22 => ?_) (fun h22 => ?_)
 ·refine gU 24 [] 1 ?_
  refine g_val _ _ ?_ (fun w _hs => nat_succ (P := Try.prog) (t := 3) (x := .tmp 23) (y := .const (.int .i64 1)) (m := x.n) (w := w) kR (n_small hn)) ?_
  ·kernel_rfl
  refine gU 27 [] 0 ?_
  refine g_val _ _ ?_ (fun w _hs => idx_run (P := Try.prog) (T := 59) (E := 63) (b := bl) (o := ol) (n := l.length) (c := cl) (k := x.i) (sz := 19) (kk := .i64) w kR kR hx) ?_
  ·kernel_rfl
  refine gU 29 [] 0 ?_
  refine g_val _ _ ?_ (fun w _hs => kindLoad (l := l) (bl := bl) (ol := ol) (k := x.i) (j := 0) _hs kR hx) ?_
  ·kernel_rfl
  refine g0 ?_
  refine g_dec 30 ((nth l x.i).kind == 6) kR (fun h30 => ?_) (fun h30 => ?_)
  ·exact absurd h30 (by clear hN hq; intro hx; exact (enters_no h22).1 (by simpa using hx))
  refine gU 17 [] 1 ?_
  refine g_val _ _ ?_ (fun w _hs => nat_succ (P := Try.prog) (t := 3) (x := .tmp 16) (y := .const (.int .i64 1)) (m := x.i) (w := w) kR (n_small (Nat.le_trans (Nat.le_of_lt hx) hl))) ?_
  ·kernel_rfl
  refine g0 ?_
  refine g_hook (hN (x.up I h22) (down1 hlt)) kR kR kR (by unfold Known; kernel_rfl) kR kR
 refine gU 27 [] 1 ?_
 refine g_val _ _ ?_ (fun w _hs => idx_run (P := Try.prog) (T := 59) (E := 63) (b := bl) (o := ol) (n := l.length) (c := cl) (k := x.i) (sz := 19) (kk := .i64) w kR kR hx) ?_
 ·kernel_rfl
 refine gU 29 [] 0 ?_
 refine g_val _ _ ?_ (fun w _hs => kindLoad (l := l) (bl := bl) (ol := ol) (k := x.i) (j := 0) _hs kR hx) ?_
 ·kernel_rfl
 refine g0 ?_
 refine g_dec 30 ((nth l x.i).kind == 6) kR (fun h30 => ?_) (fun h30 => ?_)
 ·refine gU 32 [] 1 ?_
  refine g_val _ _ ?_ (fun w _hs => sub_one hn (x.one I hen (of_end h30)) w) ?_
  ·kernel_rfl
  refine g0 ?_
  refine g_dec 34 ((↑(x.n - 1) : Int) == 0) kR (fun h34 => ?_) (fun h34 => ?_)
  ·refine gU 36 [] 1 ?_
   refine g_val _ _ ?_ (fun w _hs => nat_succ (P := Try.prog) (t := 3) (x := .tmp 35) (y := .const (.int .i64 1)) (m := x.i) (w := w) kR (n_small (Nat.le_trans (Nat.le_of_lt hx) hl))) ?_
   ·kernel_rfl
   refine g0 ?_
   refine gR (Value.int IntKind.i64 (↑(x.i + 1) : Int)) fun w' hs => ?_
   exact ⟨ret_nat (x.end_ I (of_end h30) (one_of h34 (x.one I hen (of_end h30)))), hs.kk⟩
  refine gU 17 [] 1 ?_
  refine g_val _ _ ?_ (fun w _hs => nat_succ (P := Try.prog) (t := 3) (x := .tmp 16) (y := .const (.int .i64 1)) (m := x.i) (w := w) kR (n_small (Nat.le_trans (Nat.le_of_lt hx) hl))) ?_
  ·kernel_rfl
  refine g0 ?_
  refine g_hook (hN (x.down I (of_end h30) (two_of h34)) (down1 hlt)) kR kR kR (by unfold Known; kernel_rfl) kR kR
 refine gU 17 [] 1 ?_
 refine g_val _ _ ?_ (fun w _hs => nat_succ (P := Try.prog) (t := 3) (x := .tmp 16) (y := .const (.int .i64 1)) (m := x.i) (w := w) kR (n_small (Nat.le_trans (Nat.le_of_lt hx) hl))) ?_
 ·kernel_rfl
 refine g0 ?_
 refine g_hook (hN (x.same I hen h22 (not_end h30)) (down1 hlt)) kR kR kR (by unfold Known; kernel_rfl) kR kR
end Go.Proofs.Ytcncfmjfgdbfeaa
namespace Go.Proofs.Ytcncfmjfgdbfeaa
open Go.RowKit
theorem nodC_one (n : Nod) : ∀ u ∈ nodC n, u.oneCell' = true := rowOf_one [n] 0
end Go.Proofs.Ytcncfmjfgdbfeaa
namespace Go.Proofs.Ytcncfmjfgdbfeaa
open Go.RowKit
theorem rends_any (l : List Nod) (bl ol cl : Nat) (W : Wk) (hG : Good l W) (p e : Nat) (hp : p < l.length) (he : W.beh.getD p 0 = e) (h0 : e ≠ 0) (w : World) (hq : Sat w [] [.row bl ol 19 l.length (rowOf l)] w) :
  Calls Try.prog 73 #[.slice (some ⟨bl, ol, none⟩) l.length cl, .int .i64 (p : Int)] w fun e' w' => e' = .returned (.int .i64 (e : Int)) ∧ Kept w w' := by
 cases hen : enters (nth l p).kind with
 | true => exact rends_open l bl ol cl p e (hG.itm he h0) hp hG.le hen w hq
 | false =>
  have hi := hG.items p (by omega)
  rcases hi.ins with ⟨h1, _⟩ | ⟨_, h1, _⟩
  ·rw [he] at h1
   rw [h1]
   exact rends_one l bl ol cl p hp hG.le hen w hq
  rw [hen] at h1; cases h1
def intR (ss : List Nat) : Nat → List Value := fun k => [.int .i64 ((ss.getD k 0 : Nat) : Int)]
theorem intR_rows (ss : List Nat) : rowsL (intR ss) 0 ss.length = behC ss := by
 apply List.ext_getElem?
 intro k
 by_cases hk : k < ss.length
 ·have h := rowsL_at (f := intR ss) (sz := 1) (fun _ => rfl) 0 ss.length k 0 hk (by omega)
  rw [Nat.mul_one, Nat.add_zero] at h
  rw [h]
  simp [intR, behC, hk, List.getD]
 rw [List.getElem?_eq_none (by rw [rowsL_length (fun _ => rfl) (sz := 1)]; omega), List.getElem?_eq_none (by rw [behC_length]; omega)]
structure NewI (w0 : World) (ss : List Nat) where
 A : Option Addr
 c : Nat
 b : Nat
 ax : ss.length = 0 ∨ A = some ⟨b, 0, none⟩
 new : 0 < ss.length → w0.heap.size ≤ b
def startsN (l : List Nod) (W : Wk) : List Nat := itemsF W.beh l.length l.length 0
structure STX (l : List Nod) (W : Wk) where
 at_ : Nat
 n : Nat
 cap : Nat
 base : Option Addr
 e : HE
 oc : List Value
 ss : List Nat
 ch : Ch W.beh at_ l.length
 hn : ss.length = n
 row : ∀ (hp : List HE) (i : Nat), hp[i]? = some e → RowAt hp i base n cap 1 oc 3
 tk : oc.take (n * 1) = behC ss
 is : ss ++ itemsF W.beh l.length l.length at_ = startsN l W
def STX.next {l : List Nod} {W : Wk} (x : STX l W) (hx : x.at_ < l.length) (b' cap' : Nat) (cs' : List Value) (hc : x.n + 1 ≤ cap') (hl : cs'.length = cap' * 1) (ht : cs'.take ((x.n + 1) * 1) = x.oc.take (x.n * 1) ++ [.int .i64 (x.at_ : Int)]) : STX l W :=
 ⟨W.beh.getD x.at_ 0, x.n + 1, cap', some ⟨b', 0, none⟩, .obj true b' cs' 3, cs', x.ss ++ [x.at_], (items_unroll x.ch hx (Nat.le_refl _)).2.2.2, by rw [List.length_append, x.hn]; rfl, fun _ _ h => rowAt_own h hl hc, by
  rw [ht, x.tk]
  simp [behC], by
  have h := x.is
  rw [(items_unroll x.ch hx (Nat.le_refl _)).1] at h
  rw [List.append_assoc]
  exact h⟩
theorem STX.lt {l : List Nod} {W : Wk} (x : STX l W) (hx : x.at_ < l.length) : x.at_ < W.beh.getD x.at_ 0 ∧ W.beh.getD x.at_ 0 ≤ l.length := by
 obtain ⟨_, _, h1, h2⟩ := items_unroll x.ch hx (Nat.le_refl _)
 exact ⟨h1, h2.le⟩
theorem STX.small {l : List Nod} {W : Wk} (hG : Good l W) (x : STX l W) : x.n ≤ 2000 := by
 have h := congrArg List.length x.is
 rw [List.length_append, x.hn] at h
 have h1 : (startsN l W).length ≤ l.length := items_le
 have := hG.le
 omega
theorem STX.done {l : List Nod} {W : Wk} (x : STX l W) (hx : ¬ x.at_ < l.length) : x.ss = startsN l W := by
 have h := x.is
 rw [items_end hx, List.append_nil] at h
 exact h
theorem STX.ret {l : List Nod} {W : Wk} (x : STX l W) (hx : ¬ x.at_ < l.length) {w w' : World} {hp : List HE} (hs : Sat w [] hp w') {i : Nat} (hi : hp[i]? = some x.e) (n : Nat) (hn : (startsN l W).length = n) :
  ∃ q : NewI w (startsN l W), Ending.returned (.slice x.base x.n x.cap) = Ending.returned (.slice q.A n q.c) ∧ Sat w [] [.row q.b 0 1 n (intR (startsN l W))] w' := by
 have hss := x.done hx
 have h1 := x.hn
 have h2 := x.tk
 rw [hss] at h1 h2
 have hnn : x.n = n := by rw [← h1, hn]
 obtain ⟨_, hr⟩ := x.row hp i hi
 rcases hr with ⟨r1, r2, r3⟩ | ⟨b, r1, r2, r3, r4⟩
 ·refine ⟨⟨none, 0, 0, .inl (by omega), fun h => by omega⟩, by rw [r1, r3, hnn], ?_⟩
  exact Sat.oneRow hs.kk (row_sat fun h => by omega)
 have hnew := (own_cells (hs.holds _ (List.mem_of_getElem? r2)) rfl).2.resolve_right (by simp)
 refine ⟨⟨some ⟨b, 0, none⟩, x.cap, b, .inr rfl, fun _ => hnew⟩, by rw [r1, hnn], ?_⟩
 have h3 := hs.asRow (n := n) (sz := 1) (f := intR (startsN l W)) r2 (fun _ => rfl) (by rw [← hn, intR_rows, ← h2, ← h1])
 exact Sat.oneRow hs.kk h3
set_option maxRecDepth 100000 in
set_option maxHeartbeats 4000000 in
theorem rstarts_row (l : List Nod) (bl ol cl : Nat) (W : Wk) (hG : Good l W) (_hl : l.length ≤ 2000) (n : Nat) (hn : (startsN l W).length = n) (w : World) (hq : Sat w [] [.row bl ol 19 l.length (rowOf l)] w) :
  Calls Try.prog 131 #[.slice (some ⟨bl, ol, none⟩) l.length cl] w fun e w' => ∃ q : NewI w (startsN l W), e = .returned (.slice q.A n q.c) ∧ Sat w [] [.row q.b 0 1 n (intR (startsN l W))] w' := by
 have hch := (good_ch hG.walk hG.os).1
 refine g_enter (args := [.slice (some ⟨bl, ol, none⟩) l.length cl]) [] [.row bl ol 19 l.length (rowOf l)] Try.func131 rfl Try.ntmps131 kL hq ?_
 refine g0 ?_
 refine g_dummy ?_
 refine g_loopN (X := STX l W) (fun x => [(3, .slice x.base x.n x.cap), (4, .int .i64 (x.at_ : Int))]) (fun x => [.row bl ol 19 l.length (rowOf l), x.e]) (fun x => l.length - x.at_) ⟨0, 0, 0, none, noneE, [], [], hch, rfl, fun hp i h => ⟨(List.getElem?_eq_some_iff.1 h).1, .inl ⟨rfl, rfl, rfl⟩⟩, rfl, rfl⟩ kR (by unfold Known; kernel_rfl) kR fun x N hN => ?_
 refine g0 ?_
 refine g_dec 8 (decide ((x.at_ : Int) < (l.length : Int))) kR (fun h => ?_) (fun h => ?_)
 ·have hx : x.at_ < l.length := Int.ofNat_lt.1 (of_decide_eq_true h)
  have hlt := x.lt hx
  have hsm := x.small hG
  refine gA [] 1 ?_
  refine gN fun b2 hb2 => ?_
  refine g_append 1 2 25 3 3 x.base x.n x.cap 1 1 1 b2 8 x.oc [.int .i64 (x.at_ : Int)] true kR kR kR (info_of kR) (x.row _ 1 kR) kR rfl (by simp [Value.oneCell']) Nat.one_pos (by omega) (by omega) fun b' cap' cs' _hb' hc' hl' ht' => ?_
  refine g0 ?_
  refine g_callq _ _ _ ?_ (fun w hs => rends_any l bl ol cl W hG x.at_ (W.beh.getD x.at_ 0) hx rfl (by omega) w (hs.read [0] [.row bl ol 19 l.length (rowOf l)] kR)) ?_
  ·kernel_rfl
  refine g0 ?_
  refine g_take 2 ?_
  refine g_hook (hN (x.next hx b' cap' cs' hc' hl' ht') (by show l.length - W.beh.getD x.at_ 0 < l.length - x.at_; omega)) kR kR kR (by unfold Known; kernel_rfl) kR kR
 have hx : ¬ x.at_ < l.length := fun hx => of_decide_eq_false h (Int.ofNat_lt.2 hx)
 refine gA [] 1 ?_
 refine gR (Value.slice x.base x.n x.cap) fun w' hs => ?_
 exact x.ret hx hs (i := 1) kR n hn
end Go.Proofs.Ytcncfmjfgdbfeaa
