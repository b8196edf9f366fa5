/- NodIt NodBal NodW. -/
import Derived.Test.YtcncfmjfgdbfeabM27
import Derived.Test.YtcncfmjfgdbfeabM26
namespace Go.Proofs.Ytcncfmjfgdbfeab
open Go.RowKit
/-! ### the walk without places: what is open alone -/
def topD : List (Bool × Nat) → Bool
 | [] => false
 | x :: _ => x.1
def stepS (D : Nat) (n : Nod) (S : List (Bool × Nat)) : Option (List (Bool × Nat)) :=
 bif !rightB n then none else
 bif decide (n.kind = 6) then (match S with
  | [] => none
  | x :: r => bif x.1 && !decide (x.2 = 2) then none else some r)
 else bif decide (n.kind = 11) then (match S with
  | [] => none
  | x :: r => bif x.1 && decide (x.2 + 1 ≤ 2) then some ((x.1, x.2 + 1) :: r) else none)
 else bif decide (S.length + 1 ≤ D) && (!topD S || brokenB n) then some (bif enters n.kind then (decide (n.kind = 10), 0) :: S else S) else none
def runS (D : Nat) : List Nod → List (Bool × Nat) → Option (List (Bool × Nat))
 | [], S => some S
 | n :: r, S => match stepS D n S with
  | some S' => runS D r S'
  | none => none
theorem run_app {D : Nat} : ∀ {a b : List Nod} {S S' : List (Bool × Nat)}, runS D a S = some S' → runS D (a ++ b) S = runS D b S'
 | [], b, S, S', h => by
  simp only [runS, Option.some.injEq] at h
  rw [h]; rfl
 | n :: r, b, S, S', h => by
  simp only [runS, List.cons_append] at h ⊢
  split at h
  ·exact run_app h
  cases h
theorem run_one {D : Nat} {n : Nod} {S : List (Bool × Nat)} : runS D [n] S = stepS D n S := by
 simp only [runS]
 cases stepS D n S <;> rfl
theorem run_snoc {D : Nat} {a : List Nod} {n : Nod} {S S1 S2 : List (Bool × Nat)} (h : runS D a S = some S1) (h2 : stepS D n S1 = some S2) : runS D (a ++ [n]) S = some S2 := by
 rw [run_app h, run_one, h2]
theorem enters_no {k : Int} (h : enters k = true) : k ≠ 6 ∧ k ≠ 11 := by
 unfold enters at h
 simp only [Bool.or_eq_true, decide_eq_true_eq] at h
 omega
theorem step_any {D : Nat} {n : Nod} {S : List (Bool × Nat)} (hr : rightB n = true) (h6 : n.kind ≠ 6) (h11 : n.kind ≠ 11) (hl : S.length + 1 ≤ D) (hb : topD S = true → brokenB n = true) :
  stepS D n S = some (bif enters n.kind then (decide (n.kind = 10), 0) :: S else S) := by
 have e : (!topD S || brokenB n) = true := by
  cases h : topD S with
  | false => rfl
  | true => rw [hb h]; rfl
 unfold stepS
 simp only [hr, h6, h11, hl, e, decide_true, decide_false, cond_true, cond_false, Bool.not_true, Bool.and_self]
theorem step_end {D : Nat} {n : Nod} {x : Bool × Nat} {r : List (Bool × Nat)} (hr : rightB n = true) (h6 : n.kind = 6) (hx : x.1 = true → x.2 = 2) : stepS D n (x :: r) = some r := by
 have e : (x.1 && !decide (x.2 = 2)) = false := by
  cases h : x.1 with
  | false => rfl
  | true => simp [hx h]
 unfold stepS
 simp only [hr, h6, e, decide_true, cond_true, cond_false, Bool.not_true]
theorem step_sep {D : Nat} {n : Nod} {s : Nat} {r : List (Bool × Nat)} (hr : rightB n = true) (h11 : n.kind = 11) (hs : s + 1 ≤ 2) : stepS D n ((true, s) :: r) = some ((true, s + 1) :: r) := by
 unfold stepS
 have h6 : ¬ n.kind = 6 := by omega
 simp only [hr, h11, hs, decide_true, cond_true, cond_false, Bool.not_true, Bool.and_self]
 rfl
/-! ### pieces -/
def seg (l : List Nod) (a b : Nat) : List Nod := (l.drop a).take (b - a)
theorem seg_len {l : List Nod} {a b : Nat} (h : b ≤ l.length) : (seg l a b).length = b - a := by
 simp only [seg, List.length_take, List.length_drop]; omega
theorem seg_same {l : List Nod} {a : Nat} : seg l a a = [] := by simp [seg]
theorem seg_nth {l : List Nod} {a b k : Nat} (hk : k < b - a) : nth (seg l a b) k = nth l (a + k) := by
 simp only [nth, seg, List.getD_eq_getElem?_getD, List.getElem?_take, List.getElem?_drop, if_pos hk]
theorem nth_get {l : List Nod} {k : Nat} (h : k < l.length) : nth l k = l[k] := by
 simp [nth, List.getD, h]
theorem seg_cut {l : List Nod} {a b c : Nat} (h1 : a ≤ b) (h2 : b ≤ c) : seg l a c = seg l a b ++ seg l b c := by
 unfold seg
 rw [show c - a = (b - a) + (c - b) by omega, List.take_add, List.drop_drop, show a + (b - a) = b by omega]
theorem seg_one {l : List Nod} {a : Nat} (h : a < l.length) : seg l a (a + 1) = [nth l a] := by
 unfold seg
 rw [show a + 1 - a = 1 by omega, nth_get h, List.drop_eq_getElem_cons h]
 rfl
theorem seg_snoc {l : List Nod} {a q : Nat} (h : a ≤ q) (hq : q < l.length) : seg l a (q + 1) = seg l a q ++ [nth l q] := by
 rw [seg_cut h (Nat.le_succ q), seg_one hq]
theorem seg_cons {l : List Nod} {a q : Nat} (h : a < q) (hq : a < l.length) : seg l a q = nth l a :: seg l (a + 1) q := by
 rw [seg_cut (Nat.le_succ a) h, seg_one hq]; rfl
theorem seg_all {l : List Nod} : seg l 0 l.length = l := by simp [seg]
/-! ### what is known of items -/
def inRun (x : List Nod) (k : Nat) : Prop := ∀ (D : Nat) (B : List (Bool × Nat)), B.length + k ≤ D → topD B = false → runS D x B = some B
structure ItemF (l : List Nod) (p e : Nat) (D : Int) : Prop where
 lt : p < e
 le : e ≤ l.length
 right : rightB (nth l p) = true
 run : ∃ k : Nat, (k : Int) ≤ D ∧ ∀ (D' : Nat) (B : List (Bool × Nat)), B.length + k ≤ D' → (topD B = true → brokenB (nth l p) = true) → runS D' (seg l p e) B = some B
 kind : (nth l p).kind ≠ 6 ∧ (nth l p).kind ≠ 11
 ins : (e = p + 1 ∧ enters (nth l p).kind = false) ∨ (p + 1 < e ∧ enters (nth l p).kind = true ∧ (nth l (e - 1)).kind = 6 ∧ rightB (nth l (e - 1)) = true ∧ ((nth l p).kind ≠ 10 → ∃ k : Nat, (k : Int) ≤ D ∧ inRun (seg l (p + 1) (e - 1)) k))
theorem ItemF.mono {l : List Nod} {p e : Nat} {D D' : Int} (h : ItemF l p e D) (hD : D ≤ D') : ItemF l p e D' := by
 obtain ⟨h1, h2, h3, ⟨k, h4, h5⟩, h6, h7⟩ := h
 refine ⟨h1, h2, h3, ⟨k, by omega, h5⟩, h6, h7.imp id ?_⟩
 rintro ⟨q1, q2, q3, q4, q5⟩
 refine ⟨q1, q2, q3, q4, fun h => ?_⟩
 obtain ⟨k, r1, r2⟩ := q5 h
 exact ⟨k, by omega, r2⟩
def InR (l : List Nod) (D : Int) (m p s q : Nat) : Prop := ∃ k : Nat, ((k + (m + 1) : Nat) : Int) ≤ D ∧ ((nth l p).kind ≠ 10 → inRun (seg l (p + 1) q) k) ∧
 ((nth l p).kind = 10 → ∀ (D' : Nat) (B : List (Bool × Nat)), B.length + 1 + k ≤ D' → runS D' (seg l (p + 1) q) ((true, 0) :: B) = some ((true, s) :: B))
def parOk (l : List Nod) (r : List (Nat × Nat)) (p : Nat) : Prop := match r with
 | [] => True
 | x :: _ => (nth l x.1).kind = 10 → brokenB (nth l p) = true
def OSf (l : List Nod) (D : Int) : List (Nat × Nat) → Nat → Prop
 | [], _ => 0 ≤ D
 | x :: r, q => x.1 < q ∧ enters (nth l x.1).kind = true ∧ rightB (nth l x.1) = true ∧ parOk l r x.1 ∧ InR l D r.length x.1 x.2 q ∧ OSf l D r x.1
theorem OSf.mono {l : List Nod} {D D' : Int} (hD : D ≤ D') : ∀ {os : List (Nat × Nat)} {q : Nat}, OSf l D os q → OSf l D' os q
 | [], _, h => by
  have h' : 0 ≤ D := h
  show 0 ≤ D'
  omega
 | _ :: _, _, ⟨h1, h2, h3, h4, ⟨k, h5, h6⟩, h7⟩ => ⟨h1, h2, h3, h4, ⟨k, by omega, h6⟩, h7.mono hD⟩
theorem OSf.item {l : List Nod} {D : Int} {os : List (Nat × Nat)} {p e : Nat} (h : OSf l D os p) (hi : ∃ k : Nat, ((k + os.length : Nat) : Int) ≤ D ∧ ∀ (D' : Nat) (B : List (Bool × Nat)), B.length + k ≤ D' → (topD B = true → brokenB (nth l p) = true) → runS D' (seg l p e) B = some B) (hpe : p < e) (hb : parOk l os p) : OSf l D os e := by
 cases os with
 | nil => exact h
 | cons x r =>
  obtain ⟨h1, h2, h3, h4, ⟨k, h5, h6, h6'⟩, h7⟩ := h
  obtain ⟨k2, i1, i2⟩ := hi
  simp only [List.length_cons] at i1
  refine ⟨by omega, h2, h3, h4, ⟨max k k2, by omega, fun h10 => ?_, fun h10 => ?_⟩, h7⟩
  ·intro D' B hB ht
   rw [seg_cut (show x.1 + 1 ≤ p from h1) (Nat.le_of_lt hpe), run_app (h6 h10 D' B (by omega) ht)]
   exact i2 D' B (by omega) fun h => by rw [ht] at h; cases h
  intro D' B hB
  rw [seg_cut (show x.1 + 1 ≤ p from h1) (Nat.le_of_lt hpe), run_app (h6' h10 D' B (by omega))]
  exact i2 D' _ (by simp only [List.length_cons]; omega) fun _ => hb h10
theorem disc_par {l : List Nod} {os : List (Nat × Nat)} {p : Nat} (h : (!inDiscB l os || brokenB (nth l p)) = true) : parOk l os.reverse p := by
 cases hr : os.reverse with
 | nil => exact trivial
 | cons x r =>
  intro h10
  have e : os.getLast? = some x := by rw [← List.head?_reverse, hr]; rfl
  have hin : inDiscB l os = true := by
   unfold inDiscB
   rw [e]
   simp only [h10, decide_true]
  rw [hin] at h
  simpa using h
theorem deep_le (d : Int) (m : Nat) : d ≤ deep d m := by unfold deep; split <;> omega
theorem deep_ge (d : Int) (m : Nat) : ((m + 1 : Nat) : Int) ≤ deep d m := by unfold deep; split <;> omega
structure WF (l : List Nod) (W : Wk) (q : Nat) : Prop where
 len : W.beh.length = l.length
 op : OSf l W.d W.os.reverse q
 done : ∀ p, W.beh.getD p 0 ≠ 0 → ItemF l p (W.beh.getD p 0) W.d
theorem wf_done {l : List Nod} {beh : List Nat} {D D' : Int} {k v : Nat} (hk : k < beh.length) (hD : D ≤ D') (I : ∀ p, beh.getD p 0 ≠ 0 → ItemF l p (beh.getD p 0) D) (h : ItemF l k v D') :
  ∀ p, (beh.set k v).getD p 0 ≠ 0 → ItemF l p ((beh.set k v).getD p 0) D' := by
 intro p hp
 by_cases e : p = k
 ·subst e
  rw [getD_here hk]; exact h
 rw [getD_set e] at hp ⊢
 exact (I p hp).mono hD
theorem wf_step {l : List Nod} {at_ : Nat} {W W' : Wk} (h : stepW l at_ W = some W') (hr : rightB (nth l at_) = true) (hl : at_ < l.length) (I : WF l W at_) : WF l W' (at_ + 1) := by
 unfold stepW at h
 by_cases h6 : (nth l at_).kind = 6
 ·simp only [h6, decide_true, cond_true] at h
  unfold leaveW at h
  split at h
  ·cases h
  rename_i p hp
  cases hb : (inDiscB l W.os && !decide (p.2 = 2)) with
  | true => rw [hb] at h; cases h
  | false =>
   rw [hb] at h
   simp only [cond_false, Option.some.injEq] at h
   subst h
   obtain ⟨r, hos⟩ := os_snoc hp
   have ho := I.op
   rw [hos, List.reverse_append] at ho
   obtain ⟨h1, h2, h3, h4, ⟨k, h5, h5a, h5b⟩, h7⟩ : p.1 < at_ ∧ enters (nth l p.1).kind = true ∧ rightB (nth l p.1) = true ∧ parOk l r.reverse p.1 ∧ InR l W.d r.reverse.length p.1 p.2 at_ ∧ OSf l W.d r.reverse p.1 := ho
   have hdl : W.os.dropLast = r := by rw [hos, List.dropLast_concat]
   have hs2 : (nth l p.1).kind = 10 → p.2 = 2 := fun h10 => by
    have hin : inDiscB l W.os = true := by
     unfold inDiscB
     rw [hp]
     simp only [h10, decide_true]
    rw [hin] at hb
    simpa using hb
   obtain ⟨k6, k11⟩ := enters_no h2
   have hrun : ∀ (D' : Nat) (B : List (Bool × Nat)), B.length + (k + 1) ≤ D' → (topD B = true → brokenB (nth l p.1) = true) → runS D' (seg l p.1 (at_ + 1)) B = some B := by
    intro D' B hB ht
    rw [seg_snoc (Nat.le_of_lt h1) hl, seg_cons h1 (by omega)]
    refine run_snoc (S1 := (decide ((nth l p.1).kind = 10), if (nth l p.1).kind = 10 then 2 else 0) :: B) ?_ ?_
    ·simp only [runS]
     rw [step_any h3 k6 k11 (by omega) ht, h2, cond_true]
     by_cases h10 : (nth l p.1).kind = 10
     ·have := h5b h10 D' B (by omega)
      rw [hs2 h10] at this
      simp only [h10, decide_true, if_true]
      exact this
     simp only [h10, decide_false, if_false]
     exact h5a h10 D' _ (by simp only [List.length_cons]; omega) rfl
    refine step_end hr h6 fun hx => ?_
    simp only [decide_eq_true_eq] at hx
    simp only [hx, if_true]
   have hi : ItemF l p.1 (at_ + 1) W.d := ⟨by omega, by omega, h3, ⟨k + 1, by omega, hrun⟩, ⟨k6, k11⟩, .inr ⟨by omega, h2, by simpa using h6, by simpa using hr, fun h10 => ⟨k, by omega, by simpa using h5a h10⟩⟩⟩
   rw [hdl]
   refine ⟨by simpa using I.len, h7.item ⟨k + 1, ?_, hrun⟩ (by omega) h4, wf_done (by rw [I.len]; omega) (Int.le_refl _) I.done hi⟩
   rw [show k + 1 + r.reverse.length = k + (r.reverse.length + 1) by omega]
   exact h5
 simp only [h6, decide_false, cond_false] at h
 by_cases h11 : (nth l at_).kind = 11
 ·simp only [h11, decide_true, cond_true] at h
  unfold partW at h
  split at h
  ·cases h
  rename_i p hp
  cases hb : (inDiscB l W.os && decide (p.2 + 1 ≤ 2)) with
  | false => rw [hb] at h; cases h
  | true =>
   rw [hb] at h
   simp only [cond_true, Option.some.injEq] at h
   subst h
   obtain ⟨r, hos⟩ := os_snoc hp
   have ho := I.op
   rw [hos, List.reverse_append] at ho
   obtain ⟨h1, h2, h3, h4, ⟨k, h5, h5a, h5b⟩, h7⟩ : p.1 < at_ ∧ enters (nth l p.1).kind = true ∧ rightB (nth l p.1) = true ∧ parOk l r.reverse p.1 ∧ InR l W.d r.reverse.length p.1 p.2 at_ ∧ OSf l W.d r.reverse p.1 := ho
   have hdl : W.os.dropLast = r := by rw [hos, List.dropLast_concat]
   rw [hdl]
   rw [Bool.and_eq_true, decide_eq_true_eq] at hb
   have h10 : (nth l p.1).kind = 10 := by
    have := hb.1
    unfold inDiscB at this
    rw [hp] at this
    simpa using this
   refine ⟨I.len, ?_, I.done⟩
   rw [List.reverse_append]
   refine ⟨by show p.1 < at_ + 1; omega, h2, h3, h4, ⟨k, h5, fun hn => absurd h10 hn, fun _ D' B hB => ?_⟩, h7⟩
   rw [seg_snoc (show p.1 + 1 ≤ at_ from h1) hl]
   exact run_snoc (h5b h10 D' B hB) (step_sep hr h11 hb.2)
 simp only [h11, decide_false, cond_false] at h
 cases hb : (!inDiscB l W.os || brokenB (nth l at_)) with
 | false => rw [hb] at h; cases h
 | true =>
  rw [hb, cond_true, Option.some.injEq] at h
  subst h
  have hpar := disc_par hb
  have hd1 := deep_le W.d W.os.length
  have hd2 := deep_ge W.d W.os.length
  cases hen : enters (nth l at_).kind with
  | true =>
   simp only [cond_true]
   refine ⟨I.len, ?_, fun p hp => (I.done p hp).mono hd1⟩
   rw [List.reverse_append]
   refine ⟨by show at_ < at_ + 1; omega, hen, hr, hpar, ⟨0, ?_, fun _ D' B _ _ => ?_, fun _ D' B _ => ?_⟩, I.op.mono hd1⟩
   ·show ((0 + (W.os.reverse.length + 1) : Nat) : Int) ≤ deep W.d W.os.length
    rw [List.length_reverse, Nat.zero_add]; exact hd2
   ·rw [seg_same]; rfl
   rw [seg_same]; rfl
  | false =>
   simp only [cond_false]
   have hrun : ∀ (D' : Nat) (B : List (Bool × Nat)), B.length + 1 ≤ D' → (topD B = true → brokenB (nth l at_) = true) → runS D' (seg l at_ (at_ + 1)) B = some B := by
    intro D' B hB ht
    rw [seg_one hl, run_one, step_any hr h6 h11 hB ht, hen, cond_false]
   have hi : ItemF l at_ (at_ + 1) (deep W.d W.os.length) := ⟨by omega, by omega, hr, ⟨1, by omega, hrun⟩, ⟨h6, h11⟩, .inl ⟨rfl, hen⟩⟩
   refine ⟨by simpa using I.len, (I.op.mono hd1).item ⟨1, ?_, hrun⟩ (by omega) hpar, wf_done (by rw [I.len]; omega) hd1 I.done hi⟩
   rw [List.length_reverse, Nat.add_comm]; exact hd2
theorem wf_walk {l : List Nod} : ∀ {n at_ : Nat} {W W' : Wk}, walkW l n at_ W = some W' → at_ + n ≤ l.length → WF l W at_ → WF l W' (at_ + n)
 | 0, at_, W, W', h, _, I => by
  simp only [walkW, Option.some.injEq] at h
  subst h; exact I
 | n + 1, at_, W, W', h, hl, I => by
  unfold walkW at h
  cases hr : rightB (nth l at_) with
  | false => rw [hr] at h; cases h
  | true =>
   rw [hr, cond_true] at h
   split at h
   ·rename_i W1 h1
    have := wf_walk h (by omega) (wf_step h1 hr (by omega) I)
    rwa [show at_ + 1 + n = at_ + (n + 1) by omega] at this
   cases h
theorem Good.items {l : List Nod} {W : Wk} (h : Good l W) : ∀ p, W.beh.getD p 0 ≠ 0 → ItemF l p (W.beh.getD p 0) W.d :=
 (wf_walk h.walk (by omega) ⟨by simp [walk0], by show (0 : Int) ≤ 0; omega, fun p hp => absurd (zeros_getD _ p) hp⟩).done
/-! ### and back: what runs is right -/
def absS (l : List Nod) (os : List (Nat × Nat)) : List (Bool × Nat) := (os.map fun p => (decide ((nth l p.1).kind = 10), p.2)).reverse
theorem abs_snoc {l : List Nod} {r : List (Nat × Nat)} {p : Nat × Nat} : absS l (r ++ [p]) = (decide ((nth l p.1).kind = 10), p.2) :: absS l r := by
 simp [absS]
theorem abs_top {l : List Nod} {os : List (Nat × Nat)} : inDiscB l os = topD (absS l os) := by
 rcases List.eq_nil_or_concat os with e | ⟨L, b, e⟩
 ·rw [e]; rfl
 rw [e, List.concat_eq_append, abs_snoc]
 unfold inDiscB
 rw [List.getLast?_append]
 rfl
theorem abs_len {l : List Nod} {os : List (Nat × Nat)} : (absS l os).length = os.length := by simp [absS]
theorem step_back {l : List Nod} {D at_ : Nat} {W : Wk} {S' : List (Bool × Nat)} (hd : W.d ≤ (D : Int)) (h : stepS D (nth l at_) (absS l W.os) = some S') :
  rightB (nth l at_) = true ∧ ∃ W', stepW l at_ W = some W' ∧ absS l W'.os = S' ∧ W'.d ≤ (D : Int) := by
 unfold stepS at h
 cases hr : rightB (nth l at_) with
 | false => rw [hr] at h; cases h
 | true =>
  rw [hr] at h
  refine ⟨rfl, ?_⟩
  simp only [Bool.not_true, cond_false] at h
  unfold stepW
  by_cases h6 : (nth l at_).kind = 6
  ·simp only [h6, decide_true, cond_true] at h ⊢
   unfold leaveW
   rcases List.eq_nil_or_concat W.os with e | ⟨L, b, e⟩
   ·rw [e] at h; cases h
   rw [List.concat_eq_append] at e
   rw [e, abs_snoc] at h
   simp only at h
   have hin : inDiscB l W.os = decide ((nth l b.1).kind = 10) := by rw [abs_top, e, abs_snoc]; rfl
   rw [hin, show W.os.getLast? = some b by rw [e]; simp]
   simp only
   cases hb : (decide ((nth l b.1).kind = 10) && !decide (b.2 = 2)) with
   | true => rw [hb] at h; cases h
   | false =>
    rw [hb, cond_false, Option.some.injEq] at h
    exact ⟨_, rfl, by simp only [e, List.dropLast_concat]; exact h, hd⟩
  simp only [h6, decide_false, cond_false] at h ⊢
  by_cases h11 : (nth l at_).kind = 11
  ·simp only [h11, decide_true, cond_true] at h ⊢
   unfold partW
   rcases List.eq_nil_or_concat W.os with e | ⟨L, b, e⟩
   ·rw [e] at h; cases h
   rw [List.concat_eq_append] at e
   rw [e, abs_snoc] at h
   simp only at h
   have hin : inDiscB l W.os = decide ((nth l b.1).kind = 10) := by rw [abs_top, e, abs_snoc]; rfl
   rw [hin, show W.os.getLast? = some b by rw [e]; simp]
   simp only
   cases hb : (decide ((nth l b.1).kind = 10) && decide (b.2 + 1 ≤ 2)) with
   | false => rw [hb] at h; cases h
   | true =>
    rw [hb, cond_true, Option.some.injEq] at h
    exact ⟨_, rfl, by simp only [e, List.dropLast_concat]; rw [abs_snoc]; exact h, hd⟩
  simp only [h11, decide_false, cond_false] at h ⊢
  rw [abs_top]
  rw [abs_len] at h
  cases hb : (decide (W.os.length + 1 ≤ D) && (!topD (absS l W.os) || brokenB (nth l at_))) with
  | false => rw [hb] at h; cases h
  | true =>
   rw [hb, cond_true, Option.some.injEq] at h
   rw [Bool.and_eq_true, decide_eq_true_eq] at hb
   rw [hb.2, cond_true]
   have hdd : deep W.d W.os.length ≤ (D : Int) := by
    have := hb.1
    unfold deep; split <;> omega
   refine ⟨_, rfl, ?_, ?_⟩
   ·subst h
    cases enters (nth l at_).kind with
    | true => exact abs_snoc
    | false => rfl
   cases enters (nth l at_).kind with
   | true => exact hdd
   | false => exact hdd
theorem walk_back {l : List Nod} {D : Nat} : ∀ {n at_ : Nat} {W : Wk} {S' : List (Bool × Nat)}, at_ + n = l.length → W.d ≤ (D : Int) → runS D (seg l at_ l.length) (absS l W.os) = some S' →
  ∃ W', walkW l n at_ W = some W' ∧ absS l W'.os = S' ∧ W'.d ≤ (D : Int)
 | 0, at_, W, S', hn, hd, h => by
  have e : at_ = l.length := by omega
  subst e
  rw [seg_same] at h
  simp only [runS, Option.some.injEq] at h
  exact ⟨W, rfl, h, hd⟩
 | n + 1, at_, W, S', hn, hd, h => by
  rw [seg_cons (by omega) (by omega)] at h
  simp only [runS] at h
  split at h
  ·rename_i S1 h1
   obtain ⟨hr, W1, w1, w2, w3⟩ := step_back hd h1
   rw [← w2] at h
   obtain ⟨W2, v1, v2, v3⟩ := walk_back (n := n) (at_ := at_ + 1) (by omega) w3 h
   refine ⟨W2, ?_, v2, v3⟩
   unfold walkW
   rw [hr, cond_true, w1]
   exact v1
  cases h
theorem good_run {x : List Nod} (hl : x.length ≤ 2000) (h : runS 40 x [] = some []) : ∃ W, Good x W := by
 have h' : runS 40 (seg x 0 x.length) (absS x (walk0 x).os) = some [] := by rw [seg_all]; exact h
 obtain ⟨W, h1, h2, h3⟩ := walk_back (n := x.length) (D := 40) (by omega) (by simp [walk0]) h'
 have h4 := abs_len (l := x) (os := W.os)
 rw [h2] at h4
 exact ⟨W, hl, h1, h4.symm, h3⟩
theorem Good.piece {l : List Nod} {W : Wk} {p : Nat} (h : Good l W) (hp : W.beh.getD p 0 ≠ 0) : ∃ V, Good (seg l p (W.beh.getD p 0)) V := by
 obtain ⟨h1, h2, _, ⟨k, h4, h5⟩, _, _⟩ := h.items p hp
 have := h.le
 have := h.d
 exact good_run (by rw [seg_len h2]; omega) (h5 40 [] (by simp only [List.length_nil]; omega) fun h => by cases h)
theorem Good.inside {l : List Nod} {W : Wk} {p : Nat} (h : Good l W) (hp : W.beh.getD p 0 ≠ 0) (hb : p + 1 < W.beh.getD p 0) (h10 : (nth l p).kind ≠ 10) : ∃ V, Good (seg l (p + 1) (W.beh.getD p 0 - 1)) V := by
 obtain ⟨h1, h2, _, _, _, h6⟩ := h.items p hp
 have := h.le
 have := h.d
 rcases h6 with ⟨q, _⟩ | ⟨_, _, _, _, q⟩
 ·omega
 obtain ⟨k, r1, r2⟩ := q h10
 exact good_run (by rw [seg_len (by omega)]; omega) (r2 40 [] (by simp only [List.length_nil]; omega) rfl)
end Go.Proofs.Ytcncfmjfgdbfeab
namespace Go.Proofs.Ytcncfmjfgdbfeab
open Go.RowKit
/-! ### plain mathematics: what is open -/
def balS (l : List Nod) (a b : Nat) : Int := ((seg l a b).map balN).sum
theorem balS_snoc {l : List Nod} {a q : Nat} (h : a ≤ q) (hq : q < l.length) : balS l a (q + 1) = balS l a q + balN (nth l q) := by
 unfold balS
 rw [seg_snoc h hq]
 simp
theorem balS_cut {l : List Nod} {a b c : Nat} (h1 : a ≤ b) (h2 : b ≤ c) : balS l a c = balS l a b + balS l b c := by
 unfold balS
 rw [seg_cut h1 h2]
 simp
theorem balS_same {l : List Nod} {a : Nat} : balS l a a = 0 := by
 unfold balS
 rw [seg_same]; rfl
def OB (l : List Nod) : List (Nat × Nat) → Nat → Prop
 | [], _ => True
 | x :: r, q => x.1 < q ∧ (∀ k, x.1 < k → k ≤ q → 1 ≤ balS l x.1 k) ∧ balS l x.1 q = 1 ∧ OB l r x.1
theorem OB.item {l : List Nod} {os : List (Nat × Nat)} {p e : Nat} (h : OB l os p) (hpe : p < e) (h0 : balS l p e = 0) (h1 : ∀ k, p < k → k < e → 1 ≤ balS l p k) : OB l os e := by
 cases os with
 | nil => trivial
 | cons x r =>
  obtain ⟨q1, q2, q3, q4⟩ := h
  refine ⟨by omega, fun k hk hke => ?_, ?_, q4⟩
  ·rcases Nat.lt_or_ge p k with hpk | hpk
   ·rw [balS_cut (Nat.le_of_lt q1) (Nat.le_of_lt hpk), q3]
    rcases Nat.lt_or_ge k e with h2 | h2
    ·have := h1 k hpk h2; omega
    have : k = e := by omega
    rw [this, h0]; omega
   exact q2 k hk hpk
  rw [balS_cut (Nat.le_of_lt q1) (Nat.le_of_lt hpe), q3, h0]; rfl
structure WB (l : List Nod) (W : Wk) (q : Nat) : Prop where
 len : W.beh.length = l.length
 op : OB l W.os.reverse q
 done : ∀ p, W.beh.getD p 0 ≠ 0 → p < W.beh.getD p 0 ∧ balS l p (W.beh.getD p 0) = 0 ∧ ∀ k, p < k → k < W.beh.getD p 0 → 1 ≤ balS l p k
theorem wb_done {l : List Nod} {beh : List Nat} {k v : Nat} (hk : k < beh.length) (I : ∀ p, beh.getD p 0 ≠ 0 → p < beh.getD p 0 ∧ balS l p (beh.getD p 0) = 0 ∧ ∀ j, p < j → j < beh.getD p 0 → 1 ≤ balS l p j)
  (h : k < v ∧ balS l k v = 0 ∧ ∀ j, k < j → j < v → 1 ≤ balS l k j) : ∀ p, (beh.set k v).getD p 0 ≠ 0 → p < (beh.set k v).getD p 0 ∧ balS l p ((beh.set k v).getD p 0) = 0 ∧ ∀ j, p < j → j < (beh.set k v).getD p 0 → 1 ≤ balS l p j := by
 intro p hp
 by_cases e : p = k
 ·subst e
  rw [getD_here hk]; exact h
 rw [getD_set e] at hp ⊢
 exact I p hp
theorem balN_end {n : Nod} (h : n.kind = 6) : balN n = -1 := by unfold balN; rw [if_pos h]
theorem balN_open {n : Nod} (h : enters n.kind = true) : balN n = 1 := by
 unfold balN
 rw [if_neg (enters_no h).1, if_pos h]
theorem balN_none {n : Nod} (h : enters n.kind = false) (h6 : n.kind ≠ 6) : balN n = 0 := by
 unfold balN
 rw [if_neg h6, h]; rfl
theorem wb_step {l : List Nod} {at_ : Nat} {W W' : Wk} (h : stepW l at_ W = some W') (hl : at_ < l.length) (I : WB l W at_) : WB l W' (at_ + 1) := by
 unfold stepW at h
 by_cases h6 : (nth l at_).kind = 6
 ·simp only [h6, decide_true, cond_true] at h
  unfold leaveW at h
  split at h
  ·cases h
  rename_i p hp
  cases hb : (inDiscB l W.os && !decide (p.2 = 2)) with
  | true => rw [hb] at h; cases h
  | false =>
   rw [hb] at h
   simp only [cond_false, Option.some.injEq] at h
   subst h
   obtain ⟨r, hos⟩ := os_snoc hp
   have ho := I.op
   rw [hos, List.reverse_append] at ho
   obtain ⟨q1, q2, q3, q4⟩ : p.1 < at_ ∧ (∀ k, p.1 < k → k ≤ at_ → 1 ≤ balS l p.1 k) ∧ balS l p.1 at_ = 1 ∧ OB l r.reverse p.1 := ho
   have hdl : W.os.dropLast = r := by rw [hos, List.dropLast_concat]
   have h0 : balS l p.1 (at_ + 1) = 0 := by rw [balS_snoc (Nat.le_of_lt q1) hl, q3, balN_end h6]; rfl
   have h1 : ∀ k, p.1 < k → k < at_ + 1 → 1 ≤ balS l p.1 k := fun k hk hk2 => q2 k hk (by omega)
   rw [hdl]
   exact ⟨by simpa using I.len, q4.item (by omega) h0 h1, wb_done (by rw [I.len]; omega) I.done ⟨by omega, h0, h1⟩⟩
 simp only [h6, decide_false, cond_false] at h
 by_cases h11 : (nth l at_).kind = 11
 ·simp only [h11, decide_true, cond_true] at h
  unfold partW at h
  split at h
  ·cases h
  rename_i p hp
  cases hb : (inDiscB l W.os && decide (p.2 + 1 ≤ 2)) with
  | false => rw [hb] at h; cases h
  | true =>
   rw [hb] at h
   simp only [cond_true, Option.some.injEq] at h
   subst h
   obtain ⟨r, hos⟩ := os_snoc hp
   have ho := I.op
   rw [hos, List.reverse_append] at ho
   obtain ⟨q1, q2, q3, q4⟩ : p.1 < at_ ∧ (∀ k, p.1 < k → k ≤ at_ → 1 ≤ balS l p.1 k) ∧ balS l p.1 at_ = 1 ∧ OB l r.reverse p.1 := ho
   have hdl : W.os.dropLast = r := by rw [hos, List.dropLast_concat]
   have h0 : balS l p.1 (at_ + 1) = 1 := by rw [balS_snoc (Nat.le_of_lt q1) hl, q3, balN_none (by rw [h11]; rfl) h6]; rfl
   rw [hdl]
   refine ⟨I.len, ?_, I.done⟩
   rw [List.reverse_append]
   refine ⟨by show p.1 < at_ + 1; omega, fun k hk hk2 => ?_, h0, q4⟩
   rcases Nat.lt_or_ge k (at_ + 1) with h2 | h2
   ·exact q2 k hk (by omega)
   have : k = at_ + 1 := by omega
   subst this
   show 1 ≤ balS l p.1 (at_ + 1)
   omega
 simp only [h11, decide_false, cond_false] at h
 cases hb : (!inDiscB l W.os || brokenB (nth l at_)) with
 | false => rw [hb] at h; cases h
 | true =>
  rw [hb, cond_true, Option.some.injEq] at h
  subst h
  cases hen : enters (nth l at_).kind with
  | true =>
   simp only [cond_true]
   have h0 : balS l at_ (at_ + 1) = 1 := by rw [balS_snoc (Nat.le_refl _) hl, balS_same, balN_open hen]; rfl
   refine ⟨I.len, ?_, I.done⟩
   rw [List.reverse_append]
   refine ⟨by show at_ < at_ + 1; omega, fun k hk hk2 => ?_, h0, I.op⟩
   have : k = at_ + 1 := by have : at_ < k := hk; omega
   subst this
   show 1 ≤ balS l at_ (at_ + 1)
   omega
  | false =>
   simp only [cond_false]
   have h0 : balS l at_ (at_ + 1) = 0 := by rw [balS_snoc (Nat.le_refl _) hl, balS_same, balN_none hen h6]; rfl
   have h1 : ∀ k, at_ < k → k < at_ + 1 → 1 ≤ balS l at_ k := fun k _ _ => by omega
   exact ⟨by simpa using I.len, I.op.item (by omega) h0 h1, wb_done (by rw [I.len]; omega) I.done ⟨by omega, h0, h1⟩⟩
theorem wb_walk {l : List Nod} : ∀ {n at_ : Nat} {W W' : Wk}, walkW l n at_ W = some W' → at_ + n ≤ l.length → WB l W at_ → WB l W' (at_ + n)
 | 0, at_, W, W', h, _, I => by
  simp only [walkW, Option.some.injEq] at h
  subst h; exact I
 | n + 1, at_, W, W', h, hl, I => by
  unfold walkW at h
  cases hr : rightB (nth l at_) with
  | false => rw [hr] at h; cases h
  | true =>
   rw [hr, cond_true] at h
   split at h
   ·rename_i W1 h1
    have := wb_walk h (by omega) (wb_step h1 (by omega) I)
    rwa [show at_ + 1 + n = at_ + (n + 1) by omega] at this
   cases h
theorem Good.bal {l : List Nod} {W : Wk} (h : Good l W) : ∀ p, W.beh.getD p 0 ≠ 0 → p < W.beh.getD p 0 ∧ balS l p (W.beh.getD p 0) = 0 ∧ ∀ k, p < k → k < W.beh.getD p 0 → 1 ≤ balS l p k :=
 (wb_walk h.walk (by omega) ⟨by simp [walk0], trivial, fun p hp => absurd (zeros_getD _ p) hp⟩).done
/-! ### the walk -/
structure EX (l : List Nod) (p e : Nat) where
 i : Nat
 n : Nat
 le : p ≤ i
 lt : i < e
 hn : balS l p i = (n : Int)
structure Itm (l : List Nod) (p e : Nat) : Prop where
 lt : p < e
 le : e ≤ l.length
 zero : balS l p e = 0
 pos : ∀ k, p < k → k < e → 1 ≤ balS l p k
theorem Good.itm {l : List Nod} {W : Wk} (h : Good l W) {p e : Nat} (he : W.beh.getD p 0 = e) (h0 : e ≠ 0) : Itm l p e := by
 subst he
 obtain ⟨h1, h2, h3⟩ := h.bal p h0
 exact ⟨h1, (h.items p h0).le, h2, h3⟩
section
variable {l : List Nod} {p e : Nat}
theorem EX.small (x : EX l p e) (I : Itm l p e) (hl : l.length ≤ 2000) : x.n ≤ 2000 := by
 have h1 := x.hn
 have h2 := x.lt
 have h3 := I.le
 have key : ∀ m, p + m ≤ l.length → balS l p (p + m) ≤ m := by
  intro m
  induction m with
  | zero => intro _; rw [Nat.add_zero, balS_same]; simp
  | succ m ih =>
   intro hm
   rw [← Nat.add_assoc, balS_snoc (by omega) (by omega)]
   have := ih (by omega)
   have hb : balN (nth l (p + m)) ≤ 1 := by unfold balN; split; omega; split <;> omega
   omega
 have h4 := key (x.i - p) (by have := x.le; omega)
 rw [show p + (x.i - p) = x.i by have := x.le; omega] at h4
 omega
def EX.up (x : EX l p e) (I : Itm l p e) (h : enters (nth l x.i).kind = true) : EX l p e :=
 ⟨x.i + 1, x.n + 1, by have := x.le; omega, by
  have h1 := x.lt
  rcases Nat.lt_or_ge (x.i + 1) e with h2 | h2
  ·exact h2
  exfalso
  have h3 : e = x.i + 1 := by omega
  have h4 := I.zero
  rw [h3, balS_snoc x.le (by have := I.le; omega), x.hn, balN_open h] at h4
  omega, by rw [balS_snoc x.le (by have := I.le; have := x.lt; omega), x.hn, balN_open h]; simp⟩
def EX.same (x : EX l p e) (I : Itm l p e) (hp : enters (nth l p).kind = true) (h : enters (nth l x.i).kind = false) (h6 : (nth l x.i).kind ≠ 6) : EX l p e :=
 ⟨x.i + 1, x.n, by have := x.le; omega, by
  have h1 := x.lt
  rcases Nat.lt_or_ge (x.i + 1) e with h2 | h2
  ·exact h2
  exfalso
  have h3 : e = x.i + 1 := by omega
  have h4 := I.zero
  rw [h3, balS_snoc x.le (by have := I.le; omega), balN_none h h6] at h4
  rcases Nat.lt_or_ge p x.i with h5 | h5
  ·have := I.pos x.i h5 (by omega)
   omega
  have : x.i = p := by have := x.le; omega
  rw [this, hp] at h
  exact Bool.noConfusion h, by rw [balS_snoc x.le (by have := I.le; have := x.lt; omega), x.hn, balN_none h h6]; simp⟩
theorem EX.one (x : EX l p e) (I : Itm l p e) (hp : enters (nth l p).kind = true) (h6 : (nth l x.i).kind = 6) : 1 ≤ x.n := by
 have h1 := x.hn
 rcases Nat.lt_or_ge p x.i with h5 | h5
 ·have := I.pos x.i h5 x.lt
  omega
 have : x.i = p := by have := x.le; omega
 rw [this] at h6
 exact absurd h6 (enters_no hp).1
theorem EX.end_ (x : EX l p e) (I : Itm l p e) (h6 : (nth l x.i).kind = 6) (h1 : x.n = 1) : x.i + 1 = e := by
 have h0 : balS l p (x.i + 1) = 0 := by
  rw [balS_snoc x.le (by have := I.le; have := x.lt; omega), x.hn, balN_end h6, h1]; rfl
 have h2 := x.lt
 rcases Nat.lt_or_ge (x.i + 1) e with h3 | h3
 ·have := I.pos (x.i + 1) (by have := x.le; omega) h3
  omega
 omega
def EX.down (x : EX l p e) (I : Itm l p e) (h6 : (nth l x.i).kind = 6) (h1 : 1 < x.n) : EX l p e :=
 ⟨x.i + 1, x.n - 1, by have := x.le; omega, by
  have h2 := x.lt
  rcases Nat.lt_or_ge (x.i + 1) e with h3 | h3
  ·exact h3
  exfalso
  have h3 : e = x.i + 1 := by omega
  have h4 := I.zero
  rw [h3, balS_snoc x.le (by have := I.le; omega), x.hn, balN_end h6] at h4
  omega, by rw [balS_snoc x.le (by have := I.le; have := x.lt; omega), x.hn, balN_end h6]; omega⟩
end
end Go.Proofs.Ytcncfmjfgdbfeab
namespace Go.Proofs.Ytcncfmjfgdbfeab
set_option maxRecDepth 100000
set_option maxHeartbeats 4000000
open Go.RowKit
theorem rsmall_any (n : Nod) (w : World) :
  Calls Try.prog 71 #[nodV n] w fun e w' => e = .returned (.bool (brokenB n)) ∧ Kept w w' := by
 refine g_enter (args := [nodV n]) [] [] Try.func71 rfl Try.ntmps71 kL (sat0 w) ?_
 refine g0 ?_
 refine gN fun b0 hb0 => ?_
 refine gA ([0]) 0 ?_
 refine g_dec 5 (n.kind == 1) kR (fun h5 => ?_) (fun h5 => ?_)
 ·refine gA [] 2 ?_
  refine gR (Value.bool true) fun w' hs => ?_
  exact ⟨ret_bool (by clear hs; (try simp at *); simp [brokenB, *]), hs.kk⟩
 refine gA [] 1 ?_
 refine g_dec 5 (n.kind == 2) kR (fun h5 => ?_) (fun h5 => ?_)
 ·refine gA [] 2 ?_
  refine gR (Value.bool true) fun w' hs => ?_
  exact ⟨ret_bool (by clear hs; (try simp at *); simp [brokenB, *]), hs.kk⟩
 refine gA [] 1 ?_
 refine g_dec 5 (n.kind == 8) kR (fun h5 => ?_) (fun h5 => ?_)
 ·refine gA [] 2 ?_
  refine gR (Value.bool true) fun w' hs => ?_
  exact ⟨ret_bool (by clear hs; (try simp at *); simp [brokenB, *]), hs.kk⟩
 refine gA [] 1 ?_
 refine g_dec 5 (n.kind == 3) kR (fun h5 => ?_) (fun h5 => ?_)
 ·refine gA [] 2 ?_
  refine gR (Value.bool true) fun w' hs => ?_
  exact ⟨ret_bool (by clear hs; (try simp at *); simp [brokenB, *]), hs.kk⟩
 refine gA [] 1 ?_
 refine g_dec 5 (n.kind == 4) kR (fun h5 => ?_) (fun h5 => ?_)
 ·refine gA [] 2 ?_
  refine gR (Value.bool true) fun w' hs => ?_
  exact ⟨ret_bool (by clear hs; (try simp at *); simp [brokenB, *]), hs.kk⟩
 refine gA [] 1 ?_
 refine g_dec 5 (n.kind == 5) kR (fun h5 => ?_) (fun h5 => ?_)
 ·refine gA [] 1 ?_
  refine gR (Value.bool true) fun w' hs => ?_
  exact ⟨ret_bool (by clear hs; (try simp at *); simp [brokenB, *]), hs.kk⟩
 refine gA [] 1 ?_
 refine gR (Value.bool false) fun w' hs => ?_
 exact ⟨ret_bool (by clear hs; (try simp at *); simp [brokenB, *]), hs.kk⟩
theorem ropens_any (n : Nod) (w : World) :
  Calls Try.prog 72 #[nodV n] w fun e w' => e = .returned (.bool (enters n.kind)) ∧ Kept w w' := by
 refine g_enter (args := [nodV n]) [] [] Try.func72 rfl Try.ntmps72 kL (sat0 w) ?_
 refine g0 ?_
 refine gN fun b0 hb0 => ?_
 refine gA ([0]) 0 ?_
 refine g_dec 6 (n.kind == 4) kR (fun h6 => ?_) (fun h6 => ?_)
 ·refine gA [] 12 ?_
  refine gR (Value.bool true) fun w' hs => ?_
  exact ⟨ret_bool (by clear hs; (try simp at *); simp [enters, *]), hs.kk⟩
 refine gA ([0]) 3 ?_
 refine g_dec 11 (n.kind == 5) kR (fun h11 => ?_) (fun h11 => ?_)
 ·refine gA [] 9 ?_
  refine gR (Value.bool true) fun w' hs => ?_
  exact ⟨ret_bool (by clear hs; (try simp at *); simp [enters, *]), hs.kk⟩
 refine gA ([0]) 3 ?_
 refine g_dec 16 (n.kind == 10) kR (fun h16 => ?_) (fun h16 => ?_)
 ·refine gA [] 6 ?_
  refine gR (Value.bool true) fun w' hs => ?_
  exact ⟨ret_bool (by clear hs; (try simp at *); simp [enters, *]), hs.kk⟩
 refine gA ([0]) 3 ?_
 refine g_dec 21 (n.kind == 13) kR (fun h21 => ?_) (fun h21 => ?_)
 ·refine gA [] 3 ?_
  refine gR (Value.bool true) fun w' hs => ?_
  exact ⟨ret_bool (by clear hs; (try simp at *); simp [enters, *]), hs.kk⟩
 refine gA ([0]) 3 ?_
 refine gR (Value.bool (n.kind == 17)) fun w' hs => ?_
 exact ⟨ret_bool (by clear hs; (try simp at *); rw [Bool.eq_iff_iff]; simp [enters, *]), hs.kk⟩
end Go.Proofs.Ytcncfmjfgdbfeab
