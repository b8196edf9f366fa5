/- NodCo NodTh. -/
import Derived.Test.YtcncfmjfgdbfeaaM36
import Derived.Test.YtcncfmjfgdbfeaaM35
import Derived.Test.YtcncfmjfgdbfeaaNodEx
import Derived.Test.YtcncfmjfgdbfeaaM32
namespace Go.Proofs.Ytcncfmjfgdbfeaa
open Go.RowKit
theorem intLoad {ss : List Nat} {b k j n : Nat} {w0 w : World} {bs : List Nat} {hp : List HE} (hw : Sat w0 bs hp w) (hj : hp[j]? = some (.row b 0 1 n (intR ss))) (hk : k < n) :
  (loadSem 3 (.pointer (some ⟨b, 0 + k * 1, none⟩))).run Try.prog w = .ok (.value (.int .i64 ((ss.getD k 0 : Nat) : Int))) w :=
 Sat.rowload1 (T := 3) (i := j) (b := b) (off := 0) (sz := 1) (n := n) (f := intR ss) (j := 0) hw hj hk kR rfl
def maxSem (a b : Value) : Sem Next := builtin .max #[3, 3] 3 #[false, false] #[a, b]
theorem max_run {P : Program} (x y : Int) (w : World) : (maxSem (.int .i64 x) (.int .i64 y)).run P w = .ok (.value (.int .i64 (mx x y))) w := by
 simp [maxSem, builtin, Builtin.max_, Builtin.max2, mx]
theorem mx_zero {a : Int} (h : 0 ≤ a) : mx a 0 = a := by unfold mx; rw [if_neg (by omega)]
theorem mx_pos {a b : Int} (h : 0 ≤ a) : 0 ≤ mx a b := by unfold mx; split <;> omega
theorem kd3 {n : Nod} (h : (n.kind == 3) = true) : acrossV n = n.w ∧ hangingV n = n.d := by
 have h3 : n.kind = 3 := by simpa using h
 simp [acrossV, hangingV, h3]
theorem kd4 {n : Nod} (h : (n.kind == 4) = true) : acrossV n = wr n.w n.shift ∧ hangingV n = n.d := by
 have h3 : n.kind = 4 := by simpa using h
 simp [acrossV, hangingV, h3]
theorem kd5 {n : Nod} (h : (n.kind == 5) = true) : acrossV n = wr n.w n.shift ∧ hangingV n = n.d := by
 have h3 : n.kind = 5 := by simpa using h
 simp [acrossV, hangingV, h3]
theorem kd0 {n : Nod} (h3 : (n.kind == 3) = false) (h4 : (n.kind == 4) = false) (h5 : (n.kind == 5) = false) : acrossV n = 0 ∧ hangingV n = 0 := by
 have h3 : n.kind ≠ 3 := by simpa using h3
 have h4 : n.kind ≠ 4 := by simpa using h4
 have h5 : n.kind ≠ 5 := by simpa using h5
 simp [acrossV, hangingV, h3, h4, h5]
structure COX (l : List Nod) (ss : List Nat) (f g : Int → Nod → Int) (A B : Int) where
 i : Nat
 a : Int
 b : Int
 pos : 0 ≤ a ∧ i ≤ ss.length
 isA : (ss.drop i).foldl (fun x p => f x (nth l p)) a = A
 isB : (ss.drop i).foldl (fun x p => g x (nth l p)) b = B
theorem drop_cons {ss : List Nat} {i : Nat} (h : i < ss.length) : ss.drop i = ss.getD i 0 :: ss.drop (i + 1) := by
 rw [List.drop_eq_getElem_cons h]
 congr 1
 simp [List.getD, h]
section
variable {l : List Nod} {ss : List Nat} {f g : Int → Nod → Int} {A B : Int}
def COX.next (x : COX l ss f g A B) (h : x.i < ss.length) (a b : Int) (h0 : 0 ≤ a) (ha : f x.a (nth l (ss.getD x.i 0)) = a) (hb : g x.b (nth l (ss.getD x.i 0)) = b) : COX l ss f g A B :=
 ⟨x.i + 1, a, b, ⟨h0, h⟩, by
  have := x.isA
  rw [drop_cons h, List.foldl_cons, ha] at this
  exact this, by
  have := x.isB
  rw [drop_cons h, List.foldl_cons, hb] at this
  exact this⟩
theorem COX.done (x : COX l ss f g A B) (h : ¬ x.i < ss.length) : x.a = A ∧ x.b = B := by
 have h1 := x.isA
 have h2 := x.isB
 rw [List.drop_eq_nil_of_le (by omega)] at h1 h2
 exact ⟨h1, h2⟩
end
theorem two_ret {a b A B : Int} (h : a = A ∧ b = B) : Ending.returned (.tuple #[.int .i64 a, .int .i64 b]) = Ending.returned (.tuple #[.int .i64 A, .int .i64 B]) := by rw [h.1, h.2]
theorem starts_mem {l : List Nod} {W : Wk} (hG : Good l W) {k : Nat} (h : k < (startsN l W).length) : (startsN l W).getD k 0 < l.length := by
 have hch := good_ch hG.walk hG.os
 have := items_mem (f := l.length) hch.1 (k := (startsN l W).getD k 0) (by
  show (startsN l W).getD k 0 ∈ startsN l W
  simp [List.getD, h])
 have h2 := hch.2
 omega
set_option maxRecDepth 100000 in
set_option maxHeartbeats 40000000 in
theorem rcolumn_any (l : List Nod) (bl ol cl : Nat) (W : Wk) (hG : Good l W) (A B : Int) (hA : (startsN l W).foldl (fun x p => mxS acrossV x (nth l p)) 0 = A) (hB : (startsN l W).foldl (fun x p => lastS hangingV x (nth l p)) 0 = B) (w : World) (hq : Sat w [] [.row bl ol 19 l.length (rowOf l)] w) :
  Calls Try.prog 91 #[.slice (some ⟨bl, ol, none⟩) l.length cl] w fun e w' => e = .returned (.tuple #[.int .i64 A, .int .i64 B]) ∧ Kept w w' := by
 have hgl := hG.le
 refine Exists.elim (show ∃ n, (startsN l W).length = n from ⟨_, rfl⟩) fun n hn => ?_
 have hnl : n ≤ l.length := by rw [← hn]; exact items_le
 have hbe : ∀ k, k < n → (startsN l W).getD k 0 < l.length := fun k hk => starts_mem hG (by omega)
 refine Exists.elim (show ∃ ss, startsN l W = ss from ⟨_, rfl⟩) fun ss hss => ?_
 rw [hss] at hA hB hn hbe
 refine g_enter (args := [.slice (some ⟨bl, ol, none⟩) l.length cl]) [] [.row bl ol 19 l.length (rowOf l)] Try.func91 rfl Try.ntmps91 kL hq ?_
 refine g0 ?_
 refine g_call (X := NewI w ss) _ _ ?_ (fun q => .slice q.A n q.c) (fun q => [.row bl ol 19 l.length (rowOf l)] ++ [.row q.b 0 1 n (intR ss)])
  (fun w1 hs => (hss ▸ rstarts_row l bl ol cl W hG hgl n (hss ▸ hn) w1 (hs.read [0] [.row bl ol 19 l.length (rowOf l)] kR) : Calls Try.prog 131 #[.slice (some ⟨bl, ol, none⟩) l.length cl] w1 fun e w' => ∃ q : NewI w1 ss, e = .returned (.slice q.A n q.c) ∧ Sat w1 [] [.row q.b 0 1 n (intR ss)] w').mono fun e w2 ⟨q, h1, h2⟩ => ⟨⟨q.A, q.c, q.b, q.ax, fun h => Nat.le_trans hs.kept.size (q.new h)⟩, h1, (hs.at kR).moreRow h2 (fun h => q.new (hn ▸ h))⟩) (fun q => ?_)
 ·kernel_rfl
 refine g0 ?_
 refine g_loopN (X := COX l ss (mxS acrossV) (lastS hangingV) A B) (fun x => [(4, .int .i64 x.a), (5, .int .i64 x.b), (7, .int .i64 (x.i : Int))]) (fun x => [.row bl ol 19 l.length (rowOf l), .row q.b 0 1 n (intR ss)]) (fun x => n - x.i) ⟨0, 0, 0, ⟨Int.le_refl _, Nat.zero_le _⟩, hA, hB⟩ kR (by unfold Known; kernel_rfl) kR fun x N hN => ?_
 refine g0 ?_
 refine g_dec 14 (decide ((x.i : Int) < (n : Int))) kR (fun hd => ?_) (fun hd => ?_)
 ·have hx : x.i < n := Int.ofNat_lt.1 (of_decide_eq_true hd)
  have hxs : x.i < ss.length := hn.symm ▸ hx
  have hp : ss.getD x.i 0 < l.length := hbe x.i hx
  have hqa : q.A = some ⟨q.b, 0, none⟩ := q.ax.resolve_left (by omega)
  have hq6 : Value.slice q.A n q.c = .slice (some ⟨q.b, 0, none⟩) n q.c := by rw [hqa]
  have hms : n - (x.i + 1) < n - x.i := Nat.sub_lt_sub_left hx (Nat.lt_succ_self _)
  refine gU 20 [] 1 ?_
  refine g_rw 18 (.slice q.A n q.c) (.slice (some ⟨q.b, 0, none⟩) n q.c) kR hq6 ?_
  refine g_val _ _ ?_ (fun w _hs => idx_run (P := Try.prog) (T := 25) (E := 3) (b := q.b) (o := 0) (n := n) (c := q.c) (k := x.i) (sz := 1) (kk := .i64) w kR kR hx) ?_
  ·kernel_rfl
  refine g_val _ _ ?_ (fun w _hs => intLoad (ss := ss) (b := q.b) (k := x.i) (n := n) (j := 1) _hs kR hx) ?_
  ·kernel_rfl
  refine g_val _ _ ?_ (fun w _hs => idx_run (P := Try.prog) (T := 59) (E := 63) (b := bl) (o := ol) (n := l.length) (c := cl) (k := ss.getD x.i 0) (sz := 19) (kk := .i64) w kR kR hp) ?_
  ·kernel_rfl
  refine g_val _ _ ?_ (fun w _hs => nodeLoad (l := l) (bl := bl) (ol := ol) (k := ss.getD x.i 0) (j := 0) _hs kR hp) ?_
  ·kernel_rfl
  refine gN fun b2 hb2 => ?_
  refine gA (List.replicate 20 2) 0 ?_
  refine g_dec 26 ((nth l (ss.getD x.i 0)).kind == 3) kR (fun h26 => ?_) (fun h26 => ?_)
  ·refine gU 31 ([2]) 1 ?_
   refine g_val _ _ ?_ (fun w _hs => max_run (P := Try.prog) x.a (nth l (ss.getD x.i 0)).w w) ?_
   ·kernel_rfl
   refine gU 16 ([2]) 0 ?_
   refine g_val _ _ ?_ (fun w _hs => nat_succ (P := Try.prog) (t := 3) (x := .tmp 15) (y := .const (.int .i64 1)) (m := x.i) (w := w) kR (by omega)) ?_
   ·kernel_rfl
   refine g0 ?_
   refine g_take 2 ?_
   refine g_hook (hN (x.next hxs (mx x.a (nth l (ss.getD x.i 0)).w) (nth l (ss.getD x.i 0)).d (mx_pos x.pos.1) (by show mx x.a _ = _; rw [(kd3 h26).1]) (kd3 h26).2) hms) kR kR kR (by unfold Known; kernel_rfl) kR kR
  refine gA [] 1 ?_
  refine g_dec 34 ((nth l (ss.getD x.i 0)).kind == 4) kR (fun h34 => ?_) (fun h34 => ?_)
  ·refine gU 43 ([2, 2]) 2 ?_
   refine g_val _ _ ?_ (fun w _hs => max_run (P := Try.prog) x.a (wr (nth l (ss.getD x.i 0)).w (nth l (ss.getD x.i 0)).shift) w) ?_
   ·kernel_rfl
   refine gU 16 ([2]) 0 ?_
   refine g_val _ _ ?_ (fun w _hs => nat_succ (P := Try.prog) (t := 3) (x := .tmp 15) (y := .const (.int .i64 1)) (m := x.i) (w := w) kR (by omega)) ?_
   ·kernel_rfl
   refine g0 ?_
   refine g_take 2 ?_
   refine g_hook (hN (x.next hxs (mx x.a (wr (nth l (ss.getD x.i 0)).w (nth l (ss.getD x.i 0)).shift)) (nth l (ss.getD x.i 0)).d (mx_pos x.pos.1) (by show mx x.a _ = _; rw [(kd4 h34).1]) (kd4 h34).2) hms) kR kR kR (by unfold Known; kernel_rfl) kR kR
  refine gA [] 1 ?_
  refine g_dec 34 ((nth l (ss.getD x.i 0)).kind == 5) kR (fun h34 => ?_) (fun h34 => ?_)
  ·refine gU 43 ([2, 2]) 1 ?_
   refine g_val _ _ ?_ (fun w _hs => max_run (P := Try.prog) x.a (wr (nth l (ss.getD x.i 0)).w (nth l (ss.getD x.i 0)).shift) w) ?_
   ·kernel_rfl
   refine gU 16 ([2]) 0 ?_
   refine g_val _ _ ?_ (fun w _hs => nat_succ (P := Try.prog) (t := 3) (x := .tmp 15) (y := .const (.int .i64 1)) (m := x.i) (w := w) kR (by omega)) ?_
   ·kernel_rfl
   refine g0 ?_
   refine g_take 2 ?_
   refine g_hook (hN (x.next hxs (mx x.a (wr (nth l (ss.getD x.i 0)).w (nth l (ss.getD x.i 0)).shift)) (nth l (ss.getD x.i 0)).d (mx_pos x.pos.1) (by show mx x.a _ = _; rw [(kd5 h34).1]) (kd5 h34).2) hms) kR kR kR (by unfold Known; kernel_rfl) kR kR
  refine gU 16 [] 1 ?_
  refine g_val _ _ ?_ (fun w _hs => nat_succ (P := Try.prog) (t := 3) (x := .tmp 15) (y := .const (.int .i64 1)) (m := x.i) (w := w) kR (by omega)) ?_
  ·kernel_rfl
  refine g0 ?_
  refine g_take 2 ?_
  refine g_hook (hN (x.next hxs x.a 0 x.pos.1 (by show mx x.a _ = _; rw [(kd0 h26 (by assumption) h34).1]; exact mx_zero x.pos.1) (kd0 h26 (by assumption) h34).2) hms) kR kR kR (by unfold Known; kernel_rfl) kR kR
 have hx : ¬ x.i < ss.length := fun hx => of_decide_eq_false hd (Int.ofNat_lt.2 (hn ▸ hx))
 refine gA [] 1 ?_
 refine gR (Value.tuple (Array.mk [Value.int IntKind.i64 x.a, Value.int IntKind.i64 x.b])) fun w' hs => ?_
 exact ⟨two_ret (x.done hx), hs.kk⟩
end Go.Proofs.Ytcncfmjfgdbfeaa
namespace Go.Proofs.Ytcncfmjfgdbfeaa
open Go.RowKit
/-! ### what is no item's beginning is an End or a Sep -/
def WZ (l : List Nod) (W : Wk) (q : Nat) : Prop := W.beh.length = l.length ∧ ∀ j, j < q → (nth l j).kind ≠ 6 → (nth l j).kind ≠ 11 → W.beh.getD j 0 ≠ 0 ∨ ∃ x ∈ W.os, x.1 = j
theorem getD_set_pos {beh : List Nat} {k v j : Nat} (hv : v ≠ 0) (h : beh.getD j 0 ≠ 0) : (beh.set k v).getD j 0 ≠ 0 := by
 by_cases e : j = k
 ·subst e
  have hl : j < beh.length := by
   rcases Nat.lt_or_ge j beh.length with q | q
   ·exact q
   simp [List.getD, List.getElem?_eq_none q] at h
  rw [getD_here hl]; exact hv
 rw [getD_set e]; exact h
theorem wz_step {l : List Nod} {at_ : Nat} {W W' : Wk} (h : stepW l at_ W = some W') (hl : at_ < l.length) (hp : ∀ p ∈ W.os, p.1 < l.length) (I : WZ l W at_) : WZ l W' (at_ + 1) := by
 unfold stepW at h
 by_cases h6 : (nth l at_).kind = 6
 ·simp only [h6, decide_true, cond_true] at h
  unfold leaveW at h
  split at h
  ·cases h
  rename_i p hp2
  cases hb : (inDiscB l W.os && !decide (p.2 = 2)) with
  | true => rw [hb] at h; cases h
  | false =>
   rw [hb] at h
   simp only [cond_false, Option.some.injEq] at h
   subst h
   obtain ⟨r, hos⟩ := os_snoc hp2
   have hpl := hp p (by rw [hos]; simp)
   refine ⟨by simpa using I.1, fun j hj h1 h2 => ?_⟩
   have hjl : j < at_ := by
    rcases Nat.lt_or_ge j at_ with q | q
    ·exact q
    have : j = at_ := by omega
    rw [this] at h1; exact absurd h6 h1
   rcases I.2 j hjl h1 h2 with q | ⟨x, hx, hxj⟩
   ·exact .inl (getD_set_pos (by omega) q)
   rw [hos] at hx
   rcases List.mem_append.1 hx with hx | hx
   ·refine .inr ⟨x, ?_, hxj⟩
    simp only [hos, List.dropLast_concat]; exact hx
   rw [List.mem_singleton.1 hx] at hxj
   subst hxj
   left
   rw [getD_here (by rw [I.1]; exact hpl)]; omega
 simp only [h6, decide_false, cond_false] at h
 by_cases h11 : (nth l at_).kind = 11
 ·simp only [h11, decide_true, cond_true] at h
  unfold partW at h
  split at h
  ·cases h
  rename_i p hp2
  cases hb : (inDiscB l W.os && decide (p.2 + 1 ≤ 2)) with
  | false => rw [hb] at h; cases h
  | true =>
   rw [hb] at h
   simp only [cond_true, Option.some.injEq] at h
   subst h
   obtain ⟨r, hos⟩ := os_snoc hp2
   refine ⟨I.1, fun j hj h1 h2 => ?_⟩
   have hjl : j < at_ := by
    rcases Nat.lt_or_ge j at_ with q | q
    ·exact q
    have : j = at_ := by omega
    rw [this] at h2; exact absurd h11 h2
   rcases I.2 j hjl h1 h2 with q | ⟨x, hx, hxj⟩
   ·exact .inl q
   rw [hos] at hx
   simp only [hos, List.dropLast_concat]
   rcases List.mem_append.1 hx with hx | hx
   ·exact .inr ⟨x, List.mem_append_left _ hx, hxj⟩
   rw [List.mem_singleton.1 hx] at hxj
   exact .inr ⟨(p.1, p.2 + 1), by simp, hxj⟩
 simp only [h11, decide_false, cond_false] at h
 cases hb : (!inDiscB l W.os || brokenB (nth l at_)) with
 | false => rw [hb] at h; cases h
 | true =>
  rw [hb, cond_true, Option.some.injEq] at h
  subst h
  cases enters (nth l at_).kind with
  | true =>
   simp only [cond_true]
   refine ⟨I.1, fun j hj h1 h2 => ?_⟩
   rcases Nat.lt_or_ge j at_ with q | q
   ·rcases I.2 j q h1 h2 with q | ⟨x, hx, hxj⟩
    ·exact .inl q
    exact .inr ⟨x, List.mem_append_left _ hx, hxj⟩
   exact .inr ⟨(at_, 0), by simp, by show at_ = j; omega⟩
  | false =>
   simp only [cond_false]
   refine ⟨by simpa using I.1, fun j hj h1 h2 => ?_⟩
   rcases Nat.lt_or_ge j at_ with q | q
   ·rcases I.2 j q h1 h2 with q | h3
    ·exact .inl (getD_set_pos (by omega) q)
    exact .inr h3
   left
   have : j = at_ := by omega
   subst this
   rw [getD_here (by rw [I.1]; exact hl)]; omega
theorem wz_walk {l : List Nod} : ∀ {n at_ : Nat} {W W' : Wk}, walkW l n at_ W = some W' → at_ + n ≤ l.length → WI W l.length at_ → WZ l W at_ → WZ l W' (at_ + n)
 | 0, at_, W, W', h, _, _, I => by
  simp only [walkW, Option.some.injEq] at h
  subst h; exact I
 | n + 1, at_, W, W', h, hl, J, I => by
  unfold walkW at h
  cases hr : rightB (nth l at_) with
  | false => rw [hr] at h; cases h
  | true =>
   rw [hr, cond_true] at h
   split at h
   ·rename_i W1 h1
    have := wz_walk h (by omega) (wi_step h1 (by omega) J) (wz_step h1 (by omega) (fun p hp => by have := J.pos p hp; omega) I)
    rwa [show at_ + 1 + n = at_ + (n + 1) by omega] at this
   cases h
theorem Good.begins {l : List Nod} {W : Wk} (h : Good l W) {j : Nat} (hj : j < l.length) (h6 : (nth l j).kind ≠ 6) (h11 : (nth l j).kind ≠ 11) : W.beh.getD j 0 ≠ 0 := by
 have I := wz_walk h.walk (by omega) ⟨by simp [walk0], fun p hp => by simp [walk0] at hp, by simp [walk0], .refl 0⟩ ⟨by simp [walk0], fun j hj => by omega⟩
 have ho : W.os = [] := List.length_eq_zero_iff.1 h.os
 rcases I.2 j (by omega) h6 h11 with q | ⟨x, hx, _⟩
 ·exact q
 rw [ho] at hx; cases hx
theorem Good.ends {l : List Nod} {W : Wk} (h : Good l W) {j : Nat} (hj : j < l.length) (h0 : W.beh.getD j 0 = 0) : (nth l j).kind = 6 ∨ (nth l j).kind = 11 := by
 by_cases h6 : (nth l j).kind = 6
 ·exact .inl h6
 by_cases h11 : (nth l j).kind = 11
 ·exact .inr h11
 exact absurd h0 (h.begins hj h6 h11)
/-! ### chains -/
theorem Good.ch_bal {l : List Nod} {W : Wk} (h : Good l W) {s e : Nat} (hc : Ch W.beh s e) : balS l s e = 0 := by
 induction hc with
 | refl s => exact balS_same
 | step h1 h2 h3 ih =>
  have := h3.le
  rw [balS_cut (Nat.le_of_lt h2) this, ih, (h.bal _ (by omega)).2.1]; rfl
theorem Good.ch_run {l : List Nod} {W : Wk} (h : Good l W) {s e : Nat} (hc : Ch W.beh s e) : ∀ B : List (Bool × Nat), B.length + 40 ≤ 80 → topD B = false → runS (B.length + 40) (seg l s e) B = some B := by
 induction hc with
 | refl s => intro B _ _; rw [seg_same]; rfl
 | @step s e h1 h2 h3 ih =>
  intro B hB ht
  have hle := h3.le
  obtain ⟨k, h4, h5⟩ := (h.items s (by omega)).run
  have hd := h.d
  rw [seg_cut (Nat.le_of_lt h2) hle, run_app (h5 (B.length + 40) B (by omega) fun q => by rw [ht] at q; cases q)]
  exact ih B hB ht
theorem Good.chain {l : List Nod} {W : Wk} (h : Good l W) {s e : Nat} (hc : Ch W.beh s e) (he : e ≤ l.length) : ∃ V, Good (seg l s e) V := by
 have := h.le
 exact good_run (by rw [seg_len he]; omega) (h.ch_run hc [] (by simp) rfl)
/-! ### a Disc -/
theorem Good.three {l : List Nod} {W : Wk} (h : Good l W) {p : Nat} (hp : W.beh.getD p 0 ≠ 0) (h10 : (nth l p).kind = 10) : ∃ s1 s2, Three W.beh p s1 s2 (W.beh.getD p 0 - 1) ∧ p + 1 < W.beh.getD p 0 := by
 obtain ⟨h1, h2, h3⟩ := h.discs p hp
 obtain ⟨h3, h4⟩ := h3 h10
 obtain ⟨_, hlen⟩ := good_ch h.walk h.os
 have h5 := h3.le
 cases h3 with
 | more a1 a2 a3 r =>
  rename_i s1
  cases r with
  | more b1 b2 b3 r =>
   rename_i s2
   cases r with
   | last c1 =>
    have l1 := a1.le
    have l2 := b1.le
    have l3 := c1.le
    exact ⟨s1, s2, ⟨a1, a3, b1, b3, c1, h4, by omega⟩, by omega⟩
theorem Three.sep1 {l : List Nod} {W : Wk} (h : Good l W) {p s1 s2 : Nat} (h10 : (nth l p).kind = 10) (t : Three W.beh p s1 s2 (W.beh.getD p 0 - 1)) : (nth l s1).kind = 11 := by
 have l1 := t.h1.le
 have l2 := t.h2.le
 have l3 := t.h3.le
 have l4 := t.he
 obtain ⟨_, hlen⟩ := good_ch h.walk h.os
 rcases h.ends (by omega) t.z1 with q | q
 ·exfalso
  have h1 := (h.bal p (by omega)).2.2 (s1 + 1) (by omega) (by omega)
  rw [balS_snoc (by omega) (by omega), balS_cut (Nat.le_succ p) l1, balS_snoc (Nat.le_refl p) (by omega), balS_same, h.ch_bal t.h1, balN_end q, balN_open (by rw [h10]; rfl)] at h1
  omega
 exact q
theorem Three.sep2 {l : List Nod} {W : Wk} (h : Good l W) {p s1 s2 : Nat} (h10 : (nth l p).kind = 10) (t : Three W.beh p s1 s2 (W.beh.getD p 0 - 1)) : (nth l s2).kind = 11 := by
 have l1 := t.h1.le
 have l2 := t.h2.le
 have l3 := t.h3.le
 have l4 := t.he
 obtain ⟨_, hlen⟩ := good_ch h.walk h.os
 have hs1 := t.sep1 h h10
 rcases h.ends (by omega) t.z2 with q | q
 ·exfalso
  have h1 := (h.bal p (by omega)).2.2 (s2 + 1) (by omega) (by omega)
  rw [balS_snoc (by omega) (by omega), balS_cut (show p ≤ s1 + 1 by omega) l2, balS_snoc (by omega) (by omega), balS_cut (Nat.le_succ p) l1, balS_snoc (Nat.le_refl p) (by omega), balS_same, h.ch_bal t.h1, h.ch_bal t.h2, balN_end q, balN_none (n := nth l s1) (by rw [hs1]; rfl) (by omega), balN_open (n := nth l p) (by rw [h10]; rfl)] at h1
  omega
 exact q
theorem Three.sep1' {l : List Nod} {W : Wk} (h : Good l W) {p s1 s2 r : Nat} (t : Three W.beh p s1 s2 (r - 1)) (h10 : (nth l p).kind = 10) (hr : W.beh.getD p 0 = r) : (nth l s1).kind = 11 := by
 subst hr
 exact t.sep1 h h10
theorem Three.sep2' {l : List Nod} {W : Wk} (h : Good l W) {p s1 s2 r : Nat} (t : Three W.beh p s1 s2 (r - 1)) (h10 : (nth l p).kind = 10) (hr : W.beh.getD p 0 = r) : (nth l s2).kind = 11 := by
 subst hr
 exact t.sep2 h h10
theorem Good.ch_small {l : List Nod} {W : Wk} (h : Good l W) {D : Nat} {B S : List (Bool × Nat)} {k : Nat} (hD : B.length + 1 + 40 ≤ D) {s e : Nat} (hc : Ch W.beh s e) {r : Nat} (hr : e ≤ r) (hrun : runS D (seg l s r) ((true, k) :: B) = some S) :
  (∀ f, ∀ q ∈ itemsF W.beh e f s, brokenB (nth l q) = true) ∧ runS D (seg l e r) ((true, k) :: B) = some S := by
 induction hc with
 | refl s => exact ⟨fun f q hq => (by rw [items_end (Nat.lt_irrefl s)] at hq; cases hq), hrun⟩
 | @step s e h1 h2 h3 ih =>
  have hle := h3.le
  obtain ⟨_, hlen⟩ := good_ch h.walk h.os
  have hI := h.items s (by omega)
  have hb : brokenB (nth l s) = true := by
   rw [seg_cons (by omega) (by omega)] at hrun
   simp only [runS] at hrun
   split at hrun
   ·rename_i S1 hS
    unfold stepS at hS
    simp only [hI.right, hI.kind.1, hI.kind.2, Bool.not_true, decide_false, cond_false] at hS
    cases hx : (decide (((true, k) :: B).length + 1 ≤ D) && (!topD ((true, k) :: B) || brokenB (nth l s))) with
    | false => rw [hx] at hS; cases hS
    | true =>
     rw [Bool.and_eq_true] at hx
     simpa [topD] using hx.2
   cases hrun
  obtain ⟨m, h4, h5⟩ := hI.run
  have hd := h.d
  rw [seg_cut (Nat.le_of_lt h2) (show W.beh.getD s 0 ≤ r by omega), run_app (h5 D ((true, k) :: B) (by simp only [List.length_cons]; omega) fun _ => hb)] at hrun
  obtain ⟨q1, q2⟩ := ih hr hrun
  refine ⟨fun f q hq => ?_, q2⟩
  cases f with
  | zero => cases hq
  | succ f =>
   simp only [itemsF] at hq
   rw [if_pos (by omega)] at hq
   rcases List.mem_cons.1 hq with rfl | hq
   ·exact hb
   exact q1 f q hq
theorem run_sep {D : Nat} {n : Nod} {k : Nat} {B S : List (Bool × Nat)} {x : List Nod} (h11 : n.kind = 11) (h : runS D (n :: x) ((true, k) :: B) = some S) : runS D x ((true, k + 1) :: B) = some S := by
 simp only [runS] at h
 split at h
 ·rename_i S1 hS
  unfold stepS at hS
  cases hr : rightB n with
  | false => rw [hr] at hS; cases hS
  | true =>
   have h6 : ¬ n.kind = 6 := by omega
   simp only [hr, h11, Bool.not_true, cond_false, show ¬ (11 : Int) = 6 by decide, decide_false, decide_true, cond_true, Bool.true_and] at hS
   by_cases hk : k + 1 ≤ 2
   ·simp only [hk, decide_true, cond_true, Option.some.injEq] at hS
    rw [← hS] at h
    exact h
   simp only [hk, decide_false, cond_false] at hS
   cases hS
 cases h
theorem Three.small {l : List Nod} {W : Wk} (h : Good l W) {p s1 s2 : Nat} (h10 : (nth l p).kind = 10) (t : Three W.beh p s1 s2 (W.beh.getD p 0 - 1)) : ∀ f, ∀ q ∈ itemsF W.beh (W.beh.getD p 0 - 1) f (s2 + 1), brokenB (nth l q) = true := by
 have l1 := t.h1.le
 have l2 := t.h2.le
 have l3 := t.h3.le
 have l4 := t.he
 obtain ⟨_, hlen⟩ := good_ch h.walk h.os
 have hI := h.items p (by omega)
 obtain ⟨k, h4, h5⟩ := hI.run
 have hd := h.d
 have h6 := h5 81 [] (by simp only [List.length_nil]; omega) fun q => by cases q
 generalize hr : W.beh.getD p 0 = r at *
 rw [seg_cons (by omega) (by omega)] at h6
 simp only [runS] at h6
 rw [step_any hI.right hI.kind.1 hI.kind.2 (by simp) (fun q => by cases q), show enters (nth l p).kind = true by rw [h10]; rfl, cond_true, decide_eq_true h10] at h6
 simp only at h6
 obtain ⟨_, q2⟩ := h.ch_small (B := []) (k := 0) (D := 81) (by simp) t.h1 (r := r) (by omega) h6
 rw [seg_cons (show s1 < r by omega) (by omega)] at q2
 obtain ⟨_, q4⟩ := h.ch_small (B := []) (k := 1) (D := 81) (by simp) t.h2 (r := r) (by omega) (run_sep (Three.sep1' h t h10 hr) q2)
 rw [seg_cons (show s2 < r by omega) (by omega)] at q4
 exact (h.ch_small (B := []) (k := 2) (D := 81) (by simp) t.h3 (r := r) (by omega) (run_sep (Three.sep2' h t h10 hr) q4)).1
end Go.Proofs.Ytcncfmjfgdbfeaa
