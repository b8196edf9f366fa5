/- NodT Fast9 NodU. -/
import Derived.Test.YtcncfmjfgdbfeabM11
import Derived.Laws.MakeOwn
namespace Go.Proofs.Ytcncfmjfgdbfeab
set_option maxRecDepth 100000
set_option maxHeartbeats 4000000
open Go.RowKit
def stepsL : List Value := [.nilFunc, .func (.func 103) #[] #[], .func (.func 103) #[] #[], .func (.func 103) #[] #[], .func (.func 104) #[] #[], .func (.func 104) #[] #[], .func (.func 105) #[] #[], .func (.func 103) #[] #[], .func (.func 103) #[] #[], .func (.func 103) #[] #[], .func (.func 104) #[] #[], .func (.func 106) #[] #[], .func (.func 103) #[] #[], .func (.func 104) #[] #[], .func (.func 103) #[] #[], .func (.func 103) #[] #[], .func (.func 103) #[] #[], .func (.func 104) #[] #[]]
theorem steps_any  (w : World) :
  Calls Try.prog 85 #[] w fun e w' => e = .returned (.agg stepsL.toArray) ∧ Kept w w' := by
 refine g_enter (args := []) [] [] Try.func85 rfl Try.ntmps85 kL (sat0 w) ?_
 refine g0 ?_
 refine gN fun b0 hb0 => ?_
 refine gA (List.replicate 18 0) 0 ?_
 refine g_ret (List.replicate 18 0) (Value.agg (Array.mk [Value.nilFunc, Value.func (Fn.func 103) (Array.mk []) (Array.mk []), Value.func (Fn.func 103) (Array.mk []) (Array.mk []), Value.func (Fn.func 103) (Array.mk []) (Array.mk []), Value.func (Fn.func 104) (Array.mk []) (Array.mk []), Value.func (Fn.func 104) (Array.mk []) (Array.mk []), Value.func (Fn.func 105) (Array.mk []) (Array.mk []), Value.func (Fn.func 103) (Array.mk []) (Array.mk []), Value.func (Fn.func 103) (Array.mk []) (Array.mk []), Value.func (Fn.func 103) (Array.mk []) (Array.mk []), Value.func (Fn.func 104) (Array.mk []) (Array.mk []), Value.func (Fn.func 106) (Array.mk []) (Array.mk []), Value.func (Fn.func 103) (Array.mk []) (Array.mk []), Value.func (Fn.func 104) (Array.mk []) (Array.mk []), Value.func (Fn.func 103) (Array.mk []) (Array.mk []), Value.func (Fn.func 103) (Array.mk []) (Array.mk []), Value.func (Fn.func 103) (Array.mk []) (Array.mk []), Value.func (Fn.func 104) (Array.mk []) (Array.mk [])])) kR kR kR fun w' hs => ?_
 exact ⟨by clear hs; rfl, hs.kk⟩
def walkW (l : List Nod) : Nat → Nat → Wk → Option Wk
 | 0, _, W => some W
 | n + 1, at_, W => bif rightB (nth l at_) then (match stepW l at_ W with | some W' => walkW l n (at_ + 1) W' | none => none) else none
def wholeB (l : List Nod) (W : Wk) : Bool := match walkW l l.length 0 W with
 | some W' => decide (W'.os.length = 0)
 | none => false
structure RX (l : List Nod) (W0 : Wk) where
 at_ : Nat
 W : Wk
 base : Option Addr
 cap : Nat
 e : HE
 inv : Inv l at_ W base cap e
 le : at_ ≤ l.length
 run : walkW l (l.length - at_) at_ W = walkW l l.length 0 W0
theorem RX.end_ {l : List Nod} {W0 : Wk} (x : RX l W0) (h : x.at_ = l.length) : walkW l l.length 0 W0 = some x.W := by
 rw [← x.run, h, Nat.sub_self]; rfl
theorem RX.wrong {l : List Nod} {W0 : Wk} (x : RX l W0) (h : x.at_ < l.length) (hr : rightB (nth l x.at_) = false) : walkW l l.length 0 W0 = none := by
 rw [← x.run, show l.length - x.at_ = (l.length - x.at_ - 1) + 1 by omega]
 simp [walkW, hr]
theorem RX.stops {l : List Nod} {W0 : Wk} (x : RX l W0) (h : x.at_ < l.length) (hr : rightB (nth l x.at_) = true) (r : StepR l x.at_ x.W) (hk : r.ok = false) : walkW l l.length 0 W0 = none := by
 rw [← x.run, show l.length - x.at_ = (l.length - x.at_ - 1) + 1 by omega]
 have hn : stepW l x.at_ x.W = none := by
  have := r.is
  rw [hk] at this
  exact Option.isSome_eq_false_iff.1 this.symm |> Option.isNone_iff_eq_none.1
 simp [walkW, hr, hn]
def RX.next {l : List Nod} {W0 : Wk} (x : RX l W0) (h : x.at_ < l.length) (hr : rightB (nth l x.at_) = true) (r : StepR l x.at_ x.W) (hk : r.ok = true) : RX l W0 :=
 ⟨x.at_ + 1, r.W', r.base, r.cap, r.e, (r.good hk).2, h, by
  rw [← x.run, show l.length - x.at_ = (l.length - (x.at_ + 1)) + 1 by omega]
  simp [walkW, hr, (r.good hk).1]⟩
theorem step_frame {l : List Nod} {bw bl ol cl bb at_ : Nat} {W : Wk} {base : Option Addr} {cap : Nat} {e : HE} {w0 w : World} {bs : List Nat} {rest : List HE} {f : FuncId} {args : Array Value}
  (h : Sat w0 bs (wkHp l bw bl ol cl bb W base cap e ++ rest) w) (hc : Sat w (owned (wkHp l bw bl ol cl bb W base cap e)) (wkHp l bw bl ol cl bb W base cap e) w → Calls Try.prog f args w (StepQ l bw bl ol cl bb at_ W w (owned (wkHp l bw bl ol cl bb W base cap e)))) :
  Calls Try.prog f args w fun e' w' => ∃ r : StepR l at_ W, e' = .returned (.bool r.ok) ∧ Sat w0 bs (wkHp l bw bl ol cl bb r.W' r.base r.cap r.e ++ rest) w' := by
 have h0 : Sat w0 bs (wkHp l bw bl ol cl bb W base cap e) w := h.take 4
 refine (hc h0.rebase).mono ?_
 rintro e' w' ⟨r, rfl, hr⟩
 refine ⟨r, rfl, h.frame hr fun x hx => ?_⟩
 simp only [wkHp, walkHp, List.mem_cons, List.not_mem_nil, or_false] at hx ⊢
 rcases hx with rfl | rfl | rfl | rfl
 ·exact .inl rfl
 ·exact .inr (.inl (by simp))
 ·exact .inl rfl
 rcases r.eo with h1 | h1
 ·exact .inl h1
 exact .inr (.inr h1)
theorem through_any (l : List Nod) (bw bl ol cl bb : Nat) (w0 : World) (bs : List Nat) (base : Option Addr) (cap : Nat) (e : HE) (W : Wk) (w : World)
  (hq : Sat w0 bs (wkHp l bw bl ol cl bb W base cap e) w) (hI : Inv l 0 W base cap e) (hl : l.length ≤ 2000) :
  Calls Try.prog 76 #[.pointer (some ⟨bw, 0, none⟩)] w fun e' w' => e' = .returned (.bool (wholeB l W)) ∧
   ∃ W' base' cap' e2, (e2.own = true ∨ ¬ e2.live) ∧ (∀ Wf, walkW l l.length 0 W = some Wf → Wf = W') ∧ Sat w0 bs (wkHp l bw bl ol cl bb W' base' cap' e2) w' := by
 refine g_enter (args := [.pointer (some ⟨bw, 0, none⟩)]) (owned (wkHp l bw bl ol cl bb W base cap e)) (wkHp l bw bl ol cl bb W base cap e) Try.func76 rfl Try.ntmps76 kL hq.rebase ?_
 refine g0 ?_
 refine g_callq _ _ _ ?_ (fun w hs => rights_any w) ?_
 ·kernel_rfl
 refine g_callq _ _ _ ?_ (fun w hs => steps_any w) ?_
 ·kernel_rfl
 refine gN fun b4 hb4 => ?_
 refine gN fun b5 hb5 => ?_
 refine gA (List.replicate 18 4 ++ List.replicate 18 5) 0 ?_
 refine g_loopN (X := RX l W) (fun x => [(5, .int .i64 (x.at_ : Int)), (2, .bool false)]) (fun x => wkHp l bw bl ol cl bb x.W x.base x.cap x.e ++ [.obj true b4 rulesL 131, .obj true b5 stepsL 134]) (fun x => l.length - x.at_)
  ⟨0, W, base, cap, e, hI, Nat.zero_le _, rfl⟩ kR (by unfold Known; kernel_rfl) kR fun x N hN => ?_
 have hle := x.le
 by_cases hA : x.at_ = l.length
 ·refine gA ([0]) 0 ?_
  refine g_dec 10 ((↑x.at_ : Int) == (↑l.length : Int)) kR (fun h10 => ?_) (fun h10 => ?_)
  ·refine gA ([0]) 1 ?_
   refine gR (Value.bool ((↑x.W.os.length : Int) == 0)) fun w' hs => ?_
   exact ⟨by rw [wholeB, x.end_ hA]; exact ret_bool (by clear hs hN hq; show ((x.W.os.length : Int) == 0) = decide (x.W.os.length = 0); rw [Bool.eq_iff_iff]; simp only [beq_iff_eq, decide_eq_true_eq]; omega), x.W, x.base, x.cap, x.e, x.inv.eo, fun Wf hf => by rw [x.end_ hA] at hf; exact (Option.some.inj hf).symm, hq.unbase ((hs.take 4).at kR)⟩
  exact absurd h10 (by clear hN hq; intro hx; first | (exact hne (eq_of_beq hx)) | (simp [hr] at hx; done) | (simp [hA] at hx; done) | (clear hx; omega))
 have hB : x.at_ < l.length := by omega
 have hne : (x.at_ : Int) ≠ (l.length : Int) := by omega
 cases hr : rightB (nth l x.at_) with
 | false =>
  refine gA ([0]) 0 ?_
  refine g_dec 10 ((↑x.at_ : Int) == (↑l.length : Int)) kR (fun h10 => ?_) (fun h10 => ?_)
  ·exact absurd h10 (by clear hN hq; intro hx; first | (exact hne (eq_of_beq hx)) | (simp [hr] at hx; done) | (simp [hA] at hx; done) | (clear hx; omega))
  refine gU 32 ([0]) 1 ?_
  refine g_val _ _ ?_ (fun w _hs => idx_run (P := Try.prog) (T := 22) (E := 55) (b := bl) (o := ol) (n := l.length) (c := cl) (k := x.at_) (sz := 19) (kk := .i64) w kR kR hB) ?_
  ·kernel_rfl
  refine g_val _ _ ?_ (fun w _hs => Sat.rowload (T := 55) (i := 1) (b := bl) (off := ol) (sz := 19) (n := l.length) (k := x.at_) (f := rowOf l) _hs kR hB kR kR rfl) ?_
  ·kernel_rfl
  refine g_callq _ _ _ ?_ (fun w hs => hold_any b4 (nth l x.at_) w (hs.obj (o := true) (i := 4) kR)) ?_
  ·kernel_rfl
  refine g0 ?_
  refine g_dec 25 (!rightB (nth l x.at_)) kR (fun h25 => ?_) (fun h25 => ?_)
  ·refine gA [] 2 ?_
   refine gR (Value.bool false) fun w' hs => ?_
   exact ⟨by rw [wholeB, x.wrong hB hr], x.W, x.base, x.cap, x.e, x.inv.eo, fun Wf hf => by (rw [x.wrong hB hr] at hf; cases hf), hq.unbase ((hs.take 4).at kR)⟩
  exact absurd h25 (by clear hN hq; intro hx; first | (exact hne (eq_of_beq hx)) | (simp [hr] at hx; done) | (simp [hA] at hx; done) | (clear hx; omega))
 | true =>
  have hkk : ∃ k : Nat, (nth l x.at_).kind = (k : Int) ∧ 1 ≤ k ∧ k < 18 := by
   refine ⟨(nth l x.at_).kind.toNat, ?_⟩
   have : ¬ ((nth l x.at_).kind < 1 ∨ 17 < (nth l x.at_).kind) := fun h => by rw [rightB_no _ h] at hr; cases hr
   omega
  obtain ⟨k, hkk, hk1, hk18⟩ := hkk
  have hkv : (rowOf l x.at_)[0]? = some (.int .i64 (k : Int)) := by rw [← hkk]; rfl
  by_cases h6 : k = 6
  ·skip
   have hv : stepsL[0 + k * 1]? = some (.func (.func 105) #[] #[]) := by subst h6; rfl
   refine gA ([0]) 0 ?_
   refine g_dec 10 ((↑x.at_ : Int) == (↑l.length : Int)) kR (fun h10 => ?_) (fun h10 => ?_)
   ·exact absurd h10 (by clear hN hq; intro hx; first | (exact hne (eq_of_beq hx)) | (simp [hr] at hx; done) | (simp [hA] at hx; done) | (clear hx; omega))
   refine gU 32 ([0]) 1 ?_
   refine g_val _ _ ?_ (fun w _hs => idx_run (P := Try.prog) (T := 22) (E := 55) (b := bl) (o := ol) (n := l.length) (c := cl) (k := x.at_) (sz := 19) (kk := .i64) w kR kR hB) ?_
   ·kernel_rfl
   refine g_val _ _ ?_ (fun w _hs => Sat.rowload (T := 55) (i := 1) (b := bl) (off := ol) (sz := 19) (n := l.length) (k := x.at_) (f := rowOf l) _hs kR hB kR kR rfl) ?_
   ·kernel_rfl
   refine g_callq _ _ _ ?_ (fun w hs => hold_any b4 (nth l x.at_) w (hs.obj (o := true) (i := 4) kR)) ?_
   ·kernel_rfl
   refine g0 ?_
   refine g_dec 25 (!rightB (nth l x.at_)) kR (fun h25 => ?_) (fun h25 => ?_)
   ·exact absurd h25 (by clear hN hq; intro hx; first | (exact hne (eq_of_beq hx)) | (simp [hr] at hx; done) | (simp [hA] at hx; done) | (clear hx; omega))
   refine gU 42 ([0]) 1 ?_
   refine g_val _ _ ?_ (fun w _hs => idx_run (P := Try.prog) (T := 22) (E := 55) (b := bl) (o := ol) (n := l.length) (c := cl) (k := x.at_) (sz := 19) (kk := .i64) w kR kR hB) ?_
   ·kernel_rfl
   refine gU 44 [] 0 ?_
   refine g_val _ _ ?_ (fun w _hs => Sat.rowload1 (T := 3) (i := 1) (b := bl) (off := ol) (sz := 19) (n := l.length) (k := x.at_) (j := 0) (f := rowOf l) (v := .int .i64 (k : Int)) _hs kR hB kR hkv) ?_
   ·kernel_rfl
   refine g_val _ _ ?_ (fun w _hs => arr_run (P := Try.prog) (T := 134) (E := 133) (b := b5) (o := 0) (n := 18) (k := k) (sz := 1) (kk := .i64) w kR kR hk18) ?_
   ·kernel_rfl
   refine g_val _ _ ?_ (fun w _hs => Sat.objload1 (T := 133) (T' := 134) (i := 5) (b := b5) (k := 0 + k * 1) (own := true) (cs := stepsL) (v := .func (.func 105) #[] #[]) _hs kR hv kR) ?_
   ·kernel_rfl
   refine g0 ?_
   refine g_call (X := StepR l x.at_ x.W) _ _ ?_ (fun r => .bool r.ok) (fun r => wkHp l bw bl ol cl bb r.W' r.base r.cap r.e ++ [.obj true b4 rulesL 131, .obj true b5 stepsL 134]) (fun w hs => step_frame (hs.at kR) fun hs => step_leave l bw bl ol cl bb _ _ _ _ x.at_ _ _ w hs x.inv hB hl (by rw [hkk, h6]; rfl)) (fun r => ?_)
   ·kernel_rfl
   refine g0 ?_
   refine g_dec 25 (!r.ok) kR (fun h25 => ?_) (fun h25 => ?_)
   ·refine gA [] 1 ?_
    refine gR (Value.bool false) fun w' hs => ?_
    exact ⟨by rw [wholeB, x.stops hB hr r (by simpa using h25)], r.W', r.base, r.cap, r.e, r.eo, fun Wf hf => by (rw [x.stops hB hr r (by simpa using h25)] at hf; cases hf), hq.unbase ((hs.take 4).at kR)⟩
   refine gU 9 [] 1 ?_
   refine g_val _ _ ?_ (fun w _hs => nat_succ (P := Try.prog) (t := 3) (x := .tmp 8) (y := .const (.int .i64 1)) (m := x.at_) (w := w) kR (by omega)) ?_
   ·kernel_rfl
   refine g0 ?_
   refine g_hook (hN (x.next hB hr r (by simpa using h25)) (by simp only [RX.next]; omega)) kR kR kR (by unfold Known; kernel_rfl) kR kR
  by_cases h11 : k = 11
  ·skip
   have hv : stepsL[0 + k * 1]? = some (.func (.func 106) #[] #[]) := by subst h11; rfl
   refine gA ([0]) 0 ?_
   refine g_dec 10 ((↑x.at_ : Int) == (↑l.length : Int)) kR (fun h10 => ?_) (fun h10 => ?_)
   ·exact absurd h10 (by clear hN hq; intro hx; first | (exact hne (eq_of_beq hx)) | (simp [hr] at hx; done) | (simp [hA] at hx; done) | (clear hx; omega))
   refine gU 32 ([0]) 1 ?_
   refine g_val _ _ ?_ (fun w _hs => idx_run (P := Try.prog) (T := 22) (E := 55) (b := bl) (o := ol) (n := l.length) (c := cl) (k := x.at_) (sz := 19) (kk := .i64) w kR kR hB) ?_
   ·kernel_rfl
   refine g_val _ _ ?_ (fun w _hs => Sat.rowload (T := 55) (i := 1) (b := bl) (off := ol) (sz := 19) (n := l.length) (k := x.at_) (f := rowOf l) _hs kR hB kR kR rfl) ?_
   ·kernel_rfl
   refine g_callq _ _ _ ?_ (fun w hs => hold_any b4 (nth l x.at_) w (hs.obj (o := true) (i := 4) kR)) ?_
   ·kernel_rfl
   refine g0 ?_
   refine g_dec 25 (!rightB (nth l x.at_)) kR (fun h25 => ?_) (fun h25 => ?_)
   ·exact absurd h25 (by clear hN hq; intro hx; first | (exact hne (eq_of_beq hx)) | (simp [hr] at hx; done) | (simp [hA] at hx; done) | (clear hx; omega))
   refine gU 42 ([0]) 1 ?_
   refine g_val _ _ ?_ (fun w _hs => idx_run (P := Try.prog) (T := 22) (E := 55) (b := bl) (o := ol) (n := l.length) (c := cl) (k := x.at_) (sz := 19) (kk := .i64) w kR kR hB) ?_
   ·kernel_rfl
   refine gU 44 [] 0 ?_
   refine g_val _ _ ?_ (fun w _hs => Sat.rowload1 (T := 3) (i := 1) (b := bl) (off := ol) (sz := 19) (n := l.length) (k := x.at_) (j := 0) (f := rowOf l) (v := .int .i64 (k : Int)) _hs kR hB kR hkv) ?_
   ·kernel_rfl
   refine g_val _ _ ?_ (fun w _hs => arr_run (P := Try.prog) (T := 134) (E := 133) (b := b5) (o := 0) (n := 18) (k := k) (sz := 1) (kk := .i64) w kR kR hk18) ?_
   ·kernel_rfl
   refine g_val _ _ ?_ (fun w _hs => Sat.objload1 (T := 133) (T' := 134) (i := 5) (b := b5) (k := 0 + k * 1) (own := true) (cs := stepsL) (v := .func (.func 106) #[] #[]) _hs kR hv kR) ?_
   ·kernel_rfl
   refine g0 ?_
   refine g_call (X := StepR l x.at_ x.W) _ _ ?_ (fun r => .bool r.ok) (fun r => wkHp l bw bl ol cl bb r.W' r.base r.cap r.e ++ [.obj true b4 rulesL 131, .obj true b5 stepsL 134]) (fun w hs => step_frame (hs.at kR) fun hs => step_part l bw bl ol cl bb _ _ _ _ x.at_ _ _ w hs x.inv hB hl (by rw [hkk, h11]; rfl)) (fun r => ?_)
   ·kernel_rfl
   refine g0 ?_
   refine g_dec 25 (!r.ok) kR (fun h25 => ?_) (fun h25 => ?_)
   ·refine gA [] 1 ?_
    refine gR (Value.bool false) fun w' hs => ?_
    exact ⟨by rw [wholeB, x.stops hB hr r (by simpa using h25)], r.W', r.base, r.cap, r.e, r.eo, fun Wf hf => by (rw [x.stops hB hr r (by simpa using h25)] at hf; cases hf), hq.unbase ((hs.take 4).at kR)⟩
   refine gU 9 [] 1 ?_
   refine g_val _ _ ?_ (fun w _hs => nat_succ (P := Try.prog) (t := 3) (x := .tmp 8) (y := .const (.int .i64 1)) (m := x.at_) (w := w) kR (by omega)) ?_
   ·kernel_rfl
   refine g0 ?_
   refine g_hook (hN (x.next hB hr r (by simpa using h25)) (by simp only [RX.next]; omega)) kR kR kR (by unfold Known; kernel_rfl) kR kR
  cases hen : enters (k : Int) with
  | true =>
   have hv : stepsL[0 + k * 1]? = some (.func (.func 104) #[] #[]) := by
    simp only [enters, Bool.or_eq_true, decide_eq_true_eq] at hen
    have : k = 4 ∨ k = 5 ∨ k = 10 ∨ k = 13 ∨ k = 17 := by omega
    rcases this with rfl | rfl | rfl | rfl | rfl <;> rfl
   refine gA ([0]) 0 ?_
   refine g_dec 10 ((↑x.at_ : Int) == (↑l.length : Int)) kR (fun h10 => ?_) (fun h10 => ?_)
   ·exact absurd h10 (by clear hN hq; intro hx; first | (exact hne (eq_of_beq hx)) | (simp [hr] at hx; done) | (simp [hA] at hx; done) | (clear hx; omega))
   refine gU 32 ([0]) 1 ?_
   refine g_val _ _ ?_ (fun w _hs => idx_run (P := Try.prog) (T := 22) (E := 55) (b := bl) (o := ol) (n := l.length) (c := cl) (k := x.at_) (sz := 19) (kk := .i64) w kR kR hB) ?_
   ·kernel_rfl
   refine g_val _ _ ?_ (fun w _hs => Sat.rowload (T := 55) (i := 1) (b := bl) (off := ol) (sz := 19) (n := l.length) (k := x.at_) (f := rowOf l) _hs kR hB kR kR rfl) ?_
   ·kernel_rfl
   refine g_callq _ _ _ ?_ (fun w hs => hold_any b4 (nth l x.at_) w (hs.obj (o := true) (i := 4) kR)) ?_
   ·kernel_rfl
   refine g0 ?_
   refine g_dec 25 (!rightB (nth l x.at_)) kR (fun h25 => ?_) (fun h25 => ?_)
   ·exact absurd h25 (by clear hN hq; intro hx; first | (exact hne (eq_of_beq hx)) | (simp [hr] at hx; done) | (simp [hA] at hx; done) | (clear hx; omega))
   refine gU 42 ([0]) 1 ?_
   refine g_val _ _ ?_ (fun w _hs => idx_run (P := Try.prog) (T := 22) (E := 55) (b := bl) (o := ol) (n := l.length) (c := cl) (k := x.at_) (sz := 19) (kk := .i64) w kR kR hB) ?_
   ·kernel_rfl
   refine gU 44 [] 0 ?_
   refine g_val _ _ ?_ (fun w _hs => Sat.rowload1 (T := 3) (i := 1) (b := bl) (off := ol) (sz := 19) (n := l.length) (k := x.at_) (j := 0) (f := rowOf l) (v := .int .i64 (k : Int)) _hs kR hB kR hkv) ?_
   ·kernel_rfl
   refine g_val _ _ ?_ (fun w _hs => arr_run (P := Try.prog) (T := 134) (E := 133) (b := b5) (o := 0) (n := 18) (k := k) (sz := 1) (kk := .i64) w kR kR hk18) ?_
   ·kernel_rfl
   refine g_val _ _ ?_ (fun w _hs => Sat.objload1 (T := 133) (T' := 134) (i := 5) (b := b5) (k := 0 + k * 1) (own := true) (cs := stepsL) (v := .func (.func 104) #[] #[]) _hs kR hv kR) ?_
   ·kernel_rfl
   refine g0 ?_
   refine g_call (X := StepR l x.at_ x.W) _ _ ?_ (fun r => .bool r.ok) (fun r => wkHp l bw bl ol cl bb r.W' r.base r.cap r.e ++ [.obj true b4 rulesL 131, .obj true b5 stepsL 134]) (fun w hs => step_frame (hs.at kR) fun hs => step_enter l bw bl ol cl bb _ _ _ _ x.at_ _ _ w hs x.inv hB hl (by rw [hkk]; exact hen)) (fun r => ?_)
   ·kernel_rfl
   refine g0 ?_
   refine g_dec 25 (!r.ok) kR (fun h25 => ?_) (fun h25 => ?_)
   ·refine gA [] 1 ?_
    refine gR (Value.bool false) fun w' hs => ?_
    exact ⟨by rw [wholeB, x.stops hB hr r (by simpa using h25)], r.W', r.base, r.cap, r.e, r.eo, fun Wf hf => by (rw [x.stops hB hr r (by simpa using h25)] at hf; cases hf), hq.unbase ((hs.take 4).at kR)⟩
   refine gU 9 [] 1 ?_
   refine g_val _ _ ?_ (fun w _hs => nat_succ (P := Try.prog) (t := 3) (x := .tmp 8) (y := .const (.int .i64 1)) (m := x.at_) (w := w) kR (by omega)) ?_
   ·kernel_rfl
   refine g0 ?_
   refine g_hook (hN (x.next hB hr r (by simpa using h25)) (by simp only [RX.next]; omega)) kR kR kR (by unfold Known; kernel_rfl) kR kR
  | false =>
   have hv : stepsL[0 + k * 1]? = some (.func (.func 103) #[] #[]) := by
    simp only [enters, Bool.or_eq_false_iff, decide_eq_false_iff_not] at hen
    have : k = 1 ∨ k = 2 ∨ k = 3 ∨ k = 7 ∨ k = 8 ∨ k = 9 ∨ k = 12 ∨ k = 14 ∨ k = 15 ∨ k = 16 := by omega
    rcases this with rfl | rfl | rfl | rfl | rfl | rfl | rfl | rfl | rfl | rfl <;> rfl
   refine gA ([0]) 0 ?_
   refine g_dec 10 ((↑x.at_ : Int) == (↑l.length : Int)) kR (fun h10 => ?_) (fun h10 => ?_)
   ·exact absurd h10 (by clear hN hq; intro hx; first | (exact hne (eq_of_beq hx)) | (simp [hr] at hx; done) | (simp [hA] at hx; done) | (clear hx; omega))
   refine gU 32 ([0]) 1 ?_
   refine g_val _ _ ?_ (fun w _hs => idx_run (P := Try.prog) (T := 22) (E := 55) (b := bl) (o := ol) (n := l.length) (c := cl) (k := x.at_) (sz := 19) (kk := .i64) w kR kR hB) ?_
   ·kernel_rfl
   refine g_val _ _ ?_ (fun w _hs => Sat.rowload (T := 55) (i := 1) (b := bl) (off := ol) (sz := 19) (n := l.length) (k := x.at_) (f := rowOf l) _hs kR hB kR kR rfl) ?_
   ·kernel_rfl
   refine g_callq _ _ _ ?_ (fun w hs => hold_any b4 (nth l x.at_) w (hs.obj (o := true) (i := 4) kR)) ?_
   ·kernel_rfl
   refine g0 ?_
   refine g_dec 25 (!rightB (nth l x.at_)) kR (fun h25 => ?_) (fun h25 => ?_)
   ·exact absurd h25 (by clear hN hq; intro hx; first | (exact hne (eq_of_beq hx)) | (simp [hr] at hx; done) | (simp [hA] at hx; done) | (clear hx; omega))
   refine gU 42 ([0]) 1 ?_
   refine g_val _ _ ?_ (fun w _hs => idx_run (P := Try.prog) (T := 22) (E := 55) (b := bl) (o := ol) (n := l.length) (c := cl) (k := x.at_) (sz := 19) (kk := .i64) w kR kR hB) ?_
   ·kernel_rfl
   refine gU 44 [] 0 ?_
   refine g_val _ _ ?_ (fun w _hs => Sat.rowload1 (T := 3) (i := 1) (b := bl) (off := ol) (sz := 19) (n := l.length) (k := x.at_) (j := 0) (f := rowOf l) (v := .int .i64 (k : Int)) _hs kR hB kR hkv) ?_
   ·kernel_rfl
   refine g_val _ _ ?_ (fun w _hs => arr_run (P := Try.prog) (T := 134) (E := 133) (b := b5) (o := 0) (n := 18) (k := k) (sz := 1) (kk := .i64) w kR kR hk18) ?_
   ·kernel_rfl
   refine g_val _ _ ?_ (fun w _hs => Sat.objload1 (T := 133) (T' := 134) (i := 5) (b := b5) (k := 0 + k * 1) (own := true) (cs := stepsL) (v := .func (.func 103) #[] #[]) _hs kR hv kR) ?_
   ·kernel_rfl
   refine g0 ?_
   refine g_call (X := StepR l x.at_ x.W) _ _ ?_ (fun r => .bool r.ok) (fun r => wkHp l bw bl ol cl bb r.W' r.base r.cap r.e ++ [.obj true b4 rulesL 131, .obj true b5 stepsL 134]) (fun w hs => step_frame (hs.at kR) fun hs => step_stand l bw bl ol cl bb _ _ _ _ x.at_ _ _ w hs x.inv hB hl (by rw [hkk]; omega) (by rw [hkk]; omega) (by rw [hkk]; exact hen)) (fun r => ?_)
   ·kernel_rfl
   refine g0 ?_
   refine g_dec 25 (!r.ok) kR (fun h25 => ?_) (fun h25 => ?_)
   ·refine gA [] 1 ?_
    refine gR (Value.bool false) fun w' hs => ?_
    exact ⟨by rw [wholeB, x.stops hB hr r (by simpa using h25)], r.W', r.base, r.cap, r.e, r.eo, fun Wf hf => by (rw [x.stops hB hr r (by simpa using h25)] at hf; cases hf), hq.unbase ((hs.take 4).at kR)⟩
   refine gU 9 [] 1 ?_
   refine g_val _ _ ?_ (fun w _hs => nat_succ (P := Try.prog) (t := 3) (x := .tmp 8) (y := .const (.int .i64 1)) (m := x.at_) (w := w) kR (by omega)) ?_
   ·kernel_rfl
   refine g0 ?_
   refine g_hook (hN (x.next hB hr r (by simpa using h25)) (by simp only [RX.next]; omega)) kR kR kR (by unfold Known; kernel_rfl) kR kR
end Go.Proofs.Ytcncfmjfgdbfeab
namespace Go.Proofs.Ytcncfmjfgdbfeab
open Go.RowKit
noncomputable section
section
variable {F : Fence} {mm : Nat} {P : Program} {fin : Fin} {w0 : World} {bs : List Nat} {st : St}
def makeOf (st : St) : Option (TypeId × Value × Value) :=
 match st.l with
 | [] => none
 | o :: _ => match wanted? st.ops st.t o with
  | some true => bif (o.op.operands.toList.all fun x => (st.t.ev? x).isSome) then (match o.op with
   | .makeSlice T a x => some (T, st.t.ev a, st.t.ev x)
   | _ => none) else none
  | _ => none
theorem madeCells_one (z0 : Value) (n : Nat) : madeCells #[z0] n = (List.replicate n z0).toArray := by
 apply Array.ext
 ·simp [madeCells]
 intro i h1 h2
 simp [madeCells, Nat.mod_one]
theorem g_make (T E : TypeId) (n by_ : Nat) (z0 : Value) (h : makeOf st = some (T, .int .i64 (n : Int), .int .i64 (n : Int))) (hT : P.underlying T = some (.slice E))
  (hz : ((P.info? E).map fun ti => (ti.size, ti.bytes, ti.zero.map fun z => z.cells)) = some (1, by_, some #[z0])) (hb : by_ * n ≤ 281474976710656) (hn : n ≤ 9223372036854775807)
  (g : ∀ b, w0.heap.size ≤ b → Goal F mm P fin w0 bs (retSt st (.slice (some ⟨b, 0, none⟩) n n) (st.hp ++ [.obj true b (List.replicate n z0) E]))) : Goal F mm P fin w0 bs st := by
 refine ⟨fun hF a w hr hw => ?_⟩
 have hg := (g w.heap.size hw.kept.size).out hF
 obtain ⟨ti, hti, h2⟩ := Option.map_eq_some_iff.1 hz
 simp only [Prod.mk.injEq] at h2
 obtain ⟨hsz, hby, h3⟩ := h2
 obtain ⟨z, hzero, hcells⟩ := Option.map_eq_some_iff.1 h3
 obtain ⟨n0, ds, ops, l, kk, t, hp⟩ := st
 unfold makeOf at h
 unfold retSt at hg
 simp only at h hr hw hg ⊢
 cases l with
 | nil => cases h
 | cons o rest =>
  simp only at h
  split at h
  ·rename_i hwn
   cases hall : (o.op.operands.toList.all fun x => (t.ev? x).isSome) with
   | false => rw [hall] at h; cases h
   | true =>
    rw [hall, cond_true] at h
    split at h
    ·rename_i T2 x y hop
     simp only [Option.some.injEq, Prod.mk.injEq] at h
     obtain ⟨rfl, hx, hy⟩ := h
     have hsem : opSem t o = some (execOp t.ev o) := by
      unfold opSem
      rw [hall]
      simp [noSel, hop]
     have hm := run_make (P := P) w T2 E ti z hT hti hzero .i64 .i64 n n (by omega) (by omega) (by
      have h4 : ((by_ * n : Nat) : Int) ≤ 281474976710656 := by omega
      rw [hby]
      rwa [Int.natCast_mul] at h4) (by omega)
     rw [hsz, Nat.mul_one, hcells, Int.toNat_natCast, madeCells_one] at hm
     have hrun : (execOp t.ev o).run P w = .ok (.value (.slice (some ⟨w.heap.size, 0, none⟩) n n)) { w with heap := w.heap.push (.cells (List.replicate n z0).toArray E (0, 0)) } := by
      unfold execOp
      simp only [hop, hx, hy]
      simp only [Sem.run_bind, hm, Result.andThen]
      rfl
     unfold wpListIn
     rw [hr.wanted hwn, if_pos rfl]
     refine ⟨fun f _ => hF.fn f, ?_⟩
     rw [Oper.semAt_eq _ _ _ (noDefer (opSem_noSel hsem)), hr.opSem hsem, hrun]
     exact hg _ _ (hr.put _ _) (hw.alloc _ _)
    cases h
  cases h
end
def takeSt (st : St) (n : Nat) : St := { st with hp := st.hp.take n }
theorem Sat.front {w0 w : World} {bs : List Nat} {hp : List HE} (h : Sat w0 bs hp w) (n : Nat) : Sat w0 bs (hp.take n) w :=
 ⟨h.kept, fun e he => h.holds e (List.mem_of_mem_take he), fun i j e e' hij hi hj => h.apart i j e e' hij (by rw [List.getElem?_take] at hi; split at hi; exact hi; cases hi) (by rw [List.getElem?_take] at hj; split at hj; exact hj; cases hj)⟩
theorem g_take {F : Fence} {mm : Nat} {P : Program} {fin : Fin} {w0 : World} {bs : List Nat} {st : St} (n : Nat) (g : Goal F mm P fin w0 bs (takeSt st n)) : Goal F mm P fin w0 bs st :=
 ⟨fun hF a w hr hw => g.out hF a w hr (hw.front n)⟩
attribute [irreducible] makeOf takeSt
end
end Go.Proofs.Ytcncfmjfgdbfeab
namespace Go.Proofs.Ytcncfmjfgdbfeab
set_option maxRecDepth 100000
set_option maxHeartbeats 4000000
open Go.RowKit
theorem Sat.pick {w0 w : World} {bs : List Nat} {hp hp' : List HE} (h : Sat w0 bs hp w) (is : List Nat) (hnd : is.Nodup) (e : is.map (fun i => hp[i]?) = hp'.map some) : Sat w0 bs hp' w := by
 have get : ∀ (j : Nat) (x : HE), hp'[j]? = some x → ∃ i, is[j]? = some i ∧ hp[i]? = some x := fun j x hj => by
  have h1 : (hp'.map some)[j]? = some (some x) := by rw [List.getElem?_map, hj]; rfl
  rw [← e, List.getElem?_map] at h1
  obtain ⟨i, hi, h2⟩ := Option.map_eq_some_iff.1 h1
  exact ⟨i, hi, h2⟩
 refine ⟨h.kept, fun x hx => ?_, fun j k x y hjk hj hk ho hl => ?_⟩
 ·obtain ⟨j, hj⟩ := List.mem_iff_getElem?.1 hx
  obtain ⟨i, _, hi⟩ := get j x hj
  exact h.holds x (List.mem_of_getElem? hi)
 obtain ⟨i, hi, hi2⟩ := get j x hj
 obtain ⟨m, hm, hm2⟩ := get k y hk
 refine h.apart i m x y (fun e1 => hjk ?_) hi2 hm2 ho hl
 subst e1
 obtain ⟨hj1, hj2⟩ := List.getElem?_eq_some_iff.1 hi
 obtain ⟨hk1, hk2⟩ := List.getElem?_eq_some_iff.1 hm
 exact (List.getElem_inj hnd).1 (hj2.trans hk2.symm)
def noneE : HE := .row 0 0 0 0 (fun _ => [])
theorem Sat.dummy {w0 w : World} {bs : List Nat} {hp : List HE} (h : Sat w0 bs hp w) : Sat w0 bs (hp ++ [noneE]) w := by
 have last : ∀ {k : Nat} {e : HE}, (hp ++ [noneE])[k]? = some e → hp[k]? = some e ∨ e = noneE := fun {k e} hk => by
  rcases Nat.lt_or_ge k hp.length with hl | hl
  ·exact .inl (by rwa [List.getElem?_append_left hl] at hk)
  rw [List.getElem?_append_right hl] at hk
  exact .inr (List.mem_singleton.1 (List.mem_of_getElem? hk))
 refine ⟨h.kept, fun e he => ?_, fun k m e e' hkm hk hm ho hl => ?_⟩
 ·rcases List.mem_append.1 he with he | he
  ·exact h.holds e he
  rw [List.mem_singleton.1 he]
  exact fun h0 => absurd h0 (Nat.lt_irrefl 0)
 rcases last hk with hk | rfl
 ·rcases last hm with hm | rfl
  ·exact h.apart k m e e' hkm hk hm ho hl
  exact absurd hl (Nat.lt_irrefl 0)
 cases ho
def walk0 (l : List Nod) : Wk := ⟨List.replicate l.length 0, [], 0⟩
theorem behC_zeros (n : Nat) : behC (List.replicate n 0) = List.replicate n (.int .i64 0) := by simp [behC]
theorem inv0 (l : List Nod) : Inv l 0 (walk0 l) none 0 noneE :=
 ⟨.inl ⟨rfl, rfl, rfl⟩, fun p hp => by simp [walk0] at hp, by simp [walk0], Nat.zero_le _, .inr (Nat.lt_irrefl 0)⟩
structure ThrR (l : List Nod) where
 W' : Wk
 base : Option Addr
 cap : Nat
 e : HE
 is : ∀ Wf, walkW l l.length 0 (walk0 l) = some Wf → Wf = W'
theorem through_frame {l : List Nod} {bw bl ol cl bb : Nat} {w0 w : World} {bs : List Nat} {rest : List HE} (hl : l.length ≤ 2000)
  (h : Sat w0 bs (wkHp l bw bl ol cl bb (walk0 l) none 0 noneE ++ rest) w) :
  Calls Try.prog 76 #[.pointer (some ⟨bw, 0, none⟩)] w fun e' w' => ∃ r : ThrR l, e' = .returned (.bool (wholeB l (walk0 l))) ∧ Sat w0 bs (wkHp l bw bl ol cl bb r.W' r.base r.cap r.e ++ rest) w' := by
 have h0 : Sat w0 bs (wkHp l bw bl ol cl bb (walk0 l) none 0 noneE) w := h.take 4
 refine (through_any l bw bl ol cl bb _ _ none 0 noneE (walk0 l) w h0.rebase (inv0 l) hl).mono ?_
 rintro e' w' ⟨rfl, W', base', cap', e2, heo, hW, hr⟩
 refine ⟨⟨W', base', cap', e2, hW⟩, rfl, h.frame hr fun x hx => ?_⟩
 simp only [wkHp, walkHp, List.mem_cons, List.not_mem_nil, or_false] at hx ⊢
 rcases hx with rfl | rfl | rfl | rfl
 ·exact .inl rfl
 ·exact .inr (.inl (by simp))
 ·exact .inl rfl
 rcases heo with h1 | h1
 ·exact .inl h1
 exact .inr (.inr h1)
theorem outline_size (l : List Nod) (bl ol cl : Nat) (w : World) (hq : Sat w [] [.row bl ol 19 l.length (rowOf l)] w) (hl : 2000 < l.length) :
  Calls Try.prog 66 #[.slice (some ⟨bl, ol, none⟩) l.length cl] w fun e' w' => e' = .returned (.tuple #[.agg #[.slice none 0 0, .slice none 0 0], .int .i64 6]) ∧ Kept w w' := by
 refine g_enter (args := [.slice (some ⟨bl, ol, none⟩) l.length cl]) [] [.row bl ol 19 l.length (rowOf l)] Try.func66 rfl Try.ntmps66 kL hq ?_
 refine g0 ?_
 refine gN fun b1 hb1 => ?_
 refine g0 ?_
 refine g_dec 7 (decide ((↑l.length : Int) > 2000)) kR (fun h7 => ?_) (fun h7 => ?_)
 ·refine gA ([1, 1]) 1 ?_
  refine g_ret ([1, 1]) (Value.tuple (Array.mk [Value.agg (Array.mk [Value.slice none 0 0, Value.slice none 0 0]), Value.int IntKind.i64 6])) kR kR kR fun w' hs => ?_
  exact ⟨rfl, hs.kk⟩
 exact absurd h7 (by clear hq; intro hx; simp at hx; omega)
theorem outline_list (l : List Nod) (bl ol cl : Nat) (w : World) (hq : Sat w [] [.row bl ol 19 l.length (rowOf l)] w) (hl : l.length ≤ 2000) (hw : wholeB l (walk0 l) = false) :
  Calls Try.prog 66 #[.slice (some ⟨bl, ol, none⟩) l.length cl] w fun e' w' => e' = .returned (.tuple #[.agg #[.slice none 0 0, .slice none 0 0], .int .i64 50]) ∧ Kept w w' := by
 refine g_enter (args := [.slice (some ⟨bl, ol, none⟩) l.length cl]) [] [.row bl ol 19 l.length (rowOf l)] Try.func66 rfl Try.ntmps66 kL hq ?_
 refine g0 ?_
 refine gN fun b1 hb1 => ?_
 refine g0 ?_
 refine g_dec 7 (decide ((↑l.length : Int) > 2000)) kR (fun h7 => ?_) (fun h7 => ?_)
 ·exact absurd h7 (by clear hq; intro hx; first | (simp [] at hx; done) | (simp at hx; omega))
 refine gU 12 [] 1 ?_
 refine g_make 41 3 l.length 8 (.int .i64 0) kR kR kR (by omega) (by omega) fun b2 hb2 => ?_
 refine g0 ?_
 refine gN fun b3 hb3 => ?_
 refine gA (List.replicate 4 3) 0 ?_
 refine g_call (X := ThrR l) _ _ ?_ (fun _ => .bool (wholeB l (walk0 l))) (fun r => wkHp l b3 bl ol cl b2 r.W' r.base r.cap r.e ++ [.obj true b1 [.slice none 0 0, .slice none 0 0] 108]) (fun w hs => through_frame hl ((hs.dummy).pick [3, 0, 2, 4, 1] (by decide) (by simp only [wkHp, walkHp, walk0, behC_zeros]; kernel_rfl))) (fun r => ?_)
 ·kernel_rfl
 refine g0 ?_
 refine g_dec 16 (!wholeB l (walk0 l)) kR (fun h16 => ?_) (fun h16 => ?_)
 ·refine gA ([4, 4]) 1 ?_
  refine g_ret ([4, 4]) (Value.tuple (Array.mk [Value.agg (Array.mk [Value.slice none 0 0, Value.slice none 0 0]), Value.int IntKind.i64 50])) kR kR kR fun w' hs => ?_
  exact ⟨rfl, hs.kk⟩
 exact absurd h16 (by clear hq; intro hx; first | (simp [hw] at hx; done) | (simp at hx; omega))
theorem outline_deep (l : List Nod) (bl ol cl : Nat) (w : World) (hq : Sat w [] [.row bl ol 19 l.length (rowOf l)] w) (Wf : Wk) (hl : l.length ≤ 2000) (hw : wholeB l (walk0 l) = true) (hW : walkW l l.length 0 (walk0 l) = some Wf) (hd : 40 < Wf.d) :
  Calls Try.prog 66 #[.slice (some ⟨bl, ol, none⟩) l.length cl] w fun e' w' => e' = .returned (.tuple #[.agg #[.slice none 0 0, .slice none 0 0], .int .i64 51]) ∧ Kept w w' := by
 refine g_enter (args := [.slice (some ⟨bl, ol, none⟩) l.length cl]) [] [.row bl ol 19 l.length (rowOf l)] Try.func66 rfl Try.ntmps66 kL hq ?_
 refine g0 ?_
 refine gN fun b1 hb1 => ?_
 refine g0 ?_
 refine g_dec 7 (decide ((↑l.length : Int) > 2000)) kR (fun h7 => ?_) (fun h7 => ?_)
 ·exact absurd h7 (by clear hq; intro hx; first | (simp [] at hx; done) | (rw [← r.is Wf hW] at hx; simp at hx; omega) | (simp at hx; omega))
 refine gU 12 [] 1 ?_
 refine g_make 41 3 l.length 8 (.int .i64 0) kR kR kR (by omega) (by omega) fun b2 hb2 => ?_
 refine g0 ?_
 refine gN fun b3 hb3 => ?_
 refine gA (List.replicate 4 3) 0 ?_
 refine g_call (X := ThrR l) _ _ ?_ (fun _ => .bool (wholeB l (walk0 l))) (fun r => wkHp l b3 bl ol cl b2 r.W' r.base r.cap r.e ++ [.obj true b1 [.slice none 0 0, .slice none 0 0] 108]) (fun w hs => through_frame hl ((hs.dummy).pick [3, 0, 2, 4, 1] (by decide) (by simp only [wkHp, walkHp, walk0, behC_zeros]; kernel_rfl))) (fun r => ?_)
 ·kernel_rfl
 refine g0 ?_
 refine g_dec 16 (!wholeB l (walk0 l)) kR (fun h16 => ?_) (fun h16 => ?_)
 ·exact absurd h16 (by clear hq; intro hx; first | (simp [hw] at hx; done) | (rw [← r.is Wf hW] at hx; simp at hx; omega) | (simp at hx; omega))
 refine gA ([0]) 1 ?_
 refine g_dec 20 (decide (r.W'.d > 40)) kR (fun h20 => ?_) (fun h20 => ?_)
 ·refine gA ([4, 4]) 1 ?_
  refine g_ret ([4, 4]) (Value.tuple (Array.mk [Value.agg (Array.mk [Value.slice none 0 0, Value.slice none 0 0]), Value.int IntKind.i64 51])) kR kR kR fun w' hs => ?_
  exact ⟨rfl, hs.kk⟩
 exact absurd h20 (by clear hq; intro hx; first | (simp [] at hx; done) | (rw [← r.is Wf hW] at hx; simp at hx; omega) | (simp at hx; omega))
theorem outline_ok (l : List Nod) (bl ol cl : Nat) (w : World) (hq : Sat w [] [.row bl ol 19 l.length (rowOf l)] w) (Wf : Wk) (hl : l.length ≤ 2000) (hw : wholeB l (walk0 l) = true) (hW : walkW l l.length 0 (walk0 l) = some Wf) (hd : Wf.d ≤ 40) :
  Calls Try.prog 66 #[.slice (some ⟨bl, ol, none⟩) l.length cl] w fun e' w' => ∃ bb, e' = .returned (.tuple #[.agg #[.slice (some ⟨bl, ol, none⟩) l.length cl, .slice (some ⟨bb, 0, none⟩) l.length l.length], .int .i64 0]) ∧ w.heap.size ≤ bb ∧ w'.heap[bb]? = some (.cells (behC Wf.beh).toArray 3 (0, 0)) ∧ Kept w w' := by
 refine g_enter (args := [.slice (some ⟨bl, ol, none⟩) l.length cl]) [] [.row bl ol 19 l.length (rowOf l)] Try.func66 rfl Try.ntmps66 kL hq ?_
 refine g0 ?_
 refine gN fun b1 hb1 => ?_
 refine g0 ?_
 refine g_dec 7 (decide ((↑l.length : Int) > 2000)) kR (fun h7 => ?_) (fun h7 => ?_)
 ·exact absurd h7 (by clear hq; intro hx; first | (simp [] at hx; done) | (rw [← r.is Wf hW] at hx; simp at hx; omega) | (simp at hx; omega))
 refine gU 12 [] 1 ?_
 refine g_make 41 3 l.length 8 (.int .i64 0) kR kR kR (by omega) (by omega) fun b2 hb2 => ?_
 refine g0 ?_
 refine gN fun b3 hb3 => ?_
 refine gA (List.replicate 4 3) 0 ?_
 refine g_call (X := ThrR l) _ _ ?_ (fun _ => .bool (wholeB l (walk0 l))) (fun r => wkHp l b3 bl ol cl b2 r.W' r.base r.cap r.e ++ [.obj true b1 [.slice none 0 0, .slice none 0 0] 108]) (fun w hs => through_frame hl ((hs.dummy).pick [3, 0, 2, 4, 1] (by decide) (by simp only [wkHp, walkHp, walk0, behC_zeros]; kernel_rfl))) (fun r => ?_)
 ·kernel_rfl
 refine g0 ?_
 refine g_dec 16 (!wholeB l (walk0 l)) kR (fun h16 => ?_) (fun h16 => ?_)
 ·exact absurd h16 (by clear hq; intro hx; first | (simp [hw] at hx; done) | (rw [← r.is Wf hW] at hx; simp at hx; omega) | (simp at hx; omega))
 refine gA ([0]) 1 ?_
 refine g_dec 20 (decide (r.W'.d > 40)) kR (fun h20 => ?_) (fun h20 => ?_)
 ·exact absurd h20 (by clear hq; intro hx; first | (simp [] at hx; done) | (rw [← r.is Wf hW] at hx; simp at hx; omega) | (simp at hx; omega))
 refine gA ([0, 0] ++ [4, 4]) 1 ?_
 refine g_ret ([4, 4]) (Value.tuple (Array.mk [Value.agg (Array.mk [Value.slice (some (Addr.mk bl ol none)) l.length cl, Value.slice (some (Addr.mk b2 0 none)) l.length l.length]), Value.int IntKind.i64 0])) kR kR kR fun w' hs => ?_
 exact ⟨b2, rfl, hb2, by rw [r.is Wf hW]; exact hs.obj (i := 2) (o := true) kR, hs.kk⟩
end Go.Proofs.Ytcncfmjfgdbfeab
