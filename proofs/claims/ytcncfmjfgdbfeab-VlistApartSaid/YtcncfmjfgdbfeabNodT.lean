/- nodes: the walk through a list: the loop. -/
import Derived.Test.YtcncfmjfgdbfeabNodS
import Derived.Test.YtcncfmjfgdbfeabM7
namespace Go.Proofs.Ytcncfmjfgdbfeab
open Go.RowKit

def stepsL : List Value := [.nilFunc, .func (.func 103) #[] #[], .func (.func 103) #[] #[], .func (.func 103) #[] #[], .func (.func 104) #[] #[], .func (.func 104) #[] #[], .func (.func 105) #[] #[], .func (.func 103) #[] #[], .func (.func 103) #[] #[], .func (.func 103) #[] #[], .func (.func 104) #[] #[], .func (.func 106) #[] #[], .func (.func 103) #[] #[], .func (.func 104) #[] #[], .func (.func 103) #[] #[], .func (.func 103) #[] #[], .func (.func 103) #[] #[], .func (.func 104) #[] #[]]
set_option maxRecDepth 100000 in
set_option maxHeartbeats 4000000 in
theorem steps_any  (w : World) :
    Calls Try.prog 85 #[] w fun e w' => e = .returned (.agg stepsL.toArray) ∧ Kept w w' := by
  refine g_enter (args := []) [] [] Try.func85 rfl Try.ntmps85 (Nat.le_of_ble_eq_true (by kernel_rfl)) (sat0 w) ?_
  refine g_run 9999 [] 0 (by kernel_rfl) ?_
  refine g_new (fun b => by kernel_rfl) fun b0 hb0 => ?_
  refine g_run 9999 (List.replicate 18 0) 0 (by kernel_rfl) ?_
  refine g_ret (List.replicate 18 0) (Value.agg (Array.mk [Value.nilFunc, Value.func (Fn.func 103) (Array.mk []) (Array.mk []), Value.func (Fn.func 103) (Array.mk []) (Array.mk []), Value.func (Fn.func 103) (Array.mk []) (Array.mk []), Value.func (Fn.func 104) (Array.mk []) (Array.mk []), Value.func (Fn.func 104) (Array.mk []) (Array.mk []), Value.func (Fn.func 105) (Array.mk []) (Array.mk []), Value.func (Fn.func 103) (Array.mk []) (Array.mk []), Value.func (Fn.func 103) (Array.mk []) (Array.mk []), Value.func (Fn.func 103) (Array.mk []) (Array.mk []), Value.func (Fn.func 104) (Array.mk []) (Array.mk []), Value.func (Fn.func 106) (Array.mk []) (Array.mk []), Value.func (Fn.func 103) (Array.mk []) (Array.mk []), Value.func (Fn.func 104) (Array.mk []) (Array.mk []), Value.func (Fn.func 103) (Array.mk []) (Array.mk []), Value.func (Fn.func 103) (Array.mk []) (Array.mk []), Value.func (Fn.func 103) (Array.mk []) (Array.mk []), Value.func (Fn.func 104) (Array.mk []) (Array.mk [])])) (by kernel_rfl) (by kernel_rfl) (by kernel_rfl) fun w' hs => ?_
  exact ⟨by clear hs; rfl, hs.kept.kept⟩
/-- from a place on, so many nodes -/
def walkW (l : List Nod) : Nat → Nat → Wk → Option Wk
  | 0, _, W => some W
  | n + 1, at_, W => bif rightB (nth l at_) then (match stepW l at_ W with | some W' => walkW l n (at_ + 1) W' | none => none) else none
def wholeB (l : List Nod) (W : Wk) : Bool := match walkW l l.length 0 W with
  | some W' => decide (W'.os.length = 0)
  | none => false
/-- where the loop stands -/
structure RX (l : List Nod) (W0 : Wk) where
  at_ : Nat
  W : Wk
  base : Option Addr
  cap : Nat
  e : HE
  inv : Inv l at_ W base cap e
  le : at_ ≤ l.length
  run : walkW l (l.length - at_) at_ W = walkW l l.length 0 W0
theorem RX.end_ {l : List Nod} {W0 : Wk} (x : RX l W0) (h : x.at_ = l.length) : walkW l l.length 0 W0 = some x.W := by
  rw [← x.run, h, Nat.sub_self]; rfl
theorem RX.wrong {l : List Nod} {W0 : Wk} (x : RX l W0) (h : x.at_ < l.length) (hr : rightB (nth l x.at_) = false) : walkW l l.length 0 W0 = none := by
  rw [← x.run, show l.length - x.at_ = (l.length - x.at_ - 1) + 1 by omega]
  simp [walkW, hr]
theorem RX.stops {l : List Nod} {W0 : Wk} (x : RX l W0) (h : x.at_ < l.length) (hr : rightB (nth l x.at_) = true) (r : StepR l x.at_ x.W) (hk : r.ok = false) : walkW l l.length 0 W0 = none := by
  rw [← x.run, show l.length - x.at_ = (l.length - x.at_ - 1) + 1 by omega]
  have hn : stepW l x.at_ x.W = none := by
    have := r.is
    rw [hk] at this
    exact Option.isSome_eq_false_iff.1 this.symm |> Option.isNone_iff_eq_none.1
  simp [walkW, hr, hn]
def RX.next {l : List Nod} {W0 : Wk} (x : RX l W0) (h : x.at_ < l.length) (hr : rightB (nth l x.at_) = true) (r : StepR l x.at_ x.W) (hk : r.ok = true) : RX l W0 :=
  ⟨x.at_ + 1, r.W', r.base, r.cap, r.e, (r.good hk).2, h, by
    rw [← x.run, show l.length - x.at_ = (l.length - (x.at_ + 1)) + 1 by omega]
    simp [walkW, hr, (r.good hk).1]⟩
theorem step_frame {l : List Nod} {bw bl ol cl bb at_ : Nat} {W : Wk} {base : Option Addr} {cap : Nat} {e : HE} {w0 w : World} {bs : List Nat} {rest : List HE} {f : FuncId} {args : Array Value}
    (h : Sat w0 bs (wkHp l bw bl ol cl bb W base cap e ++ rest) w) (hc : Sat w (owned (wkHp l bw bl ol cl bb W base cap e)) (wkHp l bw bl ol cl bb W base cap e) w → Calls Try.prog f args w (StepQ l bw bl ol cl bb at_ W w (owned (wkHp l bw bl ol cl bb W base cap e)))) :
    Calls Try.prog f args w fun e' w' => ∃ r : StepR l at_ W, e' = .returned (.bool r.ok) ∧ Sat w0 bs (wkHp l bw bl ol cl bb r.W' r.base r.cap r.e ++ rest) w' := by
  have h0 : Sat w0 bs (wkHp l bw bl ol cl bb W base cap e) w := h.take 4
  refine (hc h0.rebase).mono ?_
  rintro e' w' ⟨r, rfl, hr⟩
  refine ⟨r, rfl, h.frame hr fun x hx => ?_⟩
  simp only [wkHp, walkHp, List.mem_cons, List.not_mem_nil, or_false] at hx ⊢
  rcases hx with rfl | rfl | rfl | rfl
  · exact .inl rfl
  · exact .inr (.inl (by simp))
  · exact .inl rfl
  · rcases r.eo with h1 | h1
    · exact .inl h1
    · exact .inr (.inr h1)
set_option maxRecDepth 100000 in
set_option maxHeartbeats 4000000 in
theorem through_any (l : List Nod) (bw bl ol cl bb : Nat) (w0 : World) (bs : List Nat) (base : Option Addr) (cap : Nat) (e : HE) (W : Wk) (w : World)
    (hq : Sat w0 bs (wkHp l bw bl ol cl bb W base cap e) w) (hI : Inv l 0 W base cap e) (hl : l.length ≤ 2000) :
    Calls Try.prog 76 #[.pointer (some ⟨bw, 0, none⟩)] w fun e' w' => e' = .returned (.bool (wholeB l W)) ∧
      ∃ W' base' cap' e2, (e2.own = true ∨ ¬ e2.live) ∧ (∀ Wf, walkW l l.length 0 W = some Wf → Wf = W') ∧ Sat w0 bs (wkHp l bw bl ol cl bb W' base' cap' e2) w' := by
  refine g_enter (args := [.pointer (some ⟨bw, 0, none⟩)]) (owned (wkHp l bw bl ol cl bb W base cap e)) (wkHp l bw bl ol cl bb W base cap e) Try.func76 rfl Try.ntmps76 (Nat.le_of_ble_eq_true (by kernel_rfl)) hq.rebase ?_
  refine g_run 9999 [] 0 (by kernel_rfl) ?_
  refine g_callq _ _ _ ?_ (fun w hs => rights_any w) ?_
  · kernel_rfl
  refine g_callq _ _ _ ?_ (fun w hs => steps_any w) ?_
  · kernel_rfl
  refine g_new (fun b => by kernel_rfl) fun b4 hb4 => ?_
  refine g_new (fun b => by kernel_rfl) fun b5 hb5 => ?_
  refine g_run 9999 (List.replicate 18 4 ++ List.replicate 18 5) 0 (by kernel_rfl) ?_
  refine g_loopN (X := RX l W) (fun x => [(5, .int .i64 (x.at_ : Int)), (2, .bool false)]) (fun x => wkHp l bw bl ol cl bb x.W x.base x.cap x.e ++ [.obj true b4 rulesL 131, .obj true b5 stepsL 134]) (fun x => l.length - x.at_)
    ⟨0, W, base, cap, e, hI, Nat.zero_le _, rfl⟩ (by kernel_rfl) (by unfold Known; kernel_rfl) (by kernel_rfl) fun x N hN => ?_
  have hle := x.le
  by_cases hA : x.at_ = l.length
  · refine g_run 9999 ([0]) 0 (by kernel_rfl) ?_
    refine g_dec 10 ((↑x.at_ : Int) == (↑l.length : Int)) (by kernel_rfl) (fun h10 => ?_) (fun h10 => ?_)
    · refine g_run 9999 ([0]) 1 (by kernel_rfl) ?_
      refine g_ret [] (Value.bool ((↑x.W.os.length : Int) == 0)) (by kernel_rfl) (by kernel_rfl) (by kernel_rfl) fun w' hs => ?_
      exact ⟨by rw [wholeB, x.end_ hA]; exact ret_bool (by clear hs hN hq; show ((x.W.os.length : Int) == 0) = decide (x.W.os.length = 0); rw [Bool.eq_iff_iff]; simp only [beq_iff_eq, decide_eq_true_eq]; omega), x.W, x.base, x.cap, x.e, x.inv.eo, fun Wf hf => by rw [x.end_ hA] at hf; exact (Option.some.inj hf).symm, hq.unbase ((hs.take 4).at (by kernel_rfl))⟩
    · exact absurd h10 (by clear hN hq; intro hx; first | (exact hne (eq_of_beq hx)) | (simp [hr] at hx; done) | (simp [hA] at hx; done) | (clear hx; omega))
  have hB : x.at_ < l.length := by omega
  have hne : (x.at_ : Int) ≠ (l.length : Int) := by omega
  cases hr : rightB (nth l x.at_) with
  | false =>
    refine g_run 9999 ([0]) 0 (by kernel_rfl) ?_
    refine g_dec 10 ((↑x.at_ : Int) == (↑l.length : Int)) (by kernel_rfl) (fun h10 => ?_) (fun h10 => ?_)
    · exact absurd h10 (by clear hN hq; intro hx; first | (exact hne (eq_of_beq hx)) | (simp [hr] at hx; done) | (simp [hA] at hx; done) | (clear hx; omega))
    · refine g_run 32 ([0]) 1 (by kernel_rfl) ?_
      refine g_val _ _ ?_ (fun w _hs => idx_run (P := Try.prog) (T := 22) (E := 55) (b := bl) (o := ol) (n := l.length) (c := cl) (k := x.at_) (sz := 19) (kk := .i64) w (by kernel_rfl) (by kernel_rfl) hB) ?_
      · kernel_rfl
      refine g_val _ _ ?_ (fun w _hs => Sat.rowload (T := 55) (i := 1) (b := bl) (off := ol) (sz := 19) (n := l.length) (k := x.at_) (f := rowOf l) _hs (by kernel_rfl) hB (by kernel_rfl) (by kernel_rfl) rfl) ?_
      · kernel_rfl
      refine g_callq _ _ _ ?_ (fun w hs => hold_any b4 (nth l x.at_) w (hs.obj (o := true) (i := 4) (by kernel_rfl))) ?_
      · kernel_rfl
      refine g_run 9999 [] 0 (by kernel_rfl) ?_
      refine g_dec 25 (!rightB (nth l x.at_)) (by kernel_rfl) (fun h25 => ?_) (fun h25 => ?_)
      · refine g_run 9999 [] 2 (by kernel_rfl) ?_
        refine g_ret [] (Value.bool false) (by kernel_rfl) (by kernel_rfl) (by kernel_rfl) fun w' hs => ?_
        exact ⟨by rw [wholeB, x.wrong hB hr], x.W, x.base, x.cap, x.e, x.inv.eo, fun Wf hf => by (rw [x.wrong hB hr] at hf; cases hf), hq.unbase ((hs.take 4).at (by kernel_rfl))⟩
      · exact absurd h25 (by clear hN hq; intro hx; first | (exact hne (eq_of_beq hx)) | (simp [hr] at hx; done) | (simp [hA] at hx; done) | (clear hx; omega))
  | true =>
    have hkk : ∃ k : Nat, (nth l x.at_).kind = (k : Int) ∧ 1 ≤ k ∧ k < 18 := by
      refine ⟨(nth l x.at_).kind.toNat, ?_⟩
      have : ¬ ((nth l x.at_).kind < 1 ∨ 17 < (nth l x.at_).kind) := fun h => by rw [rightB_no _ h] at hr; cases hr
      omega
    obtain ⟨k, hkk, hk1, hk18⟩ := hkk
    have hkv : (rowOf l x.at_)[0]? = some (.int .i64 (k : Int)) := by rw [← hkk]; rfl
    by_cases h6 : k = 6
    · skip
      have hv : stepsL[0 + k * 1]? = some (.func (.func 105) #[] #[]) := by subst h6; rfl
      refine g_run 9999 ([0]) 0 (by kernel_rfl) ?_
      refine g_dec 10 ((↑x.at_ : Int) == (↑l.length : Int)) (by kernel_rfl) (fun h10 => ?_) (fun h10 => ?_)
      · exact absurd h10 (by clear hN hq; intro hx; first | (exact hne (eq_of_beq hx)) | (simp [hr] at hx; done) | (simp [hA] at hx; done) | (clear hx; omega))
      · refine g_run 32 ([0]) 1 (by kernel_rfl) ?_
        refine g_val _ _ ?_ (fun w _hs => idx_run (P := Try.prog) (T := 22) (E := 55) (b := bl) (o := ol) (n := l.length) (c := cl) (k := x.at_) (sz := 19) (kk := .i64) w (by kernel_rfl) (by kernel_rfl) hB) ?_
        · kernel_rfl
        refine g_val _ _ ?_ (fun w _hs => Sat.rowload (T := 55) (i := 1) (b := bl) (off := ol) (sz := 19) (n := l.length) (k := x.at_) (f := rowOf l) _hs (by kernel_rfl) hB (by kernel_rfl) (by kernel_rfl) rfl) ?_
        · kernel_rfl
        refine g_callq _ _ _ ?_ (fun w hs => hold_any b4 (nth l x.at_) w (hs.obj (o := true) (i := 4) (by kernel_rfl))) ?_
        · kernel_rfl
        refine g_run 9999 [] 0 (by kernel_rfl) ?_
        refine g_dec 25 (!rightB (nth l x.at_)) (by kernel_rfl) (fun h25 => ?_) (fun h25 => ?_)
        · exact absurd h25 (by clear hN hq; intro hx; first | (exact hne (eq_of_beq hx)) | (simp [hr] at hx; done) | (simp [hA] at hx; done) | (clear hx; omega))
        · refine g_run 42 ([0]) 1 (by kernel_rfl) ?_
          refine g_val _ _ ?_ (fun w _hs => idx_run (P := Try.prog) (T := 22) (E := 55) (b := bl) (o := ol) (n := l.length) (c := cl) (k := x.at_) (sz := 19) (kk := .i64) w (by kernel_rfl) (by kernel_rfl) hB) ?_
          · kernel_rfl
          refine g_run 44 [] 0 (by kernel_rfl) ?_
          refine g_val _ _ ?_ (fun w _hs => Sat.rowload1 (T := 3) (i := 1) (b := bl) (off := ol) (sz := 19) (n := l.length) (k := x.at_) (j := 0) (f := rowOf l) (v := .int .i64 (k : Int)) _hs (by kernel_rfl) hB (by kernel_rfl) hkv) ?_
          · kernel_rfl
          refine g_val _ _ ?_ (fun w _hs => arr_run (P := Try.prog) (T := 134) (E := 133) (b := b5) (o := 0) (n := 18) (k := k) (sz := 1) (kk := .i64) w (by kernel_rfl) (by kernel_rfl) hk18) ?_
          · kernel_rfl
          refine g_val _ _ ?_ (fun w _hs => Sat.objload1 (T := 133) (T' := 134) (i := 5) (b := b5) (k := 0 + k * 1) (own := true) (cs := stepsL) (v := .func (.func 105) #[] #[]) _hs (by kernel_rfl) hv (by kernel_rfl)) ?_
          · kernel_rfl
          refine g_run 9999 [] 0 (by kernel_rfl) ?_
          refine g_call (X := StepR l x.at_ x.W) _ _ ?_ (fun r => .bool r.ok) (fun r => wkHp l bw bl ol cl bb r.W' r.base r.cap r.e ++ [.obj true b4 rulesL 131, .obj true b5 stepsL 134]) (fun w hs => step_frame (hs.at (by kernel_rfl)) fun hs => step_leave l bw bl ol cl bb _ _ _ _ x.at_ _ _ w hs x.inv hB hl (by rw [hkk, h6]; rfl)) (fun r => ?_)
          · kernel_rfl
          refine g_run 9999 [] 0 (by kernel_rfl) ?_
          refine g_dec 25 (!r.ok) (by kernel_rfl) (fun h25 => ?_) (fun h25 => ?_)
          · refine g_run 9999 [] 1 (by kernel_rfl) ?_
            refine g_ret [] (Value.bool false) (by kernel_rfl) (by kernel_rfl) (by kernel_rfl) fun w' hs => ?_
            exact ⟨by rw [wholeB, x.stops hB hr r (by simpa using h25)], r.W', r.base, r.cap, r.e, r.eo, fun Wf hf => by (rw [x.stops hB hr r (by simpa using h25)] at hf; cases hf), hq.unbase ((hs.take 4).at (by kernel_rfl))⟩
          · refine g_run 9 [] 1 (by kernel_rfl) ?_
            refine g_val _ _ ?_ (fun w _hs => nat_succ (P := Try.prog) (t := 3) (x := .tmp 8) (y := .const (.int .i64 1)) (m := x.at_) (w := w) (by kernel_rfl) (by omega)) ?_
            · kernel_rfl
            refine g_run 9999 [] 0 (by kernel_rfl) ?_
            refine g_hook (hN (x.next hB hr r (by simpa using h25)) (by simp only [RX.next]; omega)) (by kernel_rfl) (by kernel_rfl) (by kernel_rfl) (by unfold Known; kernel_rfl) (by kernel_rfl) (by kernel_rfl)
    by_cases h11 : k = 11
    · skip
      have hv : stepsL[0 + k * 1]? = some (.func (.func 106) #[] #[]) := by subst h11; rfl
      refine g_run 9999 ([0]) 0 (by kernel_rfl) ?_
      refine g_dec 10 ((↑x.at_ : Int) == (↑l.length : Int)) (by kernel_rfl) (fun h10 => ?_) (fun h10 => ?_)
      · exact absurd h10 (by clear hN hq; intro hx; first | (exact hne (eq_of_beq hx)) | (simp [hr] at hx; done) | (simp [hA] at hx; done) | (clear hx; omega))
      · refine g_run 32 ([0]) 1 (by kernel_rfl) ?_
        refine g_val _ _ ?_ (fun w _hs => idx_run (P := Try.prog) (T := 22) (E := 55) (b := bl) (o := ol) (n := l.length) (c := cl) (k := x.at_) (sz := 19) (kk := .i64) w (by kernel_rfl) (by kernel_rfl) hB) ?_
        · kernel_rfl
        refine g_val _ _ ?_ (fun w _hs => Sat.rowload (T := 55) (i := 1) (b := bl) (off := ol) (sz := 19) (n := l.length) (k := x.at_) (f := rowOf l) _hs (by kernel_rfl) hB (by kernel_rfl) (by kernel_rfl) rfl) ?_
        · kernel_rfl
        refine g_callq _ _ _ ?_ (fun w hs => hold_any b4 (nth l x.at_) w (hs.obj (o := true) (i := 4) (by kernel_rfl))) ?_
        · kernel_rfl
        refine g_run 9999 [] 0 (by kernel_rfl) ?_
        refine g_dec 25 (!rightB (nth l x.at_)) (by kernel_rfl) (fun h25 => ?_) (fun h25 => ?_)
        · exact absurd h25 (by clear hN hq; intro hx; first | (exact hne (eq_of_beq hx)) | (simp [hr] at hx; done) | (simp [hA] at hx; done) | (clear hx; omega))
        · refine g_run 42 ([0]) 1 (by kernel_rfl) ?_
          refine g_val _ _ ?_ (fun w _hs => idx_run (P := Try.prog) (T := 22) (E := 55) (b := bl) (o := ol) (n := l.length) (c := cl) (k := x.at_) (sz := 19) (kk := .i64) w (by kernel_rfl) (by kernel_rfl) hB) ?_
          · kernel_rfl
          refine g_run 44 [] 0 (by kernel_rfl) ?_
          refine g_val _ _ ?_ (fun w _hs => Sat.rowload1 (T := 3) (i := 1) (b := bl) (off := ol) (sz := 19) (n := l.length) (k := x.at_) (j := 0) (f := rowOf l) (v := .int .i64 (k : Int)) _hs (by kernel_rfl) hB (by kernel_rfl) hkv) ?_
          · kernel_rfl
          refine g_val _ _ ?_ (fun w _hs => arr_run (P := Try.prog) (T := 134) (E := 133) (b := b5) (o := 0) (n := 18) (k := k) (sz := 1) (kk := .i64) w (by kernel_rfl) (by kernel_rfl) hk18) ?_
          · kernel_rfl
          refine g_val _ _ ?_ (fun w _hs => Sat.objload1 (T := 133) (T' := 134) (i := 5) (b := b5) (k := 0 + k * 1) (own := true) (cs := stepsL) (v := .func (.func 106) #[] #[]) _hs (by kernel_rfl) hv (by kernel_rfl)) ?_
          · kernel_rfl
          refine g_run 9999 [] 0 (by kernel_rfl) ?_
          refine g_call (X := StepR l x.at_ x.W) _ _ ?_ (fun r => .bool r.ok) (fun r => wkHp l bw bl ol cl bb r.W' r.base r.cap r.e ++ [.obj true b4 rulesL 131, .obj true b5 stepsL 134]) (fun w hs => step_frame (hs.at (by kernel_rfl)) fun hs => step_part l bw bl ol cl bb _ _ _ _ x.at_ _ _ w hs x.inv hB hl (by rw [hkk, h11]; rfl)) (fun r => ?_)
          · kernel_rfl
          refine g_run 9999 [] 0 (by kernel_rfl) ?_
          refine g_dec 25 (!r.ok) (by kernel_rfl) (fun h25 => ?_) (fun h25 => ?_)
          · refine g_run 9999 [] 1 (by kernel_rfl) ?_
            refine g_ret [] (Value.bool false) (by kernel_rfl) (by kernel_rfl) (by kernel_rfl) fun w' hs => ?_
            exact ⟨by rw [wholeB, x.stops hB hr r (by simpa using h25)], r.W', r.base, r.cap, r.e, r.eo, fun Wf hf => by (rw [x.stops hB hr r (by simpa using h25)] at hf; cases hf), hq.unbase ((hs.take 4).at (by kernel_rfl))⟩
          · refine g_run 9 [] 1 (by kernel_rfl) ?_
            refine g_val _ _ ?_ (fun w _hs => nat_succ (P := Try.prog) (t := 3) (x := .tmp 8) (y := .const (.int .i64 1)) (m := x.at_) (w := w) (by kernel_rfl) (by omega)) ?_
            · kernel_rfl
            refine g_run 9999 [] 0 (by kernel_rfl) ?_
            refine g_hook (hN (x.next hB hr r (by simpa using h25)) (by simp only [RX.next]; omega)) (by kernel_rfl) (by kernel_rfl) (by kernel_rfl) (by unfold Known; kernel_rfl) (by kernel_rfl) (by kernel_rfl)
    cases hen : enters (k : Int) with
    | true =>
      have hv : stepsL[0 + k * 1]? = some (.func (.func 104) #[] #[]) := by
        simp only [enters, Bool.or_eq_true, decide_eq_true_eq] at hen
        have : k = 4 ∨ k = 5 ∨ k = 10 ∨ k = 13 ∨ k = 17 := by omega
        rcases this with rfl | rfl | rfl | rfl | rfl <;> rfl
      refine g_run 9999 ([0]) 0 (by kernel_rfl) ?_
      refine g_dec 10 ((↑x.at_ : Int) == (↑l.length : Int)) (by kernel_rfl) (fun h10 => ?_) (fun h10 => ?_)
      · exact absurd h10 (by clear hN hq; intro hx; first | (exact hne (eq_of_beq hx)) | (simp [hr] at hx; done) | (simp [hA] at hx; done) | (clear hx; omega))
      · refine g_run 32 ([0]) 1 (by kernel_rfl) ?_
        refine g_val _ _ ?_ (fun w _hs => idx_run (P := Try.prog) (T := 22) (E := 55) (b := bl) (o := ol) (n := l.length) (c := cl) (k := x.at_) (sz := 19) (kk := .i64) w (by kernel_rfl) (by kernel_rfl) hB) ?_
        · kernel_rfl
        refine g_val _ _ ?_ (fun w _hs => Sat.rowload (T := 55) (i := 1) (b := bl) (off := ol) (sz := 19) (n := l.length) (k := x.at_) (f := rowOf l) _hs (by kernel_rfl) hB (by kernel_rfl) (by kernel_rfl) rfl) ?_
        · kernel_rfl
        refine g_callq _ _ _ ?_ (fun w hs => hold_any b4 (nth l x.at_) w (hs.obj (o := true) (i := 4) (by kernel_rfl))) ?_
        · kernel_rfl
        refine g_run 9999 [] 0 (by kernel_rfl) ?_
        refine g_dec 25 (!rightB (nth l x.at_)) (by kernel_rfl) (fun h25 => ?_) (fun h25 => ?_)
        · exact absurd h25 (by clear hN hq; intro hx; first | (exact hne (eq_of_beq hx)) | (simp [hr] at hx; done) | (simp [hA] at hx; done) | (clear hx; omega))
        · refine g_run 42 ([0]) 1 (by kernel_rfl) ?_
          refine g_val _ _ ?_ (fun w _hs => idx_run (P := Try.prog) (T := 22) (E := 55) (b := bl) (o := ol) (n := l.length) (c := cl) (k := x.at_) (sz := 19) (kk := .i64) w (by kernel_rfl) (by kernel_rfl) hB) ?_
          · kernel_rfl
          refine g_run 44 [] 0 (by kernel_rfl) ?_
          refine g_val _ _ ?_ (fun w _hs => Sat.rowload1 (T := 3) (i := 1) (b := bl) (off := ol) (sz := 19) (n := l.length) (k := x.at_) (j := 0) (f := rowOf l) (v := .int .i64 (k : Int)) _hs (by kernel_rfl) hB (by kernel_rfl) hkv) ?_
          · kernel_rfl
          refine g_val _ _ ?_ (fun w _hs => arr_run (P := Try.prog) (T := 134) (E := 133) (b := b5) (o := 0) (n := 18) (k := k) (sz := 1) (kk := .i64) w (by kernel_rfl) (by kernel_rfl) hk18) ?_
          · kernel_rfl
          refine g_val _ _ ?_ (fun w _hs => Sat.objload1 (T := 133) (T' := 134) (i := 5) (b := b5) (k := 0 + k * 1) (own := true) (cs := stepsL) (v := .func (.func 104) #[] #[]) _hs (by kernel_rfl) hv (by kernel_rfl)) ?_
          · kernel_rfl
          refine g_run 9999 [] 0 (by kernel_rfl) ?_
          refine g_call (X := StepR l x.at_ x.W) _ _ ?_ (fun r => .bool r.ok) (fun r => wkHp l bw bl ol cl bb r.W' r.base r.cap r.e ++ [.obj true b4 rulesL 131, .obj true b5 stepsL 134]) (fun w hs => step_frame (hs.at (by kernel_rfl)) fun hs => step_enter l bw bl ol cl bb _ _ _ _ x.at_ _ _ w hs x.inv hB hl (by rw [hkk]; exact hen)) (fun r => ?_)
          · kernel_rfl
          refine g_run 9999 [] 0 (by kernel_rfl) ?_
          refine g_dec 25 (!r.ok) (by kernel_rfl) (fun h25 => ?_) (fun h25 => ?_)
          · refine g_run 9999 [] 1 (by kernel_rfl) ?_
            refine g_ret [] (Value.bool false) (by kernel_rfl) (by kernel_rfl) (by kernel_rfl) fun w' hs => ?_
            exact ⟨by rw [wholeB, x.stops hB hr r (by simpa using h25)], r.W', r.base, r.cap, r.e, r.eo, fun Wf hf => by (rw [x.stops hB hr r (by simpa using h25)] at hf; cases hf), hq.unbase ((hs.take 4).at (by kernel_rfl))⟩
          · refine g_run 9 [] 1 (by kernel_rfl) ?_
            refine g_val _ _ ?_ (fun w _hs => nat_succ (P := Try.prog) (t := 3) (x := .tmp 8) (y := .const (.int .i64 1)) (m := x.at_) (w := w) (by kernel_rfl) (by omega)) ?_
            · kernel_rfl
            refine g_run 9999 [] 0 (by kernel_rfl) ?_
            refine g_hook (hN (x.next hB hr r (by simpa using h25)) (by simp only [RX.next]; omega)) (by kernel_rfl) (by kernel_rfl) (by kernel_rfl) (by unfold Known; kernel_rfl) (by kernel_rfl) (by kernel_rfl)
    | false =>
      have hv : stepsL[0 + k * 1]? = some (.func (.func 103) #[] #[]) := by
        simp only [enters, Bool.or_eq_false_iff, decide_eq_false_iff_not] at hen
        have : k = 1 ∨ k = 2 ∨ k = 3 ∨ k = 7 ∨ k = 8 ∨ k = 9 ∨ k = 12 ∨ k = 14 ∨ k = 15 ∨ k = 16 := by omega
        rcases this with rfl | rfl | rfl | rfl | rfl | rfl | rfl | rfl | rfl | rfl <;> rfl
      refine g_run 9999 ([0]) 0 (by kernel_rfl) ?_
      refine g_dec 10 ((↑x.at_ : Int) == (↑l.length : Int)) (by kernel_rfl) (fun h10 => ?_) (fun h10 => ?_)
      · exact absurd h10 (by clear hN hq; intro hx; first | (exact hne (eq_of_beq hx)) | (simp [hr] at hx; done) | (simp [hA] at hx; done) | (clear hx; omega))
      · refine g_run 32 ([0]) 1 (by kernel_rfl) ?_
        refine g_val _ _ ?_ (fun w _hs => idx_run (P := Try.prog) (T := 22) (E := 55) (b := bl) (o := ol) (n := l.length) (c := cl) (k := x.at_) (sz := 19) (kk := .i64) w (by kernel_rfl) (by kernel_rfl) hB) ?_
        · kernel_rfl
        refine g_val _ _ ?_ (fun w _hs => Sat.rowload (T := 55) (i := 1) (b := bl) (off := ol) (sz := 19) (n := l.length) (k := x.at_) (f := rowOf l) _hs (by kernel_rfl) hB (by kernel_rfl) (by kernel_rfl) rfl) ?_
        · kernel_rfl
        refine g_callq _ _ _ ?_ (fun w hs => hold_any b4 (nth l x.at_) w (hs.obj (o := true) (i := 4) (by kernel_rfl))) ?_
        · kernel_rfl
        refine g_run 9999 [] 0 (by kernel_rfl) ?_
        refine g_dec 25 (!rightB (nth l x.at_)) (by kernel_rfl) (fun h25 => ?_) (fun h25 => ?_)
        · exact absurd h25 (by clear hN hq; intro hx; first | (exact hne (eq_of_beq hx)) | (simp [hr] at hx; done) | (simp [hA] at hx; done) | (clear hx; omega))
        · refine g_run 42 ([0]) 1 (by kernel_rfl) ?_
          refine g_val _ _ ?_ (fun w _hs => idx_run (P := Try.prog) (T := 22) (E := 55) (b := bl) (o := ol) (n := l.length) (c := cl) (k := x.at_) (sz := 19) (kk := .i64) w (by kernel_rfl) (by kernel_rfl) hB) ?_
          · kernel_rfl
          refine g_run 44 [] 0 (by kernel_rfl) ?_
          refine g_val _ _ ?_ (fun w _hs => Sat.rowload1 (T := 3) (i := 1) (b := bl) (off := ol) (sz := 19) (n := l.length) (k := x.at_) (j := 0) (f := rowOf l) (v := .int .i64 (k : Int)) _hs (by kernel_rfl) hB (by kernel_rfl) hkv) ?_
          · kernel_rfl
          refine g_val _ _ ?_ (fun w _hs => arr_run (P := Try.prog) (T := 134) (E := 133) (b := b5) (o := 0) (n := 18) (k := k) (sz := 1) (kk := .i64) w (by kernel_rfl) (by kernel_rfl) hk18) ?_
          · kernel_rfl
          refine g_val _ _ ?_ (fun w _hs => Sat.objload1 (T := 133) (T' := 134) (i := 5) (b := b5) (k := 0 + k * 1) (own := true) (cs := stepsL) (v := .func (.func 103) #[] #[]) _hs (by kernel_rfl) hv (by kernel_rfl)) ?_
          · kernel_rfl
          refine g_run 9999 [] 0 (by kernel_rfl) ?_
          refine g_call (X := StepR l x.at_ x.W) _ _ ?_ (fun r => .bool r.ok) (fun r => wkHp l bw bl ol cl bb r.W' r.base r.cap r.e ++ [.obj true b4 rulesL 131, .obj true b5 stepsL 134]) (fun w hs => step_frame (hs.at (by kernel_rfl)) fun hs => step_stand l bw bl ol cl bb _ _ _ _ x.at_ _ _ w hs x.inv hB hl (by rw [hkk]; omega) (by rw [hkk]; omega) (by rw [hkk]; exact hen)) (fun r => ?_)
          · kernel_rfl
          refine g_run 9999 [] 0 (by kernel_rfl) ?_
          refine g_dec 25 (!r.ok) (by kernel_rfl) (fun h25 => ?_) (fun h25 => ?_)
          · refine g_run 9999 [] 1 (by kernel_rfl) ?_
            refine g_ret [] (Value.bool false) (by kernel_rfl) (by kernel_rfl) (by kernel_rfl) fun w' hs => ?_
            exact ⟨by rw [wholeB, x.stops hB hr r (by simpa using h25)], r.W', r.base, r.cap, r.e, r.eo, fun Wf hf => by (rw [x.stops hB hr r (by simpa using h25)] at hf; cases hf), hq.unbase ((hs.take 4).at (by kernel_rfl))⟩
          · refine g_run 9 [] 1 (by kernel_rfl) ?_
            refine g_val _ _ ?_ (fun w _hs => nat_succ (P := Try.prog) (t := 3) (x := .tmp 8) (y := .const (.int .i64 1)) (m := x.at_) (w := w) (by kernel_rfl) (by omega)) ?_
            · kernel_rfl
            refine g_run 9999 [] 0 (by kernel_rfl) ?_
            refine g_hook (hN (x.next hB hr r (by simpa using h25)) (by simp only [RX.next]; omega)) (by kernel_rfl) (by kernel_rfl) (by kernel_rfl) (by unfold Known; kernel_rfl) (by kernel_rfl) (by kernel_rfl)
end Go.Proofs.Ytcncfmjfgdbfeab
