/- nodes: a walk's opens and Ends are as many; a list without one of them is none; of no list. -/
import Derived.Test.YtdadfhhcfmdfkaaNodX
import Derived.Test.YtdadfhhcfmdfkaaFast11
import Derived.Test.YtdadfhhcfmdfkaaRun5
namespace Go.Proofs.Ytdadfhhcfmdfkaa
open Go.RowKit

def balN (n : Nod) : Int := if n.kind = 6 then -1 else if enters n.kind then 1 else 0
theorem step_bal {l : List Nod} {at_ : Nat} {W W' : Wk} (h : stepW l at_ W = some W') : (W'.os.length : Int) = W.os.length + balN (nth l at_) := by
  unfold stepW at h
  by_cases h6 : (nth l at_).kind = 6
  · simp only [h6, decide_true, cond_true] at h
    unfold leaveW at h
    split at h
    · cases h
    · rename_i p hp
      cases hb : (inDiscB l W.os && !decide (p.2 = 2)) with
      | true => rw [hb] at h; cases h
      | false =>
        rw [hb] at h
        simp only [cond_false, Option.some.injEq] at h
        subst h
        have hne : W.os ≠ [] := fun e => by rw [e] at hp; cases hp
        have := List.length_pos_iff.2 hne
        simp only [List.length_dropLast, balN, h6, if_true]
        omega
  · simp only [h6, decide_false, cond_false] at h
    have hb6 : balN (nth l at_) = if enters (nth l at_).kind then 1 else 0 := by simp [balN, h6]
    by_cases h11 : (nth l at_).kind = 11
    · simp only [h11, decide_true, cond_true] at h
      have hen : enters (nth l at_).kind = false := by rw [h11]; rfl
      rw [hb6, hen]
      unfold partW at h
      split at h
      · cases h
      · rename_i p hp
        cases hb : (inDiscB l W.os && decide (p.2 + 1 ≤ 2)) with
        | false => rw [hb] at h; cases h
        | true =>
          rw [hb] at h
          simp only [cond_true, Option.some.injEq] at h
          subst h
          have hne : W.os ≠ [] := fun e => by rw [e] at hp; cases hp
          have := List.length_pos_iff.2 hne
          simp only [List.length_append, List.length_dropLast, List.length_cons, List.length_nil, Bool.false_eq_true, if_false]
          omega
    · simp only [h11, decide_false, cond_false] at h
      cases hb : (!inDiscB l W.os || brokenB (nth l at_)) with
      | false => rw [hb] at h; cases h
      | true =>
        rw [hb, cond_true, Option.some.injEq] at h
        subst h
        rw [hb6]
        cases enters (nth l at_).kind with
        | true => simp
        | false => simp
def balL (l : List Nod) : Nat → Nat → Int
  | 0, _ => 0
  | n + 1, at_ => balN (nth l at_) + balL l n (at_ + 1)
theorem walk_bal {l : List Nod} : ∀ {n at_ : Nat} {W W' : Wk}, walkW l n at_ W = some W' → (W'.os.length : Int) = W.os.length + balL l n at_
  | 0, at_, W, W', h => by
    simp only [walkW, Option.some.injEq] at h
    subst h; simp [balL]
  | n + 1, at_, W, W', h => by
    unfold walkW at h
    cases hr : rightB (nth l at_) with
    | false => rw [hr] at h; cases h
    | true =>
      rw [hr, cond_true] at h
      split at h
      · rename_i W1 h1
        have h2 := step_bal h1
        have h3 := walk_bal h
        rw [h3, h2, balL]
        omega
      · cases h
theorem balL_sum (l : List Nod) : ∀ (n at_ : Nat), at_ + n = l.length → balL l n at_ = ((l.drop at_).map balN).sum
  | 0, at_, h => by
    rw [List.drop_eq_nil_of_le (by omega)]; rfl
  | n + 1, at_, h => by
    have hlt : at_ < l.length := by omega
    have e : nth l at_ = l[at_] := by simp [nth, hlt]
    rw [balL, balL_sum l n (at_ + 1) (by omega), List.drop_eq_getElem_cons hlt, List.map_cons, List.sum_cons, e]
theorem sum_erase {f : Nod → Int} : ∀ {l : List Nod} {k : Nat} (hk : k < l.length), (l.map f).sum = f l[k] + ((l.eraseIdx k).map f).sum
  | [], _, hk => by simp at hk
  | x :: l, 0, _ => by simp
  | x :: l, k + 1, hk => by
    have := sum_erase (f := f) (l := l) (k := k) (by simpa using hk)
    simp only [List.map_cons, List.sum_cons, List.eraseIdx_cons_succ, List.getElem_cons_succ]
    omega
theorem check_zero {l : List Nod} (h : checkB l = 0) : l.length ≤ 2000 ∧ (l.map balN).sum = 0 := by
  unfold checkB at h
  by_cases hl : 2000 < l.length
  · simp [hl] at h
  · simp only [hl, decide_false, cond_false] at h
    refine ⟨by omega, ?_⟩
    split at h
    · cases h
    · rename_i W hW
      by_cases ho : W.os.length = 0
      · have h1 := walk_bal hW
        rw [balL_sum l l.length 0 (by omega), List.drop_zero, ho] at h1
        simpa [walk0] using h1.symm
      · simp [ho] at h
theorem check_broken {l : List Nod} {k : Nat} (h : checkB l = 0) (hk : k < l.length) (hb : balN (nth l k) ≠ 0) : checkB (l.eraseIdx k) = 50 := by
  obtain ⟨h1, h2⟩ := check_zero h
  have h3 := sum_erase (f := balN) hk
  have h4 : nth l k = l[k] := by simp [nth, hk]
  rw [h4] at hb
  have hlen : (l.eraseIdx k).length = l.length - 1 := by rw [List.length_eraseIdx]; simp [hk]
  unfold checkB
  have hl : ¬ 2000 < (l.eraseIdx k).length := by omega
  simp only [hl, decide_false, cond_false]
  split
  · rfl
  · rename_i W hW
    have h5 := walk_bal hW
    rw [balL_sum _ _ 0 (by omega), List.drop_zero] at h5
    have h6 : ((walk0 (l.eraseIdx k)).os.length : Int) = 0 := rfl
    have ho : ¬ W.os.length = 0 := by omega
    simp [ho]
theorem bal_ne {n : Nod} (h : enters n.kind = true ∨ n.kind = 6) : balN n ≠ 0 := by
  unfold balN
  by_cases h6 : n.kind = 6
  · simp [h6]
  · rcases h with h | h
    · simp [h6, h]
    · exact absurd h h6
/-- the cells of a list without one node -/
theorem rows_erase (l : List Nod) {k : Nat} (hk : k < l.length) : rowsL (rowOf l) 0 k ++ rowsL (rowOf l) (k + 1) (l.length - (k + 1)) = rowsL (rowOf (l.eraseIdx k)) 0 (l.eraseIdx k).length := by
  have hlen : (l.eraseIdx k).length = l.length - 1 := by rw [List.length_eraseIdx]; simp [hk]
  have e : ∀ (f g : Nat → List Value) (s t m : Nat), (∀ q, q < m → f (s + q) = g (t + q)) → rowsL f s m = rowsL g t m := fun f g s t m h => by
    induction m with
    | zero => simp [rowsL]
    | succ m ih => rw [rowsL_succ, rowsL_succ, ih (fun q hq => h q (by omega)), h m (by omega)]
  have sp : ∀ (f : Nat → List Value) (s m n : Nat), rowsL f s (m + n) = rowsL f s m ++ rowsL f (s + m) n := fun f s m n => by
    induction n with
    | zero => simp [rowsL]
    | succ n ih => rw [← Nat.add_assoc, rowsL_succ, ih, rowsL_succ, List.append_assoc, Nat.add_assoc]
  rw [hlen, show l.length - 1 = k + (l.length - (k + 1)) by omega, sp]
  congr 1
  · refine e _ _ _ _ _ fun q hq => ?_
    simp only [rowOf, nth, Nat.zero_add]
    rw [List.getD_eq_getElem?_getD, List.getD_eq_getElem?_getD, List.getElem?_eraseIdx_of_lt hq]
  · refine e _ _ _ _ _ fun q hq => ?_
    simp only [rowOf, nth, Nat.zero_add]
    rw [List.getD_eq_getElem?_getD, List.getD_eq_getElem?_getD, List.getElem?_eraseIdx_of_ge (show k ≤ k + q by omega), show k + 1 + q = k + q + 1 by omega]
theorem check_nil (w : World) : Calls Try.prog 45 #[.slice none 0 0] w fun e w' => e = .returned (.int .i64 0) ∧ Kept w w' :=
  Run.closed (P := Try.prog) (by kernel_rfl) (args := [.slice none 0 0]) (Run.unpack 4096 125 0x8008001001001001003003003003003007007007007007007007007007007007007007000007007007007007006006006006006006006006006006006006006006006006006006005005005005005005005005005005005005005005005005005005005005005005005005005005005000005005005005005005005005005004004004004004004004004004004004004004004004004004004004004004004004004004004004004004004004004004004004004003003003003) 1000 (fun A => by kernel_rfl) w
set_option maxRecDepth 100000 in
set_option maxHeartbeats 4000000 in
theorem num5_any (x : Int) (w : World) :
    Calls Try.prog 35 #[.int .i64 x] w fun e w' => e = .returned (.int .i64 x) ∧ Kept w w' := by
  refine g_enter (args := [.int .i64 x]) [] [] Try.func35 rfl Try.ntmps35 (Nat.le_of_ble_eq_true (by kernel_rfl)) (sat0 w) ?_
  refine g_run 9999 [] 0 (by kernel_rfl) ?_
  refine g_ret [] (Value.int IntKind.i64 x) (by kernel_rfl) (by kernel_rfl) (by kernel_rfl) fun w' hs => ?_
  exact ⟨rfl, hs.kept.kept⟩
theorem rem_run {P : Program} {t : TypeId} {x y : Operand} {a : Int} {n : Nat} {w : World} (hn : 0 < n) : (binSem .rem t x y (.int .i64 a) (.int .i64 (n : Int))).run P w = .ok (.value (.int .i64 (a.tmod n))) w := by
  have h : ¬ n = 0 := by omega
  simp [binSem, eqGuard, binOp, Op.intDiv, h, Result.andThen]
end Go.Proofs.Ytdadfhhcfmdfkaa
