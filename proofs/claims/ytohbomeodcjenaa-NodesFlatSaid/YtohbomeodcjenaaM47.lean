/- NodFw NodFs NodRc. -/
import Derived.Test.YtohbomeodcjenaaNodFm
import Derived.Test.YtohbomeodcjenaaM41
import Derived.Test.YtohbomeodcjenaaM30
namespace Go.Proofs.Ytohbomeodcjenaa
open Go.RowKit

def endN : Nod := ⟨6, 0, 0, 0, 0, 0, 0, 0, 0, 0, 0, 0, 0, 0, 0, 0, 0, 0, ⟨#[]⟩⟩
/-- wrapped -/
def wrapN (n : Nod) (x : List Nod) : List Nod := n :: (x ++ [endN])
theorem wrap_len (n : Nod) (x : List Nod) : (wrapN n x).length = x.length + 2 := by simp [wrapN]
theorem wrap_len2 (n : Nod) (x : List Nod) : (wrapN n x).length = 0 + 1 + x.length + 1 := by rw [wrap_len]; omega
theorem nodC_one (n : Nod) : ∀ u ∈ nodC n, u.oneCell' = true := rowOf_one [n] 0
theorem mkN (n : Nat) {w0 w : World} {bs : List Nat} {hp : List HE} {hp' : MadeX w0 n 19 → List HE} (hn : n ≤ 2002) (hw : Sat w0 bs hp w) (e : ∀ x : MadeX w0 n 19, hp ++ [.obj true x.b x.cs 63] = hp' x) :
    ∃ (x : MadeX w0 n 19) (w' : World), (makeSem 59 (.int .i64 0) (.int .i64 (n : Int))).run Try.prog w = .ok (.value (.slice (some ⟨x.b, 0, none⟩) 0 n)) w' ∧ Sat w0 bs (hp' x) w' := by
  have h := makeX_run (P := Try.prog) (t := 59) (E := 63) (l := 0) (n := n) (sz := 19) (by_ := 160) hw (by kernel_rfl) (info_of (by kernel_rfl)) (by omega) (by omega) (by omega)
  obtain ⟨x, w', h1, h2⟩ := h
  exact ⟨x, w', h1, h2.at (e x)⟩
theorem wrap_cells (n : Nod) (x : List Nod) {c0 c1 c2 c3 : List Value} (h1 : c1.take ((0 + 1) * 19) = c0.take (0 * 19) ++ nodC n) (h2 : c2.take ((0 + 1 + x.length) * 19) = c1.take ((0 + 1) * 19) ++ rowsL (rowOf x) 0 x.length)
    (h3 : c3.take ((0 + 1 + x.length + 1) * 19) = c2.take ((0 + 1 + x.length) * 19) ++ nodC endN) : c3.take ((wrapN n x).length * 19) = rowsL (rowOf (wrapN n x)) 0 (wrapN n x).length := by
  rw [wrap_len, show x.length + 2 = 0 + 1 + x.length + 1 by omega, h3, h2, h1, Nat.zero_mul, List.take_zero, List.nil_append, rowsL_succ, show 0 + 1 + x.length = 1 + x.length by omega, rowsL_two]
  congr 1
  · congr 1
    exact rowsL_eq fun q hq => by
      simp only [rowOf, wrapN]
      rw [show 0 + 1 + q = q + 1 by omega, show 0 + q = q by omega]
      congr 1
      simp only [nth, List.getD_eq_getElem?_getD, List.getElem?_cons_succ]
      rw [List.getElem?_append_left hq]
  · simp only [rowOf, wrapN]
    congr 1
    simp only [nth, List.getD_eq_getElem?_getD]
    rw [show 0 + (1 + x.length) = x.length + 1 by omega, List.getElem?_cons_succ, List.getElem?_append_right (Nat.le_refl _)]
    simp
set_option maxRecDepth 100000 in
set_option maxHeartbeats 4000000 in
theorem wrap_any (n : Nod) (x : List Nod) (A : Option Addr) (c b o : Nat) (hr : rightB n = true) (hen : enters n.kind = true) (h10 : n.kind ≠ 10) (hx : checkB x = 0) (y : List Nod) (hy : wrapN n x = y) (hw : checkB y = 0) (hl : x.length ≤ 2000) (w : World) (hL : Lst w A x c b o) :
    Calls Try.prog 31 #[nodV n, .slice A x.length c] w fun e w' => ∃ q : NewL w y, e = .returned (.tuple #[.slice q.A y.length q.c, .int .i64 0]) ∧ Sat w [] [.row q.b 0 19 y.length (rowOf y)] w' := by
  have hri : ∀ w, Calls Try.prog 71 #[nodV n] w fun e w' => e = .returned (.bool true) ∧ Kept w w' := fun w => hr ▸ right_any n w
  have hop : ∀ w, Calls Try.prog 67 #[nodV n] w fun e w' => e = .returned (.bool true) ∧ Kept w w' := fun w => hen ▸ nopens_any n w
  refine g_enter (args := [nodV n, .slice A x.length c]) [] [.row b o 19 x.length (rowOf x)] Try.func31 rfl Try.ntmps31 (Nat.le_of_ble_eq_true (by kernel_rfl)) (hL.sat w (.refl _)) ?_
  refine g_run 9999 [] 0 (by kernel_rfl) ?_
  refine g_new (fun b => by kernel_rfl) fun b1 hb1 => ?_
  refine g_run 9999 (List.replicate 19 1) 0 (by kernel_rfl) ?_
  refine g_callq _ _ _ ?_ (fun w hs => hri w) ?_
  · kernel_rfl
  refine g_run 9999 (List.replicate 19 1) 1 (by kernel_rfl) ?_
  refine g_callq _ _ _ ?_ (fun w hs => hop w) ?_
  · kernel_rfl
  refine g_run 9999 ([1]) 4 (by kernel_rfl) ?_
  refine g_dec 21 (n.kind == 10) (by kernel_rfl) (fun h21 => ?_) (fun h21 => ?_)
  · exact absurd h21 (by clear hL; intro hx; exact h10 (by simpa using hx))
  · refine g_run 9999 [] 1 (by kernel_rfl) ?_
    refine g_callq _ _ _ ?_ (fun w hs => hL.chk w hs.kept.kept 0 hx) ?_
    · kernel_rfl
    refine g_run 29 [] 1 (by kernel_rfl) ?_
    refine g_val _ _ ?_ (fun w _hs => bin_run (P := Try.prog) (op := .add) (t := 3) (x := .tmp 28) (y := .const (.int .i64 2)) (a := .int .i64 (x.length : Int)) (b := .int .i64 2) (v := .int .i64 (IntKind.wrap .i64 ((x.length : Int) + 2))) (v' := .int .i64 ((x.length + 2 : Nat) : Int)) (w := w) (by kernel_rfl) (by rw [wrap_i64 (by omega) (by omega)]; rfl)) ?_
    · kernel_rfl
    refine g_anyW (X := MadeX w (x.length + 2) 19) (makeSem 59 (.int .i64 0) (.int .i64 ((x.length + 2 : Nat) : Int))) (fun q => .slice (some ⟨q.b, 0, none⟩) 0 (x.length + 2)) (fun q => [.row b o 19 x.length (rowOf x), .obj true b1 (nodC n) 63] ++ [.obj true q.b q.cs 63]) (by kernel_rfl) (fun w hs => mkN (x.length + 2) (by omega) hs (fun q => by kernel_rfl)) (fun q => ?_)
    refine g_run 9999 (List.replicate 19 1) 0 (by kernel_rfl) ?_
    refine g_new (fun b => by kernel_rfl) fun b3 hb3 => ?_
    refine g_append 2 3 59 63 63 (some ⟨q.b, 0, none⟩) 0 (x.length + 2) 19 1 1 b3 160 q.cs (nodC n) true (by kernel_rfl) (by kernel_rfl) (by kernel_rfl) (info_of (by kernel_rfl)) (rowAt_own (by kernel_rfl) q.len (by omega)) (by kernel_rfl) rfl (nodC_one n) Nat.one_pos (by omega) (by omega) fun b3' cap3 cs3 _hb3' hc3 hl3 ht3 => ?_
    refine g_run 37 [] 0 (by kernel_rfl) ?_
    refine g_appendR 2 0 59 63 b3' (0 + 1) cap3 19 x.length c 0 b o x.length 160 A cs3 (rowOf x) (by kernel_rfl) (by kernel_rfl) (info_of (by kernel_rfl)) (by kernel_rfl) hl3 hc3 (by kernel_rfl) (fun _ => rfl) (rowOf_one x) (by omega) (by simpa using hL.ax) (by omega) (by omega) fun b4' cap4 cs4 _hb4' hc4 hl4 ht4 => ?_
    refine g_run 9999 [] 0 (by kernel_rfl) ?_
    refine g_new (fun b => by kernel_rfl) fun b4 hb4 => ?_
    refine g_append 2 4 59 63 63 (some ⟨b4', 0, none⟩) (0 + 1 + x.length) cap4 19 1 1 b4 160 cs4 (nodC endN) true (by kernel_rfl) (by kernel_rfl) (by kernel_rfl) (info_of (by kernel_rfl)) (rowAt_own (by kernel_rfl) hl4 hc4) (by kernel_rfl) rfl (nodC_one endN) Nat.one_pos (by omega) (by omega) fun b5 cap5 cs5 hb5 _hc5 _hl5 ht5 => ?_
    refine g_run 42 [] 0 (by kernel_rfl) ?_
    refine g_val _ _ ?_ (fun w _hs => any_run (P := Try.prog) (s := Sem.pure (.value (Value.slice (some ⟨b5, 0, none⟩) (0 + 1 + x.length + 1) cap5))) (v := Value.slice (some ⟨b5, 0, none⟩) (0 + 1 + x.length + 1) cap5) (v' := Value.slice (some ⟨b5, 0, none⟩) y.length cap5) (by kernel_rfl) (by rw [← hy, wrap_len2])) ?_
    · kernel_rfl
    refine g_callq _ _ _ ?_ (fun w hs => checkv_any y b5 0 cap5 w 0 hw (hs.asRow (i := 2) (o := true) (cs := cs5) (E := 63) (by kernel_rfl) (fun _ => rfl) (hy ▸ wrap_cells n x ht3 ht4 ht5))) ?_
    · kernel_rfl
    refine g_run 47 [] 1 (by kernel_rfl) ?_
    refine g_val _ _ ?_ (fun w _hs => any_run (P := Try.prog) (s := Sem.pure (.value (Value.slice (some ⟨b5, 0, none⟩) (0 + 1 + x.length + 1) cap5))) (v := Value.slice (some ⟨b5, 0, none⟩) (0 + 1 + x.length + 1) cap5) (v' := Value.slice (some ⟨b5, 0, none⟩) y.length cap5) (by kernel_rfl) (by rw [← hy, wrap_len2])) ?_
    · kernel_rfl
    refine g_run 9999 [] 0 (by kernel_rfl) ?_
    refine g_ret [] (Value.tuple (Array.mk [Value.slice (some (Addr.mk b5 0 none)) y.length cap5, Value.int IntKind.i64 0])) (by kernel_rfl) (by kernel_rfl) (by kernel_rfl) fun w' hs => ?_
    exact ⟨⟨some ⟨b5, 0, none⟩, cap5, b5, .inr rfl, fun h => (by cases h), fun _ => hb5.resolve_right (by simp)⟩, rfl, Sat.oneRow hs.kept.kept (hs.asRow (i := 2) (o := true) (cs := cs5) (E := 63) (by kernel_rfl) (fun _ => rfl) (hy ▸ wrap_cells n x ht3 ht4 ht5))⟩
end Go.Proofs.Ytohbomeodcjenaa
namespace Go.Proofs.Ytohbomeodcjenaa
open Go.RowKit

theorem neq_run {P : Program} {t : TypeId} {x y : Operand} {a b : Array Value} {r : Bool} {w : World} (hg : runQ P (eqGuard .neq t x y (.agg a) (.agg b)) = some ()) (hb : (binOp .eql t (.agg a) (.agg b)).run P w = .ok (.bool r) w) :
    (binSem .neq t x y (.agg a) (.agg b)).run P w = .ok (.value (.bool (!r))) w := by
  have h2 : binOp .neq t (.agg a) (.agg b) = (do pure (.bool (!(← Op.equal t (.agg a) (.agg b))))) := rfl
  have h3 : binOp .eql t (.agg a) (.agg b) = (do pure (.bool (← Op.equal t (.agg a) (.agg b)))) := rfl
  rw [h3] at hb
  have h1 : (Op.equal t (.agg a) (.agg b)).run P w = .ok r w := by
    simp only [Sem.run_bind] at hb
    cases hh : (Op.equal t (.agg a) (.agg b)).run P w with
    | ok v w' => rw [hh] at hb; simp [Result.andThen] at hb; obtain ⟨h1, h2⟩ := hb; rw [h1, h2]
    | halt q w' => rw [hh] at hb; simp [Result.andThen] at hb
  simp [binSem, runQ_run hg w, h2, h1, Result.andThen]
theorem node_nneq (n : Nod) (x y : Operand) (w : World) : (binSem .neq 63 x y (nodV n) (nodV n)).run Try.prog w = .ok (.value (.bool false)) w :=
  neq_run (r := true) (by kernel_rfl) (apiNode_same n w)
/-- two rows that came in -/
theorem Sat.two {w : World} {b o n b' o' n' : Nat} {f f' : Nat → List Value} (h : Sat w [] [.row b o 19 n f] w) (h' : Sat w [] [.row b' o' 19 n' f'] w) : Sat w [] [.row b o 19 n f, .row b' o' 19 n' f'] w := by
  refine ⟨.refl _ _, fun e he => ?_, fun i j e e' _ hi _ ho => ?_⟩
  · rcases List.mem_cons.1 he with rfl | he
    · exact h.holds _ (List.mem_singleton.2 rfl)
    · rw [List.mem_singleton.1 he]
      exact h'.holds _ (List.mem_singleton.2 rfl)
  · have he := List.mem_of_getElem? hi
    rcases List.mem_cons.1 he with rfl | he
    · cases ho
    · rw [List.mem_singleton.1 he] at ho
      cases ho
set_option maxRecDepth 100000 in
set_option maxHeartbeats 4000000 in
theorem same_none (A B : Option Addr) (ca cb : Nat) (w : World) :
    Calls Try.prog 39 #[.slice A 0 ca, .slice B 0 cb] w fun e w' => e = .returned (.bool true) ∧ Kept w w' := by
  refine g_enter (args := [.slice A 0 ca, .slice B 0 cb]) [] [] Try.func39 rfl Try.ntmps39 (Nat.le_of_ble_eq_true (by kernel_rfl)) (sat0 w) ?_
  refine g_run 9999 [] 1 (by kernel_rfl) ?_
  refine g_unroll 2 (by kernel_rfl) ?_
  refine g_run 9999 [] 1 (by kernel_rfl) ?_
  refine g_ret [] (Value.bool true) (by kernel_rfl) (by kernel_rfl) (by kernel_rfl) fun w' hs => ?_
  exact ⟨rfl, hs.kept.kept⟩
set_option maxRecDepth 100000 in
set_option maxHeartbeats 4000000 in
theorem same_some (l : List Nod) (ba oa ca bb ob cb : Nat) (hl : l.length ≤ 1000000) (w : World) (hA : Sat w [] [.row ba oa 19 l.length (rowOf l)] w) (hB : Sat w [] [.row bb ob 19 l.length (rowOf l)] w) :
    Calls Try.prog 39 #[.slice (some ⟨ba, oa, none⟩) l.length ca, .slice (some ⟨bb, ob, none⟩) l.length cb] w fun e w' => e = .returned (.bool true) ∧ Kept w w' := by
  refine g_enter (args := [.slice (some ⟨ba, oa, none⟩) l.length ca, .slice (some ⟨bb, ob, none⟩) l.length cb]) [] [.row ba oa 19 l.length (rowOf l), .row bb ob 19 l.length (rowOf l)] Try.func39 rfl Try.ntmps39 (Nat.le_of_ble_eq_true (by kernel_rfl)) (hA.two hB) ?_
  refine g_run 9999 [] 0 (by kernel_rfl) ?_
  refine g_dec 10 ((l.length : Int) != (l.length : Int)) (by kernel_rfl) (fun h => absurd h (by simp)) (fun _ => ?_)
  refine g_run 9999 [] 1 (by kernel_rfl) ?_
  refine g_loopN (X := { k : Nat // k ≤ l.length }) (fun x => [(5, .int .i64 (x.1 : Int))]) (fun _ => [.row ba oa 19 l.length (rowOf l), .row bb ob 19 l.length (rowOf l)]) (fun x => l.length - x.1) ⟨0, Nat.zero_le _⟩ (by kernel_rfl) (by unfold Known; kernel_rfl) (by kernel_rfl) fun x N hN => ?_
  refine g_run 9999 [] 0 (by kernel_rfl) ?_
  refine g_dec 14 (decide ((x.1 : Int) < (l.length : Int))) (by kernel_rfl) (fun h => ?_) (fun h => ?_)
  · have hx : x.1 < l.length := by have := of_decide_eq_true h; omega
    refine g_run 9999 [] 1 (by kernel_rfl) ?_
    refine g_draw 9 (by kernel_rfl) (by kernel_rfl) ?_
    refine l_run 19 [] 0 (by kernel_rfl) ?_
    refine l_val _ _ ?_ (fun w _hs => .inl (idx_run (P := Try.prog) (T := 59) (E := 63) (b := ba) (o := oa) (n := l.length) (c := ca) (k := x.1) (sz := 19) (kk := .i64) w (by kernel_rfl) (by kernel_rfl) hx)) ?_
    · kernel_rfl
    refine l_val _ _ ?_ (fun w _hs => .inl (nodeLoad (l := l) (bl := ba) (ol := oa) (k := x.1) (j := 0) _hs (by kernel_rfl) hx)) ?_
    · kernel_rfl
    refine l_run 23 [] 0 (by kernel_rfl) ?_
    refine l_val _ _ ?_ (fun w _hs => .inl (idx_run (P := Try.prog) (T := 59) (E := 63) (b := bb) (o := ob) (n := l.length) (c := cb) (k := x.1) (sz := 19) (kk := .i64) w (by kernel_rfl) (by kernel_rfl) hx)) ?_
    · kernel_rfl
    refine l_val _ _ ?_ (fun w _hs => .inl (nodeLoad (l := l) (bl := bb) (ol := ob) (k := x.1) (j := 1) _hs (by kernel_rfl) hx)) ?_
    · kernel_rfl
    refine l_val _ _ ?_ (fun w _hs => .inl (node_nneq (nth l x.1) (.tmp 20) (.tmp 24) w)) ?_
    · kernel_rfl
    refine l_end (by kernel_rfl) ?_
    refine g_run 16 [] 1 (by kernel_rfl) ?_
    refine g_val _ _ ?_ (fun w _hs => nat_succ (P := Try.prog) (t := 3) (x := .tmp 15) (y := .const (.int .i64 1)) (m := x.1) (w := w) (by kernel_rfl) (by omega)) ?_
    · kernel_rfl
    refine g_run 9999 [] 0 (by kernel_rfl) ?_
    refine g_hook (hN ⟨x.1 + 1, hx⟩ (by show l.length - (x.1 + 1) < l.length - x.1; omega)) (by kernel_rfl) (by kernel_rfl) (by kernel_rfl) (by unfold Known; kernel_rfl) (by kernel_rfl) (by kernel_rfl)
  · refine g_run 9999 [] 1 (by kernel_rfl) ?_
    refine g_ret [] (Value.bool true) (by kernel_rfl) (by kernel_rfl) (by kernel_rfl) fun w' hs => ?_
    exact ⟨rfl, hs.kept.kept⟩
theorem same_any (l : List Nod) (A B : Option Addr) (ba oa ca bb ob cb : Nat) (hl : l.length ≤ 1000000) (w : World) (hA : Sat w [] [.row ba oa 19 l.length (rowOf l)] w) (hB : Sat w [] [.row bb ob 19 l.length (rowOf l)] w) (eA : l.length = 0 ∨ A = some ⟨ba, oa, none⟩) (eB : l.length = 0 ∨ B = some ⟨bb, ob, none⟩) :
    Calls Try.prog 39 #[.slice A l.length ca, .slice B l.length cb] w fun e w' => e = .returned (.bool true) ∧ Kept w w' := by
  by_cases h0 : l.length = 0
  · rw [h0]; exact same_none A B ca cb w
  · rw [eA.resolve_left h0, eB.resolve_left h0]
    exact same_some l ba oa ca bb ob cb hl w hA hB
end Go.Proofs.Ytohbomeodcjenaa
namespace Go.Proofs.Ytohbomeodcjenaa
open Go.RowKit

structure RCX (l : List Nod) where
  at_ : Nat
  W : Wk
  base : Option Addr
  cap : Nat
  e : HE
  n : Nat
  fl : Bool
  hn : W.os.length = n
  sk : ROpen l W.os base cap e
  hf : fl = decide (40 < W.d)
  os : ∀ p ∈ W.os, p.2 ≤ 2
  len : n ≤ at_
  le : at_ ≤ l.length
  run : walkW l (l.length - at_) at_ W = walkW l l.length 0 (walk0 l)
def RCX.start (l : List Nod) : RCX l :=
  ⟨0, walk0 l, none, 0, noneE, 0, false, rfl, .inl ⟨rfl, rfl, rfl⟩, by simp [walk0], fun p hp => by simp [walk0] at hp, Nat.le_refl _, Nat.zero_le _, rfl⟩
theorem RCX.unroll {l : List Nod} (x : RCX l) (h : x.at_ < l.length) : walkW l l.length 0 (walk0 l) = bif rightB (nth l x.at_) then (match stepW l x.at_ x.W with | some W' => walkW l (l.length - (x.at_ + 1)) (x.at_ + 1) W' | none => none) else none := by
  rw [← x.run, show l.length - x.at_ = (l.length - (x.at_ + 1)) + 1 by omega]
  rfl
theorem check_50 {l : List Nod} (hl : l.length ≤ 2000) (h : walkW l l.length 0 (walk0 l) = none) : checkB l = 50 := by
  unfold checkB
  rw [decide_eq_false (by omega), cond_false, h]
theorem RCX.wrong {l : List Nod} (x : RCX l) (h : x.at_ < l.length) (hl : l.length ≤ 2000) (hr : rightB (nth l x.at_) = false) : checkB l = 50 := check_50 hl (by rw [x.unroll h, hr]; rfl)
theorem RCX.stops {l : List Nod} (x : RCX l) (h : x.at_ < l.length) (hl : l.length ≤ 2000) (hr : rightB (nth l x.at_) = true) (hs : stepW l x.at_ x.W = none) : checkB l = 50 := check_50 hl (by rw [x.unroll h, hr, hs]; rfl)
def RCX.next {l : List Nod} (x : RCX l) (h : x.at_ < l.length) (hr : rightB (nth l x.at_) = true) (W' : Wk) (hs : stepW l x.at_ x.W = some W') (base : Option Addr) (cap : Nat) (e : HE) (n : Nat) (fl : Bool) (hn : W'.os.length = n) (sk : ROpen l W'.os base cap e)
    (hf : fl = decide (40 < W'.d)) (os : ∀ p ∈ W'.os, p.2 ≤ 2) (len : n ≤ x.at_ + 1) : RCX l :=
  ⟨x.at_ + 1, W', base, cap, e, n, fl, hn, sk, hf, os, len, h, by
    have := x.unroll h
    rw [hr, hs] at this
    exact this.symm⟩
theorem RCX.done {l : List Nod} (x : RCX l) (h : ¬ x.at_ < l.length) : walkW l l.length 0 (walk0 l) = some x.W := by
  rw [← x.run, show l.length - x.at_ = 0 by omega]
  rfl
theorem RCX.end_ {l : List Nod} (x : RCX l) (h : ¬ x.at_ < l.length) (hl : l.length ≤ 2000) : checkB l = if x.n = 0 then (if x.fl = true then 51 else 0) else 50 := by
  have h1 := x.hf
  have h2 := x.hn
  unfold checkB
  rw [decide_eq_false (by omega), cond_false, x.done h]
  dsimp only
  rw [h2]
  by_cases h0 : x.n = 0
  · rw [if_pos h0, decide_eq_true h0, cond_true, h1]
    by_cases hd : 40 < x.W.d
    · simp [hd]
    · simp [hd]
  · rw [if_neg h0, decide_eq_false h0, cond_false]
/-- what stands on top -/
structure Top (l : List Nod) (x : RCX l) (k : Nat) (os : List (Nat × Nat)) (p : Nat × Nat) (bo : Nat) (oc : List Value) : Prop where
  n : x.n = k + 1
  len : os.length = k
  is : x.W.os = os ++ [p]
  base : x.base = some ⟨bo, 0, none⟩
  e : x.e = .obj true bo oc 169
  size : oc.length = x.cap * 2
  room : k + 1 ≤ x.cap
  cells : oc.take ((k + 1) * 2) = rC l (os ++ [p])
  disc : oc[0 + k * 2]? = some (.bool (decide ((nth l p.1).kind = 10)))
  seps : oc[0 + k * 2 + 1]? = some (.int .i64 (p.2 : Int))
  two : p.2 ≤ 2
theorem RCX.top {l : List Nod} (x : RCX l) (h : x.n ≠ 0) : ∃ k os p bo oc, Top l x k os p bo oc := by
  have h1 := x.hn
  have h2 : x.W.os ≠ [] := fun e => by rw [e] at h1; exact h h1.symm
  have h3 := (List.dropLast_concat_getLast h2).symm
  have h4 := x.sk
  have h5 := x.os _ (List.getLast_mem h2)
  rw [h3] at h4
  obtain ⟨bo, oc, q1, q2, q3, q4, q5, q6, q7⟩ := h4.last
  have h6 : x.W.os.length = x.W.os.dropLast.length + 1 := by
    have := congrArg List.length h3
    simpa using this
  exact ⟨x.W.os.dropLast.length, x.W.os.dropLast, x.W.os.getLast h2, bo, oc, by omega, rfl, h3, q1, q2, q3, q4, q5, q6, q7, h5⟩
theorem Top.inDisc {l : List Nod} {x : RCX l} {k bo : Nat} {os : List (Nat × Nat)} {p : Nat × Nat} {oc : List Value} (t : Top l x k os p bo oc) : inDiscB l x.W.os = decide ((nth l p.1).kind = 10) := by
  unfold inDiscB
  rw [t.is]
  simp
theorem RCX.inDisc0 {l : List Nod} (x : RCX l) (h : x.n = 0) : inDiscB l x.W.os = false ∧ x.W.os = [] := by
  have h1 := x.hn
  have h2 : x.W.os = [] := List.length_eq_zero_iff.1 (by omega)
  exact ⟨by unfold inDiscB; rw [h2]; rfl, h2⟩
end Go.Proofs.Ytohbomeodcjenaa
