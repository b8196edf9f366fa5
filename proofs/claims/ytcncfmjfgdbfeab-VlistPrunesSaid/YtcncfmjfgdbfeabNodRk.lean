/- the document's Check, walked. -/
import Derived.Test.YtcncfmjfgdbfeabM33
namespace Go.Proofs.Ytcncfmjfgdbfeab
set_option maxRecDepth 100000
set_option maxHeartbeats 40000000
open Go.RowKit
theorem g_none {F : Fence} {mm : Nat} {P : Program} {fin : Fin} {w0 : World} {bs : List Nat} {st : St} (g : Goal F mm P fin w0 bs { st with hp := st.hp ++ [noneE] }) : Goal F mm P fin w0 bs st :=
 ⟨fun hF a w hr hw => g.out hF a w hr hw.dummy⟩
theorem e50 {l : List Nod} (h : checkB l = 50) : Ending.returned (.int .i64 50) = Ending.returned (.int .i64 (checkB l)) := by rw [h]
theorem nb {b : Bool} (h : (!b) = true) : b = false := by cases b <;> first | rfl | cases h
theorem nb' {b : Bool} (h : (!b) = false) : b = true := by cases b <;> first | rfl | cases h
theorem top_neg {n : Nat} (hn : n ≤ 2000) (h : decide (IntKind.i64.wrap ((n : Int) - 1) < 0) = true) : n = 0 := by
 rw [wrap_i64 (by omega) (by omega)] at h
 have := of_decide_eq_true h
 omega
theorem top_pos {n : Nat} (hn : n ≤ 2000) (h : decide (IntKind.i64.wrap ((n : Int) - 1) < 0) = false) : n ≠ 0 := by
 rw [wrap_i64 (by omega) (by omega)] at h
 have := of_decide_eq_false h
 omega
theorem RCX.small {l : List Nod} (x : RCX l) (hl : l.length ≤ 2000) : x.n ≤ 2000 := Nat.le_trans x.len (Nat.le_trans x.le hl)
section
variable {l : List Nod} {x : RCX l} {k bo : Nat} {os : List (Nat × Nat)} {p : Nat × Nat} {oc : List Value}
theorem Top.idx (t : Top l x k os p bo oc) (hl : l.length ≤ 2000) (w : World) : (idxSem 116 (.slice x.base x.n x.cap) (.int .i64 (IntKind.wrap .i64 ((x.n : Int) - 1)))).run Try.prog w = .ok (.value (.pointer (some ⟨bo, 0 + k * 2, none⟩))) w := by
 have h1 := x.small hl
 have h2 := t.n
 rw [t.base, wrap_i64 (by omega) (by omega), show (x.n : Int) - 1 = (k : Int) by omega]
 exact idx_run (E := 118) (sz := 2) w kR kR (by omega)
theorem Top.front (t : Top l x k os p bo oc) (hl : l.length ≤ 2000) (w : World) : (sliceSem 116 (.slice x.base x.n x.cap) none (some (.int .i64 (IntKind.wrap .i64 ((x.n : Int) - 1)))) none).run Try.prog w = .ok (.value (.slice (some ⟨bo, 0, none⟩) k x.cap)) w := by
 have h1 := x.small hl
 have h2 := t.n
 have h3 := t.room
 rw [t.base, wrap_i64 (by omega) (by omega), show (x.n : Int) - 1 = (k : Int) by omega]
 exact front_run (E := 118) (sz := 2) w kR kR (by omega)
theorem Top.load (t : Top l x k os p bo oc) {T : TypeId} {w0 w : World} {bs : List Nat} {hp : List HE} {j : Nat} {v : Value} (hs : Sat w0 bs hp w) (hi : hp[1]? = some x.e) (hv : oc[j]? = some v) (hT : runQ Try.prog (isAgg T) = some false) :
  (loadSem T (.pointer (some ⟨bo, j, none⟩))).run Try.prog w = .ok (.value v) w := Sat.objload1 hs (hi.trans (congrArg some t.e)) hv hT
theorem Top.less (t : Top l x k os p bo oc) : ROpen l os (some ⟨bo, 0, none⟩) x.cap x.e := by
 rw [t.e]
 have h := t.cells
 have h1 := t.len
 subst h1
 exact ROpen.less h t.size t.room
theorem Top.leave (t : Top l x k os p bo oc) (h6 : (nth l x.at_).kind = 6) : stepW l x.at_ x.W = bif decide ((nth l p.1).kind = 10) && !decide (p.2 = 2) then none else some ⟨x.W.beh.set p.1 (x.at_ + 1), os, x.W.d⟩ := by
 unfold stepW leaveW
 rw [decide_eq_true h6, cond_true, t.inDisc, t.is]
 simp
theorem leave0 (h0 : x.n = 0) (h6 : (nth l x.at_).kind = 6) : stepW l x.at_ x.W = none := by
 unfold stepW leaveW
 rw [decide_eq_true h6, cond_true, (x.inDisc0 h0).2]
 rfl
def Top.pop (t : Top l x k os p bo oc) (hlt : x.at_ < l.length) (hr : rightB (nth l x.at_) = true) (h6 : (nth l x.at_).kind = 6) (hd : (decide ((nth l p.1).kind = 10) && !decide (p.2 = 2)) = false) : RCX l :=
 x.next hlt hr ⟨x.W.beh.set p.1 (x.at_ + 1), os, x.W.d⟩ (by rw [t.leave h6, hd]; rfl) (some ⟨bo, 0, none⟩) x.cap x.e k x.fl t.len t.less x.hf (fun q hq => x.os q (by rw [t.is]; exact List.mem_append_left _ hq)) (by have := x.len; have := t.n; omega)
end
theorem kind_of {n : Nod} {c : Int} (h : (n.kind == c) = true) : n.kind = c := by simpa using h
theorem kind_no {n : Nod} {c : Int} (h : (n.kind == c) = false) : ¬ n.kind = c := by simpa using h
theorem two_no {q : Nat} (h : ((q : Int) != 2) = true) : decide (q = 2) = false := by simp at h; simp; omega
theorem two_is {q : Nat} (h : ((q : Int) != 2) = false) : decide (q = 2) = true := by simp at h; simp; omega
theorem at_small {a n : Nat} (h : a < n) (h' : n ≤ 2000) : a < 9223372036854775807 := by omega
theorem dd_true {a b : Bool} (h1 : a = true) (h2 : b = false) : (a && !b) = true := by rw [h1, h2]; rfl
theorem dd_two {a b : Bool} (h2 : b = true) : (a && !b) = false := by rw [h2]; simp
theorem dd_no {a b : Bool} (h1 : a = false) : (a && !b) = false := by rw [h1]; rfl
section
variable {l : List Nod} {x : RCX l} {k bo : Nat} {os : List (Nat × Nat)} {p : Nat × Nat} {oc : List Value}
theorem Top.part (t : Top l x k os p bo oc) (h6 : ¬ (nth l x.at_).kind = 6) (h11 : (nth l x.at_).kind = 11) : stepW l x.at_ x.W = bif decide ((nth l p.1).kind = 10) && decide (p.2 + 1 ≤ 2) then some ⟨x.W.beh, os ++ [(p.1, p.2 + 1)], x.W.d⟩ else none := by
 unfold stepW partW
 rw [decide_eq_false h6, cond_false, decide_eq_true h11, cond_true, t.inDisc, t.is]
 simp
theorem part0 (h0 : x.n = 0) (h6 : ¬ (nth l x.at_).kind = 6) (h11 : (nth l x.at_).kind = 11) : stepW l x.at_ x.W = none := by
 unfold stepW partW
 rw [decide_eq_false h6, cond_false, decide_eq_true h11, cond_true, (x.inDisc0 h0).2]
 rfl
theorem Top.set (t : Top l x k os p bo oc) : ROpen l (os ++ [(p.1, p.2 + 1)]) x.base x.cap (.obj true bo (oc.set (0 + k * 2 + 1) (.int .i64 ((p.2 + 1 : Nat) : Int))) 118) := by
 have h := t.cells
 have h1 := t.len
 have h2 := t.size
 have h3 := t.room
 subst h1
 exact .inr ⟨bo, _, t.base, rfl, by simpa using h2, by simpa using h3, by
  rw [show (os ++ [(p.1, p.2 + 1)]).length = os.length + 1 by simp]
  exact rC_set h (by omega)⟩
theorem Top.lt (t : Top l x k os p bo oc) : 0 + k * 2 + 1 < oc.length := by
 have h2 := t.size
 have h3 := t.room
 omega
def Top.sep (t : Top l x k os p bo oc) (hlt : x.at_ < l.length) (hr : rightB (nth l x.at_) = true) (h6 : ¬ (nth l x.at_).kind = 6) (h11 : (nth l x.at_).kind = 11) (hd : (decide ((nth l p.1).kind = 10) && decide (p.2 + 1 ≤ 2)) = true) : RCX l :=
 x.next hlt hr ⟨x.W.beh, os ++ [(p.1, p.2 + 1)], x.W.d⟩ (by rw [t.part h6 h11, hd]; rfl) x.base x.cap (.obj true bo (oc.set (0 + k * 2 + 1) (.int .i64 ((p.2 + 1 : Nat) : Int))) 118) x.n x.fl (by have := t.n; have := t.len; simp; omega) t.set x.hf (fun q hq => by
  rcases List.mem_append.1 hq with hq | hq
  ·exact x.os q (by rw [t.is]; exact List.mem_append_left _ hq)
  rw [List.mem_singleton.1 hq]
  simp only [Bool.and_eq_true, decide_eq_true_eq] at hd
  exact hd.2) (by have := x.len; omega)
end
theorem pp_no {a b : Bool} (h : a = false) : (a && b) = false := by rw [h]; rfl
theorem pp_two {a : Bool} {q : Nat} (h : ((q : Int) == 2) = true) : (a && decide (q + 1 ≤ 2)) = false := by
 have : ¬ q + 1 ≤ 2 := by simp at h; omega
 rw [decide_eq_false this]
 simp
theorem pp_ok {a : Bool} {q : Nat} (h1 : a = true) (hq : q ≤ 2) (h : ((q : Int) == 2) = false) : (a && decide (q + 1 ≤ 2)) = true := by
 have : q + 1 ≤ 2 := by simp at h; omega
 rw [h1, decide_eq_true this]
 rfl
theorem two_small {q : Nat} (h : q ≤ 2) : q < 9223372036854775807 := by omega
theorem no_of {a : Bool} (h : (!a) = true) : a = false := nb h
theorem deep_true {b : Bool} {d : Int} {m : Nat} (hf : b = decide (40 < d)) (h : b = true) : true = decide (40 < deep d m) := by
 rw [h] at hf
 have := of_decide_eq_true hf.symm
 unfold deep
 symm
 apply decide_eq_true
 split <;> omega
theorem deep_false {b : Bool} {d : Int} {m n : Nat} (hf : b = decide (40 < d)) (h : b = false) (hm : m = n) : decide ((n : Int) ≥ 40) = decide (40 < deep d m) := by
 rw [h] at hf
 have := of_decide_eq_false hf.symm
 subst hm
 unfold deep
 apply decide_eq_decide.2
 split <;> omega
section
variable {l : List Nod} {x : RCX l}
theorem step_else (h6 : ¬ (nth l x.at_).kind = 6) (h11 : ¬ (nth l x.at_).kind = 11) (h : (!inDiscB l x.W.os || brokenB (nth l x.at_)) = true) :
  stepW l x.at_ x.W = some (bif enters (nth l x.at_).kind then ⟨x.W.beh, x.W.os ++ [(x.at_, 0)], deep x.W.d x.W.os.length⟩ else ⟨x.W.beh.set x.at_ (x.at_ + 1), x.W.os, deep x.W.d x.W.os.length⟩) := by
 unfold stepW
 rw [decide_eq_false h6, cond_false, decide_eq_false h11, cond_false, h, cond_true]
theorem step_stop (h6 : ¬ (nth l x.at_).kind = 6) (h11 : ¬ (nth l x.at_).kind = 11) (h : (!inDiscB l x.W.os || brokenB (nth l x.at_)) = false) : stepW l x.at_ x.W = none := by
 unfold stepW
 rw [decide_eq_false h6, cond_false, decide_eq_false h11, cond_false, h, cond_false]
def RCX.stand (hlt : x.at_ < l.length) (hr : rightB (nth l x.at_) = true) (h6 : ¬ (nth l x.at_).kind = 6) (h11 : ¬ (nth l x.at_).kind = 11) (h : (!inDiscB l x.W.os || brokenB (nth l x.at_)) = true) (he : enters (nth l x.at_).kind = false) (fl : Bool) (hf : fl = decide (40 < deep x.W.d x.W.os.length)) : RCX l :=
 x.next hlt hr ⟨x.W.beh.set x.at_ (x.at_ + 1), x.W.os, deep x.W.d x.W.os.length⟩ (by rw [step_else h6 h11 h, he]; rfl) x.base x.cap x.e x.n fl x.hn x.sk hf x.os (Nat.le_succ_of_le x.len)
def RCX.push (hlt : x.at_ < l.length) (hr : rightB (nth l x.at_) = true) (h6 : ¬ (nth l x.at_).kind = 6) (h11 : ¬ (nth l x.at_).kind = 11) (h : (!inDiscB l x.W.os || brokenB (nth l x.at_)) = true) (he : enters (nth l x.at_).kind = true) (fl : Bool) (hf : fl = decide (40 < deep x.W.d x.W.os.length))
  {b' cap' : Nat} {oc cs' : List Value} (ho : oc.take (x.n * 2) = rC l x.W.os) (hc : x.n + 1 ≤ cap') (hl' : cs'.length = cap' * 2) (ht : cs'.take ((x.n + 1) * 2) = oc.take (x.n * 2) ++ [.bool ((nth l x.at_).kind == 10), .int .i64 0]) : RCX l :=
 x.next hlt hr ⟨x.W.beh, x.W.os ++ [(x.at_, 0)], deep x.W.d x.W.os.length⟩ (by rw [step_else h6 h11 h, he]; rfl) (some ⟨b', 0, none⟩) cap' (.obj true b' cs' 118) (x.n + 1) fl (by simp [x.hn]) (ROpen.grow (oc := oc) (by rw [x.hn]; exact ho) (by rw [x.hn]; exact hc) hl' (by rw [x.hn]; exact ht)) hf (fun q hq => by
  rcases List.mem_append.1 hq with hq | hq
  ·exact x.os q hq
  rw [List.mem_singleton.1 hq]; exact Nat.zero_le _) (Nat.succ_le_succ x.len)
theorem RCX.row (x : RCX l) : ∃ oc : List Value, oc.take (x.n * 2) = rC l x.W.os ∧ ∀ hp : List HE, hp[1]? = some x.e → RowAt hp 1 x.base x.n x.cap 2 oc 118 := by
 have h := x.sk.row
 rw [x.hn] at h
 exact h
end
theorem top_ge {n : Nat} (hn : n ≤ 2000) (h : decide (IntKind.i64.wrap ((n : Int) - 1) ≥ 0) = true) : n ≠ 0 := by
 rw [wrap_i64 (by omega) (by omega)] at h
 have := of_decide_eq_true h
 omega
theorem top_lt {n : Nat} (hn : n ≤ 2000) (h : decide (IntKind.i64.wrap ((n : Int) - 1) ≥ 0) = false) : n = 0 := by
 rw [wrap_i64 (by omega) (by omega)] at h
 have := of_decide_eq_false h
 omega
theorem oo_0 {b : Bool} {c : Bool} (h : b = false) : (!b || c) = true := by rw [h]; rfl
theorem oo_1 {b : Bool} {c : Bool} (h : c = true) : (!b || c) = true := by rw [h]; simp
theorem oo_2 {b : Bool} {c : Bool} (h : b = true) (h' : c = false) : (!b || c) = false := by rw [h, h']; rfl
theorem bg1 {n : Nat} (h : n ≤ 2000) : n + 1 ≤ 9223372036854775807 := by omega
theorem bg2 {n : Nat} (h : n ≤ 2000) : (n + 1) * 16 ≤ 140737488355328 := by omega
theorem eC {l : List Nod} {v : Int} (h : checkB l = v) : Ending.returned (.int .i64 v) = Ending.returned (.int .i64 (checkB l)) := by rw [h]
theorem RCX.end50 {l : List Nod} (x : RCX l) (h : ¬ x.at_ < l.length) (hl : l.length ≤ 2000) (hn : decide ((x.n : Int) > 0) = true) : checkB l = 50 := by
 have := of_decide_eq_true hn
 rw [x.end_ h hl, if_neg (by omega)]
theorem RCX.end51 {l : List Nod} (x : RCX l) (h : ¬ x.at_ < l.length) (hl : l.length ≤ 2000) (hn : decide ((x.n : Int) > 0) = false) (hf : x.fl = true) : checkB l = 51 := by
 have := of_decide_eq_false hn
 rw [x.end_ h hl, if_pos (by omega), if_pos hf]
theorem RCX.end0 {l : List Nod} (x : RCX l) (h : ¬ x.at_ < l.length) (hl : l.length ≤ 2000) (hn : decide ((x.n : Int) > 0) = false) (hf : x.fl = false) : checkB l = 0 := by
 have := of_decide_eq_false hn
 rw [x.end_ h hl, if_pos (by omega), if_neg (by rw [hf]; simp)]
theorem rcheck_row (l : List Nod) (bl ol cl : Nat) (hl : l.length ≤ 2000) (w : World) (hq : Sat w [] [.row bl ol 19 l.length (rowOf l)] w) :
  Calls Try.prog 51 #[.slice (some ⟨bl, ol, none⟩) l.length cl] w fun e w' => e = .returned (.int .i64 (checkB l)) ∧ Kept w w' := by
 refine g_enter (args := [.slice (some ⟨bl, ol, none⟩) l.length cl]) [] [.row bl ol 19 l.length (rowOf l)] Try.func51 rfl Try.ntmps51 kL hq ?_
 refine g0 ?_
 refine g_dec 10 (decide ((↑l.length : Int) > 2000)) kR (fun h10 => ?_) (fun h10 => ?_)
 ·exact absurd h10 (by clear hq; simp; omega)
 refine gA [] 1 ?_
 refine g_none ?_
 refine g_loopN (X := RCX l) (fun x => [(5, .int .i64 (x.at_ : Int)), (3, .slice x.base x.n x.cap), (4, .bool x.fl)]) (fun x => [.row bl ol 19 l.length (rowOf l), x.e]) (fun x => l.length - x.at_) (RCX.start l) kR (by unfold Known; kernel_rfl) kR fun x N hN => ?_
 refine g0 ?_
 refine g_dec 14 (decide ((↑x.at_ : Int) < (↑l.length : Int))) kR (fun h14 => ?_) (fun h14 => ?_)
 ·have hlt : x.at_ < l.length := by clear hN hq; simpa using h14
  refine gU 19 [] 1 ?_
  refine g_val _ _ ?_ (fun w _hs => idx_run (P := Try.prog) (T := 22) (E := 55) (b := bl) (o := ol) (n := l.length) (c := cl) (k := x.at_) (sz := 19) (kk := .i64) w kR kR hlt) ?_
  ·kernel_rfl
  refine g_val _ _ ?_ (fun w _hs => Sat.rowload (T := 55) (i := 0) (b := bl) (off := ol) (sz := 19) (n := l.length) (k := x.at_) (f := rowOf l) _hs kR hlt kR kR rfl) ?_
  ·kernel_rfl
  refine gN fun b2 _hb2 => ?_
  refine gA (List.replicate 38 2) 0 ?_
  refine g_callq _ _ _ ?_ (fun w hs => good_any (nth l x.at_) w) ?_
  ·kernel_rfl
  refine g0 ?_
  refine g_dec 26 (!rightB (nth l x.at_)) kR (fun h26 => ?_) (fun h26 => ?_)
  ·refine gA [] 1 ?_
   refine gR (Value.int IntKind.i64 50) fun w' hs => ?_
   exact ⟨e50 (x.wrong hlt hl (nb h26)), hs.kk⟩
  have hr := nb' h26
  refine gA ([2]) 1 ?_
  refine g_dec 27 ((nth l x.at_).kind == 6) kR (fun h27 => ?_) (fun h27 => ?_)
  ·have h6 := kind_of h27
   refine gA [] 1 ?_
   refine g_dec 33 (decide (IntKind.i64.wrap ((↑x.n : Int) - 1) < 0)) kR (fun h33 => ?_) (fun h33 => ?_)
   ·refine gA [] 14 ?_
    refine gR (Value.int IntKind.i64 50) fun w' hs => ?_
    exact ⟨e50 (x.stops hlt hl hr (leave0 (top_neg (x.small hl) h33) h6)), hs.kk⟩
   refine Exists.elim (x.top (top_pos (x.small hl) h33)) fun k q => Exists.elim q fun os q => Exists.elim q fun p q => Exists.elim q fun bo q => Exists.elim q fun oc t => ?_
   refine gU 36 [] 2 ?_
   refine g_val _ _ ?_ (fun w _hs => t.idx hl w) ?_
   ·kernel_rfl
   refine gU 38 [] 1 ?_
   refine g_val _ _ ?_ (fun w hs => t.load (T := 4) hs kR t.disc kR) ?_
   ·kernel_rfl
   refine gA [] 1 ?_
   refine g_dec 39 (decide ((nth l p.fst).kind = 10)) kR (fun h39 => ?_) (fun h39 => ?_)
   ·refine gU 42 [] 2 ?_
    refine g_val _ _ ?_ (fun w _hs => t.idx hl w) ?_
    ·kernel_rfl
    refine gU 44 [] 1 ?_
    refine g_val _ _ ?_ (fun w hs => t.load (T := 3) hs kR t.seps kR) ?_
    ·kernel_rfl
    refine gA [] 2 ?_
    refine g_dec 47 ((↑p.snd : Int) != 2) kR (fun h47 => ?_) (fun h47 => ?_)
    ·refine gA [] 1 ?_
     refine gR (Value.int IntKind.i64 50) fun w' hs => ?_
     exact ⟨e50 (x.stops hlt hl hr (by rw [t.leave h6, dd_true h39 (two_no h47)]; rfl)), hs.kk⟩
    refine gU 50 [] 1 ?_
    refine g_val _ _ ?_ (fun w _hs => t.front hl w) ?_
    ·kernel_rfl
    refine gU 16 [] 0 ?_
    refine g_val _ _ ?_ (fun w _hs => nat_succ (P := Try.prog) (t := 3) (x := .tmp 15) (y := .const (.int .i64 1)) (m := x.at_) (w := w) kR (at_small hlt hl)) ?_
    ·kernel_rfl
    refine g0 ?_
    refine g_take 2 ?_
    exact g_hook (hN (t.pop hlt hr h6 (dd_two (two_is h47))) (Nat.sub_lt_sub_left hlt (Nat.lt_succ_self _))) kR kR kR (by unfold Known; kernel_rfl) kR kR
   refine gU 50 [] 8 ?_
   refine g_val _ _ ?_ (fun w _hs => t.front hl w) ?_
   ·kernel_rfl
   refine gU 16 [] 0 ?_
   refine g_val _ _ ?_ (fun w _hs => nat_succ (P := Try.prog) (t := 3) (x := .tmp 15) (y := .const (.int .i64 1)) (m := x.at_) (w := w) kR (at_small hlt hl)) ?_
   ·kernel_rfl
   refine g0 ?_
   refine g_take 2 ?_
   exact g_hook (hN (t.pop hlt hr h6 (dd_no h39)) (Nat.sub_lt_sub_left hlt (Nat.lt_succ_self _))) kR kR kR (by unfold Known; kernel_rfl) kR kR
  have h6 := kind_no h27
  refine gA ([2]) 1 ?_
  refine g_dec 51 ((nth l x.at_).kind == 11) kR (fun h51 => ?_) (fun h51 => ?_)
  ·have h11 := kind_of h51
   refine gA [] 1 ?_
   refine g_dec 57 (decide (IntKind.i64.wrap ((↑x.n : Int) - 1) < 0)) kR (fun h57 => ?_) (fun h57 => ?_)
   ·refine gA [] 13 ?_
    refine gR (Value.int IntKind.i64 50) fun w' hs => ?_
    exact ⟨e50 (x.stops hlt hl hr (part0 (top_neg (x.small hl) h57) h6 h11)), hs.kk⟩
   refine Exists.elim (x.top (top_pos (x.small hl) h57)) fun k q => Exists.elim q fun os q => Exists.elim q fun p q => Exists.elim q fun bo q => Exists.elim q fun oc t => ?_
   refine gU 60 [] 2 ?_
   refine g_val _ _ ?_ (fun w _hs => t.idx hl w) ?_
   ·kernel_rfl
   refine gU 62 [] 1 ?_
   refine g_val _ _ ?_ (fun w hs => t.load (T := 4) hs kR t.disc kR) ?_
   ·kernel_rfl
   refine gA [] 1 ?_
   refine g_dec 65 (!decide ((nth l p.fst).kind = 10)) kR (fun h65 => ?_) (fun h65 => ?_)
   ·refine gA [] 7 ?_
    refine gR (Value.int IntKind.i64 50) fun w' hs => ?_
    exact ⟨e50 (x.stops hlt hl hr (by rw [t.part h6 h11, pp_no (no_of h65)]; rfl)), hs.kk⟩
   refine gU 68 [] 2 ?_
   refine g_val _ _ ?_ (fun w _hs => t.idx hl w) ?_
   ·kernel_rfl
   refine gU 70 [] 1 ?_
   refine g_val _ _ ?_ (fun w hs => t.load (T := 3) hs kR t.seps kR) ?_
   ·kernel_rfl
   refine gA [] 1 ?_
   refine g_dec 72 ((↑p.snd : Int) == 2) kR (fun h72 => ?_) (fun h72 => ?_)
   ·refine gA [] 1 ?_
    refine gR (Value.int IntKind.i64 50) fun w' hs => ?_
    exact ⟨e50 (x.stops hlt hl hr (by rw [t.part h6 h11, pp_two h72]; rfl)), hs.kk⟩
   refine gU 75 [] 1 ?_
   refine g_val _ _ ?_ (fun w _hs => t.idx hl w) ?_
   ·kernel_rfl
   refine gU 77 [] 0 ?_
   refine g_val _ _ ?_ (fun w hs => t.load (T := 3) hs kR t.seps kR) ?_
   ·kernel_rfl
   refine gU 78 [] 0 ?_
   refine g_val _ _ ?_ (fun w _hs => nat_succ (P := Try.prog) (t := 3) (x := .tmp 77) (y := .const (.int .i64 1)) (m := p.2) (w := w) kR (two_small t.two)) ?_
   ·kernel_rfl
   refine gU 79 [] 0 ?_
   refine g_val _ _ ?_ (fun w _hs => t.idx hl w) ?_
   ·kernel_rfl
   refine g0 ?_
   refine g_store1 1 3 118 bo (0 + k * 2 + 1) oc (.int .i64 ((p.2 + 1 : Nat) : Int)) kR (Eq.trans (b := some x.e) kR (congrArg some t.e)) t.lt rfl kR ?_
   refine gU 16 [] 0 ?_
   refine g_val _ _ ?_ (fun w _hs => nat_succ (P := Try.prog) (t := 3) (x := .tmp 15) (y := .const (.int .i64 1)) (m := x.at_) (w := w) kR (at_small hlt hl)) ?_
   ·kernel_rfl
   refine g0 ?_
   refine g_take 2 ?_
   exact g_hook (hN (t.sep hlt hr h6 h11 (pp_ok (nb' h65) t.two h72)) (Nat.sub_lt_sub_left hlt (Nat.lt_succ_self _))) kR kR kR (by unfold Known; kernel_rfl) kR kR
  have h11 := kind_no h51
  refine gA [] 1 ?_
  refine g_dec 84 (decide (IntKind.i64.wrap ((↑x.n : Int) - 1) ≥ 0)) kR (fun h84 => ?_) (fun h84 => ?_)
  rotate_left
  ·have h0 := top_lt (x.small hl) h84
   have hok : (!inDiscB l x.W.os || brokenB (nth l x.at_)) = true := oo_0 (x.inDisc0 h0).1
   refine gA [] 9 ?_
   refine g_dec 97 (x.fl) kR (fun h97 => ?_) (fun h97 => ?_)
   ·refine gA (List.replicate 19 2) 3 ?_
    refine g_callq _ _ _ ?_ (fun w hs => ropens_any (nth l x.at_) w) ?_
    ·kernel_rfl
    refine g_dec 103 (enters (nth l x.at_).kind) kR (fun h103 => ?_) (fun h103 => ?_)
    ·refine gA ([2]) 1 ?_
     refine gN fun b3 _hb3 => ?_
     refine gU 110 [] 0 ?_
     refine Exists.elim x.row fun oc2 hoc => ?_
     refine g_append 1 3 116 118 118 x.base x.n x.cap 2 1 1 b3 16 oc2 [.bool ((nth l x.at_).kind == 10), .int .i64 0] true kR kR kR (info_of kR) (hoc.2 _ kR) kR rfl (by simp [Value.oneCell']) Nat.one_pos (bg1 (x.small hl)) (bg2 (x.small hl)) fun b' cap' cs' _hb' hc' hl' ht' => ?_
     refine gU 16 [] 0 ?_
     refine g_val _ _ ?_ (fun w _hs => nat_succ (P := Try.prog) (t := 3) (x := .tmp 15) (y := .const (.int .i64 1)) (m := x.at_) (w := w) kR (at_small hlt hl)) ?_
     ·kernel_rfl
     refine g0 ?_
     refine g_take 2 ?_
     exact g_hook (hN (RCX.push (x := x) (b' := b') hlt hr h6 h11 hok h103 true (deep_true x.hf h97) hoc.1 hc' hl' ht') (Nat.sub_lt_sub_left hlt (Nat.lt_succ_self _))) kR kR kR (by unfold Known; kernel_rfl) kR kR
    refine gU 16 [] 1 ?_
    refine g_val _ _ ?_ (fun w _hs => nat_succ (P := Try.prog) (t := 3) (x := .tmp 15) (y := .const (.int .i64 1)) (m := x.at_) (w := w) kR (at_small hlt hl)) ?_
    ·kernel_rfl
    refine g0 ?_
    refine g_take 2 ?_
    exact g_hook (hN (RCX.stand (x := x) hlt hr h6 h11 hok h103 true (deep_true x.hf h97)) (Nat.sub_lt_sub_left hlt (Nat.lt_succ_self _))) kR kR kR (by unfold Known; kernel_rfl) kR kR
   refine gA (List.replicate 19 2) 3 ?_
   refine g_callq _ _ _ ?_ (fun w hs => ropens_any (nth l x.at_) w) ?_
   ·kernel_rfl
   refine g_dec 103 (enters (nth l x.at_).kind) kR (fun h103 => ?_) (fun h103 => ?_)
   ·refine gA ([2]) 1 ?_
    refine gN fun b3 _hb3 => ?_
    refine gU 110 [] 0 ?_
    refine Exists.elim x.row fun oc2 hoc => ?_
    refine g_append 1 3 116 118 118 x.base x.n x.cap 2 1 1 b3 16 oc2 [.bool ((nth l x.at_).kind == 10), .int .i64 0] true kR kR kR (info_of kR) (hoc.2 _ kR) kR rfl (by simp [Value.oneCell']) Nat.one_pos (bg1 (x.small hl)) (bg2 (x.small hl)) fun b' cap' cs' _hb' hc' hl' ht' => ?_
    refine gU 16 [] 0 ?_
    refine g_val _ _ ?_ (fun w _hs => nat_succ (P := Try.prog) (t := 3) (x := .tmp 15) (y := .const (.int .i64 1)) (m := x.at_) (w := w) kR (at_small hlt hl)) ?_
    ·kernel_rfl
    refine g0 ?_
    refine g_take 2 ?_
    exact g_hook (hN (RCX.push (x := x) (b' := b') hlt hr h6 h11 hok h103 (decide ((x.n : Int) ≥ 40)) (deep_false x.hf h97 x.hn) hoc.1 hc' hl' ht') (Nat.sub_lt_sub_left hlt (Nat.lt_succ_self _))) kR kR kR (by unfold Known; kernel_rfl) kR kR
   refine gU 16 [] 1 ?_
   refine g_val _ _ ?_ (fun w _hs => nat_succ (P := Try.prog) (t := 3) (x := .tmp 15) (y := .const (.int .i64 1)) (m := x.at_) (w := w) kR (at_small hlt hl)) ?_
   ·kernel_rfl
   refine g0 ?_
   refine g_take 2 ?_
   exact g_hook (hN (RCX.stand (x := x) hlt hr h6 h11 hok h103 (decide ((x.n : Int) ≥ 40)) (deep_false x.hf h97 x.hn)) (Nat.sub_lt_sub_left hlt (Nat.lt_succ_self _))) kR kR kR (by unfold Known; kernel_rfl) kR kR
  refine Exists.elim (x.top (top_ge (x.small hl) h84)) fun k q => Exists.elim q fun os q => Exists.elim q fun p q => Exists.elim q fun bo q => Exists.elim q fun oc t => ?_
  refine gU 87 [] 2 ?_
  refine g_val _ _ ?_ (fun w _hs => t.idx hl w) ?_
  ·kernel_rfl
  refine gU 89 [] 1 ?_
  refine g_val _ _ ?_ (fun w hs => t.load (T := 4) hs kR t.disc kR) ?_
  ·kernel_rfl
  refine g0 ?_
  refine g_dec 91 (decide ((nth l p.fst).kind = 10)) kR (fun h91 => ?_) (fun h91 => ?_)
  ·refine gA (List.replicate 19 2) 1 ?_
   refine g_callq _ _ _ ?_ (fun w hs => rsmall_any (nth l x.at_) w) ?_
   ·kernel_rfl
   refine gA [] 1 ?_
   refine g_dec 81 (!brokenB (nth l x.at_)) kR (fun h81 => ?_) (fun h81 => ?_)
   ·refine gA [] 1 ?_
    refine gR (Value.int IntKind.i64 50) fun w' hs => ?_
    exact ⟨e50 (x.stops hlt hl hr (step_stop h6 h11 (oo_2 (t.inDisc.trans h91) (nb h81)))), hs.kk⟩
   have hok : (!inDiscB l x.W.os || brokenB (nth l x.at_)) = true := oo_1 (nb' h81)
   refine gA [] 1 ?_
   refine g_dec 97 (x.fl) kR (fun h97 => ?_) (fun h97 => ?_)
   ·refine gA (List.replicate 19 2) 3 ?_
    refine g_callq _ _ _ ?_ (fun w hs => ropens_any (nth l x.at_) w) ?_
    ·kernel_rfl
    refine g_dec 103 (enters (nth l x.at_).kind) kR (fun h103 => ?_) (fun h103 => ?_)
    ·refine gA ([2]) 1 ?_
     refine gN fun b3 _hb3 => ?_
     refine gU 110 [] 0 ?_
     refine Exists.elim x.row fun oc2 hoc => ?_
     refine g_append 1 3 116 118 118 x.base x.n x.cap 2 1 1 b3 16 oc2 [.bool ((nth l x.at_).kind == 10), .int .i64 0] true kR kR kR (info_of kR) (hoc.2 _ kR) kR rfl (by simp [Value.oneCell']) Nat.one_pos (bg1 (x.small hl)) (bg2 (x.small hl)) fun b' cap' cs' _hb' hc' hl' ht' => ?_
     refine gU 16 [] 0 ?_
     refine g_val _ _ ?_ (fun w _hs => nat_succ (P := Try.prog) (t := 3) (x := .tmp 15) (y := .const (.int .i64 1)) (m := x.at_) (w := w) kR (at_small hlt hl)) ?_
     ·kernel_rfl
     refine g0 ?_
     refine g_take 2 ?_
     exact g_hook (hN (RCX.push (x := x) (b' := b') hlt hr h6 h11 hok h103 true (deep_true x.hf h97) hoc.1 hc' hl' ht') (Nat.sub_lt_sub_left hlt (Nat.lt_succ_self _))) kR kR kR (by unfold Known; kernel_rfl) kR kR
    refine gU 16 [] 1 ?_
    refine g_val _ _ ?_ (fun w _hs => nat_succ (P := Try.prog) (t := 3) (x := .tmp 15) (y := .const (.int .i64 1)) (m := x.at_) (w := w) kR (at_small hlt hl)) ?_
    ·kernel_rfl
    refine g0 ?_
    refine g_take 2 ?_
    exact g_hook (hN (RCX.stand (x := x) hlt hr h6 h11 hok h103 true (deep_true x.hf h97)) (Nat.sub_lt_sub_left hlt (Nat.lt_succ_self _))) kR kR kR (by unfold Known; kernel_rfl) kR kR
   refine gA (List.replicate 19 2) 3 ?_
   refine g_callq _ _ _ ?_ (fun w hs => ropens_any (nth l x.at_) w) ?_
   ·kernel_rfl
   refine g_dec 103 (enters (nth l x.at_).kind) kR (fun h103 => ?_) (fun h103 => ?_)
   ·refine gA ([2]) 1 ?_
    refine gN fun b3 _hb3 => ?_
    refine gU 110 [] 0 ?_
    refine Exists.elim x.row fun oc2 hoc => ?_
    refine g_append 1 3 116 118 118 x.base x.n x.cap 2 1 1 b3 16 oc2 [.bool ((nth l x.at_).kind == 10), .int .i64 0] true kR kR kR (info_of kR) (hoc.2 _ kR) kR rfl (by simp [Value.oneCell']) Nat.one_pos (bg1 (x.small hl)) (bg2 (x.small hl)) fun b' cap' cs' _hb' hc' hl' ht' => ?_
    refine gU 16 [] 0 ?_
    refine g_val _ _ ?_ (fun w _hs => nat_succ (P := Try.prog) (t := 3) (x := .tmp 15) (y := .const (.int .i64 1)) (m := x.at_) (w := w) kR (at_small hlt hl)) ?_
    ·kernel_rfl
    refine g0 ?_
    refine g_take 2 ?_
    exact g_hook (hN (RCX.push (x := x) (b' := b') hlt hr h6 h11 hok h103 (decide ((x.n : Int) ≥ 40)) (deep_false x.hf h97 x.hn) hoc.1 hc' hl' ht') (Nat.sub_lt_sub_left hlt (Nat.lt_succ_self _))) kR kR kR (by unfold Known; kernel_rfl) kR kR
   refine gU 16 [] 1 ?_
   refine g_val _ _ ?_ (fun w _hs => nat_succ (P := Try.prog) (t := 3) (x := .tmp 15) (y := .const (.int .i64 1)) (m := x.at_) (w := w) kR (at_small hlt hl)) ?_
   ·kernel_rfl
   refine g0 ?_
   refine g_take 2 ?_
   exact g_hook (hN (RCX.stand (x := x) hlt hr h6 h11 hok h103 (decide ((x.n : Int) ≥ 40)) (deep_false x.hf h97 x.hn)) (Nat.sub_lt_sub_left hlt (Nat.lt_succ_self _))) kR kR kR (by unfold Known; kernel_rfl) kR kR
  have hno := t.inDisc.trans h91
  have hok : (!inDiscB l x.W.os || brokenB (nth l x.at_)) = true := oo_0 hno
  refine gA [] 4 ?_
  refine g_dec 97 (x.fl) kR (fun h97 => ?_) (fun h97 => ?_)
  ·refine gA (List.replicate 19 2) 3 ?_
   refine g_callq _ _ _ ?_ (fun w hs => ropens_any (nth l x.at_) w) ?_
   ·kernel_rfl
   refine g_dec 103 (enters (nth l x.at_).kind) kR (fun h103 => ?_) (fun h103 => ?_)
   ·refine gA ([2]) 1 ?_
    refine gN fun b3 _hb3 => ?_
    refine gU 110 [] 0 ?_
    refine Exists.elim x.row fun oc2 hoc => ?_
    refine g_append 1 3 116 118 118 x.base x.n x.cap 2 1 1 b3 16 oc2 [.bool ((nth l x.at_).kind == 10), .int .i64 0] true kR kR kR (info_of kR) (hoc.2 _ kR) kR rfl (by simp [Value.oneCell']) Nat.one_pos (bg1 (x.small hl)) (bg2 (x.small hl)) fun b' cap' cs' _hb' hc' hl' ht' => ?_
    refine gU 16 [] 0 ?_
    refine g_val _ _ ?_ (fun w _hs => nat_succ (P := Try.prog) (t := 3) (x := .tmp 15) (y := .const (.int .i64 1)) (m := x.at_) (w := w) kR (at_small hlt hl)) ?_
    ·kernel_rfl
    refine g0 ?_
    refine g_take 2 ?_
    exact g_hook (hN (RCX.push (x := x) (b' := b') hlt hr h6 h11 hok h103 true (deep_true x.hf h97) hoc.1 hc' hl' ht') (Nat.sub_lt_sub_left hlt (Nat.lt_succ_self _))) kR kR kR (by unfold Known; kernel_rfl) kR kR
   refine gU 16 [] 1 ?_
   refine g_val _ _ ?_ (fun w _hs => nat_succ (P := Try.prog) (t := 3) (x := .tmp 15) (y := .const (.int .i64 1)) (m := x.at_) (w := w) kR (at_small hlt hl)) ?_
   ·kernel_rfl
   refine g0 ?_
   refine g_take 2 ?_
   exact g_hook (hN (RCX.stand (x := x) hlt hr h6 h11 hok h103 true (deep_true x.hf h97)) (Nat.sub_lt_sub_left hlt (Nat.lt_succ_self _))) kR kR kR (by unfold Known; kernel_rfl) kR kR
  refine gA (List.replicate 19 2) 3 ?_
  refine g_callq _ _ _ ?_ (fun w hs => ropens_any (nth l x.at_) w) ?_
  ·kernel_rfl
  refine g_dec 103 (enters (nth l x.at_).kind) kR (fun h103 => ?_) (fun h103 => ?_)
  ·refine gA ([2]) 1 ?_
   refine gN fun b3 _hb3 => ?_
   refine gU 110 [] 0 ?_
   refine Exists.elim x.row fun oc2 hoc => ?_
   refine g_append 1 3 116 118 118 x.base x.n x.cap 2 1 1 b3 16 oc2 [.bool ((nth l x.at_).kind == 10), .int .i64 0] true kR kR kR (info_of kR) (hoc.2 _ kR) kR rfl (by simp [Value.oneCell']) Nat.one_pos (bg1 (x.small hl)) (bg2 (x.small hl)) fun b' cap' cs' _hb' hc' hl' ht' => ?_
   refine gU 16 [] 0 ?_
   refine g_val _ _ ?_ (fun w _hs => nat_succ (P := Try.prog) (t := 3) (x := .tmp 15) (y := .const (.int .i64 1)) (m := x.at_) (w := w) kR (at_small hlt hl)) ?_
   ·kernel_rfl
   refine g0 ?_
   refine g_take 2 ?_
   exact g_hook (hN (RCX.push (x := x) (b' := b') hlt hr h6 h11 hok h103 (decide ((x.n : Int) ≥ 40)) (deep_false x.hf h97 x.hn) hoc.1 hc' hl' ht') (Nat.sub_lt_sub_left hlt (Nat.lt_succ_self _))) kR kR kR (by unfold Known; kernel_rfl) kR kR
  refine gU 16 [] 1 ?_
  refine g_val _ _ ?_ (fun w _hs => nat_succ (P := Try.prog) (t := 3) (x := .tmp 15) (y := .const (.int .i64 1)) (m := x.at_) (w := w) kR (at_small hlt hl)) ?_
  ·kernel_rfl
  refine g0 ?_
  refine g_take 2 ?_
  exact g_hook (hN (RCX.stand (x := x) hlt hr h6 h11 hok h103 (decide ((x.n : Int) ≥ 40)) (deep_false x.hf h97 x.hn)) (Nat.sub_lt_sub_left hlt (Nat.lt_succ_self _))) kR kR kR (by unfold Known; kernel_rfl) kR kR
 have hge : ¬ x.at_ < l.length := by clear hN hq; simpa using h14
 refine gA [] 1 ?_
 refine g_dec 113 (decide ((↑x.n : Int) > 0)) kR (fun h113 => ?_) (fun h113 => ?_)
 ·refine gA [] 1 ?_
  refine gR (Value.int IntKind.i64 50) fun w' hs => ?_
  exact ⟨eC (x.end50 hge hl h113), hs.kk⟩
 refine gA [] 1 ?_
 refine g_dec 114 (x.fl) kR (fun h114 => ?_) (fun h114 => ?_)
 ·refine gA [] 1 ?_
  refine gR (Value.int IntKind.i64 51) fun w' hs => ?_
  exact ⟨eC (x.end51 hge hl h113 h114), hs.kk⟩
 refine gA [] 1 ?_
 refine gR (Value.int IntKind.i64 0) fun w' hs => ?_
 exact ⟨eC (x.end0 hge hl h113 h114), hs.kk⟩
theorem rcheck_big (l : List Nod) (bl ol cl : Nat) (hl : 2000 < l.length) (w : World) (hq : Sat w [] [.row bl ol 19 l.length (rowOf l)] w) :
  Calls Try.prog 51 #[.slice (some ⟨bl, ol, none⟩) l.length cl] w fun e w' => e = .returned (.int .i64 (checkB l)) ∧ Kept w w' := by
 refine g_enter (args := [.slice (some ⟨bl, ol, none⟩) l.length cl]) [] [.row bl ol 19 l.length (rowOf l)] Try.func51 rfl Try.ntmps51 kL hq ?_
 refine g0 ?_
 refine g_dec 10 (decide ((↑l.length : Int) > 2000)) kR (fun h10 => ?_) (fun h10 => ?_)
 ·refine gA [] 1 ?_
  refine gR (Value.int IntKind.i64 6) fun w' hs => ?_
  exact ⟨eC (by unfold checkB; rw [decide_eq_true hl, cond_true]), hs.kk⟩
 exact absurd h10 (by clear hq; simp; omega)
theorem rcheck_any (l : List Nod) (bl ol cl : Nat) (w : World) (hq : Sat w [] [.row bl ol 19 l.length (rowOf l)] w) :
  Calls Try.prog 51 #[.slice (some ⟨bl, ol, none⟩) l.length cl] w fun e w' => e = .returned (.int .i64 (checkB l)) ∧ Kept w w' := by
 by_cases hl : l.length ≤ 2000
 ·exact rcheck_row l bl ol cl hl w hq
 exact rcheck_big l bl ol cl (by omega) w hq
end Go.Proofs.Ytcncfmjfgdbfeab
