/- NodR NodS Fast8. -/
import Derived.Test.YtcncfmjfgdbfeabM10
namespace Go.Proofs.Ytcncfmjfgdbfeab
set_option maxRecDepth 100000
set_option maxHeartbeats 4000000
open Go.RowKit
theorem opC_set {os : List (Nat × Nat)} {p : Nat × Nat} {oc : List Value} {s : Nat} (h : oc.take ((os.length + 1) * 2) = opC (os ++ [p])) (_hl : (os.length + 1) * 2 ≤ oc.length) :
  (oc.set (0 + os.length * 2 + 1) (.int .i64 (s : Int))).take ((os.length + 1) * 2) = opC (os ++ [(p.1, s)]) := by
 have h1 := opC_length os
 rw [List.take_set, h, opC_append, opC_append, List.set_append_right _ _ (by omega)]
 congr 1
 rw [show 0 + os.length * 2 + 1 - (opC os).length = 1 by omega]
 rfl
theorem OpenIs.less {os : List (Nat × Nat)} {p : Nat × Nat} {bo cap : Nat} {oc : List Value} (h : oc.take ((os.length + 1) * 2) = opC (os ++ [p])) (h1 : oc.length = cap * 2) (h2 : os.length + 1 ≤ cap) :
  OpenIs os (some ⟨bo, 0, none⟩) cap (.obj true bo oc 140) :=
 .inr ⟨bo, oc, rfl, rfl, h1, by omega, by
  have hl := opC_length os
  have := congrArg (List.take (os.length * 2)) h
  rw [List.take_take, Nat.min_eq_left (by omega), opC_append, List.take_append_of_le_length (by omega)] at this
  rw [this, List.take_of_length_le (by omega)]⟩
theorem part_no (l : List Nod) (bw bl ol cl bb : Nat) (beh : List Value) (base : Option Addr) (cap : Nat) (d : Int) (e : HE) (os : List (Nat × Nat)) (at_ : Nat) (w0 : World) (bs : List Nat) (w : World) (hq : Sat w0 bs (walkHp l bw bl ol cl bb beh base os.length cap d e) w) (ho : OpenIs os base cap e) (hos : ∀ p ∈ os, p.1 < l.length) (hm : os.length < 9223372036854775807) (hd : inDiscB l os = false) :
  Calls Try.prog 106 #[.pointer (some ⟨bw, 0, none⟩), .int .i64 (at_ : Int)] w fun e' w' => e' = .returned (.bool false) ∧ Sat w0 bs (walkHp l bw bl ol cl bb beh base os.length cap d e) w' := by
 refine g_enter (args := [.pointer (some ⟨bw, 0, none⟩), .int .i64 (at_ : Int)]) (owned (walkHp l bw bl ol cl bb beh base os.length cap d e)) (walkHp l bw bl ol cl bb beh base os.length cap d e) Try.func106 rfl Try.ntmps106 kL hq.rebase ?_
 refine g0 ?_
 refine g_callq _ _ _ ?_ (fun w hs => indisc_any l bw bl ol cl bb beh base cap d e os _ _ w (hs.at kR) ho hos hm) ?_
 ·kernel_rfl
 refine g0 ?_
 refine g_dec 8 (!inDiscB l os) kR (fun h8 => ?_) (fun h8 => ?_)
 ·refine gA [] 1 ?_
  refine gR (Value.bool false) fun w' hs => ?_
  exact ⟨rfl, hq.unbase (hs.at kR)⟩
 exact absurd h8 (by intro hx; first | (simp [hd] at hx; done) | (simp [hd] at hx; omega))
theorem indisc2 (l : List Nod) (bw bl ol cl bb bo : Nat) (beh oc : List Value) (cap : Nat) (d : Int) (os : List (Nat × Nat)) (a s : Nat) (w0 : World) (bs : List Nat) (w : World) (hq : Sat w0 bs (walkHp l bw bl ol cl bb beh (some ⟨bo, 0, none⟩) (os.length + 1) cap d (.obj true bo oc 140)) w)
  (ho : OpenIs (os ++ [(a, s)]) (some ⟨bo, 0, none⟩) cap (.obj true bo oc 140)) (hos : ∀ p ∈ os ++ [(a, s)], p.1 < l.length) (hm : os.length + 1 < 9223372036854775807) :
  Calls Try.prog 114 #[.pointer (some ⟨bw, 0, none⟩)] w fun e w' => e = .returned (.bool (inDiscB l (os ++ [(a, s)]))) ∧ Kept w w' :=
 indisc_any l bw bl ol cl bb beh (some ⟨bo, 0, none⟩) cap d _ (os ++ [(a, s)]) w0 bs w (hq.at (by rw [List.length_append]; rfl)) ho hos (by rw [List.length_append]; exact hm)
theorem part_yes (l : List Nod) (bw bl ol cl bb bo : Nat) (beh oc : List Value) (cap : Nat) (d : Int) (os : List (Nat × Nat)) (a s at_ : Nat) (w0 : World) (bs : List Nat) (w : World) (hq : Sat w0 bs (walkHp l bw bl ol cl bb beh (some ⟨bo, 0, none⟩) (os.length + 1) cap d (.obj true bo oc 140)) w) (ho : OpenIs (os ++ [(a, s)]) (some ⟨bo, 0, none⟩) cap (.obj true bo oc 140)) (hos : ∀ p ∈ os ++ [(a, s)], p.1 < l.length) (hm : os.length + 1 < 9223372036854775807) (h0 : oc[0 + os.length * 2]? = some (.int .i64 (a : Int))) (h1 : oc[0 + os.length * 2 + 1]? = some (.int .i64 (s : Int))) (hs1 : s < 9223372036854775807) (hd : inDiscB l (os ++ [(a, s)]) = true) :
  Calls Try.prog 106 #[.pointer (some ⟨bw, 0, none⟩), .int .i64 (at_ : Int)] w fun e' w' => e' = .returned (.bool (decide (s + 1 ≤ 2))) ∧ Sat w0 bs (walkHp l bw bl ol cl bb beh (some ⟨bo, 0, none⟩) (os.length + 1) cap d (.obj true bo (oc.set (0 + os.length * 2 + 1) (.int .i64 ((s + 1 : Nat) : Int))) 140)) w' := by
 have hlt := (List.getElem?_eq_some_iff.1 h1).1
 refine g_enter (args := [.pointer (some ⟨bw, 0, none⟩), .int .i64 (at_ : Int)]) (owned (walkHp l bw bl ol cl bb beh (some ⟨bo, 0, none⟩) (os.length + 1) cap d (.obj true bo oc 140))) (walkHp l bw bl ol cl bb beh (some ⟨bo, 0, none⟩) (os.length + 1) cap d (.obj true bo oc 140)) Try.func106 rfl Try.ntmps106 kL hq.rebase ?_
 refine g0 ?_
 refine g_callq _ _ _ ?_ (fun w hs => indisc2 l bw bl ol cl bb bo beh oc cap d os a s _ _ w (hs.at kR) ho hos hm) ?_
 ·kernel_rfl
 refine g0 ?_
 refine g_dec 8 (!inDiscB l (os ++ [(a, s)])) kR (fun h8 => ?_) (fun h8 => ?_)
 ·exact absurd h8 (by intro hx; first | (simp [hd] at hx; done) | (simp [hd] at hx; omega))
 refine gA [] 1 ?_
 refine gD 13 ?_
 refine lU 18 ([0, 0]) 0 ?_
 refine l_val _ _ ?_ (fun w _hs => .inl (len_pred (P := Try.prog) (t := 3) (x := .tmp 17) (y := .const (.int .i64 1)) (m := os.length) (w := w) kR (by omega))) ?_
 ·kernel_rfl
 refine l_val _ _ ?_ (fun w _hs => .inl (idx_run (P := Try.prog) (T := 120) (E := 140) (b := bo) (o := 0) (n := os.length + 1) (c := cap) (k := os.length) (sz := 2) (kk := .i64) w kR kR (Nat.lt_succ_self os.length))) ?_
 ·kernel_rfl
 refine l0 ?_
 refine lE ?_
 refine gU 23 [] 0 ?_
 refine g_val _ _ ?_ (fun w _hs => Sat.objload1 (T := 3) (T' := 140) (i := 3) (b := bo) (k := 0 + os.length * 2 + 1) (own := true) (cs := oc) (v := .int .i64 (s : Int)) _hs kR (h1) kR) ?_
 ·kernel_rfl
 refine g_val _ _ ?_ (fun w _hs => nat_succ (P := Try.prog) (t := 3) (x := .tmp 23) (y := .const (.int .i64 1)) (m := s) (w := w) kR hs1) ?_
 ·kernel_rfl
 refine g0 ?_
 refine g_store1 3 3 140 bo (0 + os.length * 2 + 1) oc (.int .i64 ((s + 1 : Nat) : Int)) kR kR hlt rfl kR ?_
 refine gU 28 [] 0 ?_
 refine g_val _ _ ?_ (fun w _hs => Sat.objload1 (T := 3) (T' := 140) (i := 3) (b := bo) (k := 0 + os.length * 2 + 1) (own := true) (cs := (oc.set (0 + os.length * 2 + 1) (.int .i64 ((s + 1 : Nat) : Int)))) (v := .int .i64 ((s + 1 : Nat) : Int)) _hs kR (by rw [List.getElem?_set_self hlt]) kR) ?_
 ·kernel_rfl
 refine g0 ?_
 refine gR (Value.bool (decide ((↑(s + 1) : Int) ≤ 2))) fun w' hs => ?_
 exact ⟨ret_bool (by clear hs; rw [Bool.eq_iff_iff]; simp only [decide_eq_true_eq]; omega), hq.unbase (hs.at kR)⟩
theorem leave_none (l : List Nod) (bw bl ol cl bb : Nat) (beh : List Value) (base : Option Addr) (cap : Nat) (d : Int) (e : HE) (at_ : Nat) (w0 : World) (bs : List Nat) (w : World) (hq : Sat w0 bs (walkHp l bw bl ol cl bb beh base 0 cap d e) w)  :
  Calls Try.prog 105 #[.pointer (some ⟨bw, 0, none⟩), .int .i64 (at_ : Int)] w fun e' w' => e' = .returned (.bool false) ∧ Sat w0 bs (walkHp l bw bl ol cl bb beh base 0 cap d e) w' := by
 refine g_enter (args := [.pointer (some ⟨bw, 0, none⟩), .int .i64 (at_ : Int)]) (owned (walkHp l bw bl ol cl bb beh base 0 cap d e)) (walkHp l bw bl ol cl bb beh base 0 cap d e) Try.func105 rfl Try.ntmps105 kL hq.rebase ?_
 refine gA ([0]) 14 ?_
 refine gR (Value.bool false) fun w' hs => ?_
 exact ⟨rfl, hq.unbase (hs.at kR)⟩
theorem leave_stop (l : List Nod) (bw bl ol cl bb bo : Nat) (beh oc : List Value) (cap : Nat) (d : Int) (os : List (Nat × Nat)) (a s at_ : Nat) (w0 : World) (bs : List Nat) (w : World) (hq : Sat w0 bs (walkHp l bw bl ol cl bb beh (some ⟨bo, 0, none⟩) (os.length + 1) cap d (.obj true bo oc 140)) w) (ho : OpenIs (os ++ [(a, s)]) (some ⟨bo, 0, none⟩) cap (.obj true bo oc 140)) (hos : ∀ p ∈ os ++ [(a, s)], p.1 < l.length) (hm : os.length + 1 < 9223372036854775807) (h0 : oc[0 + os.length * 2]? = some (.int .i64 (a : Int))) (h1 : oc[0 + os.length * 2 + 1]? = some (.int .i64 (s : Int))) (hs1 : s < 9223372036854775807) (hd : inDiscB l (os ++ [(a, s)]) = true) (hs2 : s ≠ 2) :
  Calls Try.prog 105 #[.pointer (some ⟨bw, 0, none⟩), .int .i64 (at_ : Int)] w fun e' w' => e' = .returned (.bool false) ∧ Sat w0 bs (walkHp l bw bl ol cl bb beh (some ⟨bo, 0, none⟩) (os.length + 1) cap d (.obj true bo oc 140)) w' := by
 refine g_enter (args := [.pointer (some ⟨bw, 0, none⟩), .int .i64 (at_ : Int)]) (owned (walkHp l bw bl ol cl bb beh (some ⟨bo, 0, none⟩) (os.length + 1) cap d (.obj true bo oc 140))) (walkHp l bw bl ol cl bb beh (some ⟨bo, 0, none⟩) (os.length + 1) cap d (.obj true bo oc 140)) Try.func105 rfl Try.ntmps105 kL hq.rebase ?_
 refine gU 11 ([0]) 0 ?_
 refine g_val _ _ ?_ (fun w _hs => len_pred (P := Try.prog) (t := 3) (x := .tmp 10) (y := .const (.int .i64 1)) (m := os.length) (w := w) kR (by omega)) ?_
 ·kernel_rfl
 refine gA [] 1 ?_
 refine g_callq _ _ _ ?_ (fun w hs => indisc2 l bw bl ol cl bb bo beh oc cap d os a s _ _ w (hs.at kR) ho hos hm) ?_
 ·kernel_rfl
 refine gA [] 1 ?_
 refine g_dec 17 (inDiscB l (os ++ [(a, s)])) kR (fun h17 => ?_) (fun h17 => ?_)
 ·refine gU 23 ([0]) 5 ?_
  refine g_val _ _ ?_ (fun w _hs => idx_run (P := Try.prog) (T := 120) (E := 140) (b := bo) (o := 0) (n := os.length + 1) (c := cap) (k := os.length) (sz := 2) (kk := .i64) w kR kR (Nat.lt_succ_self os.length)) ?_
  ·kernel_rfl
  refine gU 25 [] 1 ?_
  refine g_val _ _ ?_ (fun w _hs => Sat.objload1 (T := 3) (T' := 140) (i := 3) (b := bo) (k := 0 + os.length * 2 + 1) (own := true) (cs := oc) (v := .int .i64 (s : Int)) _hs kR (h1) kR) ?_
  ·kernel_rfl
  refine gA [] 2 ?_
  refine g_dec 28 ((↑s : Int) != 2) kR (fun h28 => ?_) (fun h28 => ?_)
  ·refine gA [] 1 ?_
   refine gR (Value.bool false) fun w' hs => ?_
   exact ⟨rfl, hq.unbase (hs.at kR)⟩
  exact absurd h28 (by intro hx; first | (simp [] at hx; done) | (simp [] at hx; omega))
 exact absurd h17 (by intro hx; first | (simp [hd] at hx; done) | (simp [hd] at hx; omega))
theorem leave_go1 (l : List Nod) (bw bl ol cl bb bo : Nat) (beh oc : List Value) (cap : Nat) (d : Int) (os : List (Nat × Nat)) (a s at_ : Nat) (w0 : World) (bs : List Nat) (w : World) (hq : Sat w0 bs (walkHp l bw bl ol cl bb beh (some ⟨bo, 0, none⟩) (os.length + 1) cap d (.obj true bo oc 140)) w) (ho : OpenIs (os ++ [(a, s)]) (some ⟨bo, 0, none⟩) cap (.obj true bo oc 140)) (hos : ∀ p ∈ os ++ [(a, s)], p.1 < l.length) (hm : os.length + 1 < 9223372036854775807) (h0 : oc[0 + os.length * 2]? = some (.int .i64 (a : Int))) (h1 : oc[0 + os.length * 2 + 1]? = some (.int .i64 (s : Int))) (hs1 : s < 9223372036854775807) (hd : inDiscB l (os ++ [(a, s)]) = false) (hat : at_ < l.length) (hn : l.length < 9223372036854775807) (hbeh : beh.length = l.length) (hcap : os.length + 1 ≤ cap) :
  Calls Try.prog 105 #[.pointer (some ⟨bw, 0, none⟩), .int .i64 (at_ : Int)] w fun e' w' => e' = .returned (.bool true) ∧ Sat w0 bs (walkHp l bw bl ol cl bb (beh.set a (.int .i64 ((at_ + 1 : Nat) : Int))) (some ⟨bo, 0, none⟩) os.length cap d (.obj true bo oc 140)) w' := by
 have ha : a < l.length := hos (a, s) (by simp)
 refine g_enter (args := [.pointer (some ⟨bw, 0, none⟩), .int .i64 (at_ : Int)]) (owned (walkHp l bw bl ol cl bb beh (some ⟨bo, 0, none⟩) (os.length + 1) cap d (.obj true bo oc 140))) (walkHp l bw bl ol cl bb beh (some ⟨bo, 0, none⟩) (os.length + 1) cap d (.obj true bo oc 140)) Try.func105 rfl Try.ntmps105 kL hq.rebase ?_
 refine gU 11 ([0]) 0 ?_
 refine g_val _ _ ?_ (fun w _hs => len_pred (P := Try.prog) (t := 3) (x := .tmp 10) (y := .const (.int .i64 1)) (m := os.length) (w := w) kR (by omega)) ?_
 ·kernel_rfl
 refine gA [] 1 ?_
 refine g_callq _ _ _ ?_ (fun w hs => indisc2 l bw bl ol cl bb bo beh oc cap d os a s _ _ w (hs.at kR) ho hos hm) ?_
 ·kernel_rfl
 refine gA [] 1 ?_
 refine g_dec 17 (inDiscB l (os ++ [(a, s)])) kR (fun h17 => ?_) (fun h17 => ?_)
 ·exact absurd h17 (by intro hx; first | (simp [hd] at hx; done) | (simp [hd] at hx; omega))
 refine gA [] 11 ?_
 refine gD 16 ?_
 refine lU 39 ([0, 0]) 0 ?_
 refine l_val _ _ ?_ (fun w _hs => .inl (idx_run (P := Try.prog) (T := 120) (E := 140) (b := bo) (o := 0) (n := os.length + 1) (c := cap) (k := os.length) (sz := 2) (kk := .i64) w kR kR (Nat.lt_succ_self os.length))) ?_
 ·kernel_rfl
 refine lU 41 [] 0 ?_
 refine l_val _ _ ?_ (fun w _hs => .inl (Sat.objload1 (T := 3) (T' := 140) (i := 3) (b := bo) (k := 0 + os.length * 2) (own := true) (cs := oc) (v := .int .i64 (a : Int)) _hs kR (h0) kR)) ?_
 ·kernel_rfl
 refine lU 43 [] 0 ?_
 refine l_val _ _ ?_ (fun w _hs => .inl (nat_succ (P := Try.prog) (t := 3) (x := .tmp 42) (y := .const (.int .i64 1)) (m := at_) (w := w) kR (by omega))) ?_
 ·kernel_rfl
 refine l_val _ _ ?_ (fun w _hs => .inl (idx_run (P := Try.prog) (T := 41) (E := 3) (b := bb) (o := 0) (n := l.length) (c := l.length) (k := a) (sz := 1) (kk := .i64) w kR kR ha)) ?_
 ·kernel_rfl
 refine lE ?_
 refine g_store1 2 3 3 bb (0 + a * 1) beh (.int .i64 ((at_ + 1 : Nat) : Int)) kR kR (by omega) rfl kR ?_
 refine gU 51 ([0]) 0 ?_
 refine g_val _ _ ?_ (fun w _hs => front_run (P := Try.prog) (T := 120) (E := 140) (b := bo) (o := 0) (n := os.length + 1) (c := cap) (m := os.length) (sz := 2) (kk := .i64) w kR kR (by omega)) ?_
 ·kernel_rfl
 refine gA ([0]) 0 ?_
 refine gR (Value.bool true) fun w' hs => ?_
 exact ⟨rfl, hq.unbase (hs.at (by rw [show 0 + a * 1 = a by omega]; kernel_rfl))⟩
theorem leave_go2 (l : List Nod) (bw bl ol cl bb bo : Nat) (beh oc : List Value) (cap : Nat) (d : Int) (os : List (Nat × Nat)) (a s at_ : Nat) (w0 : World) (bs : List Nat) (w : World) (hq : Sat w0 bs (walkHp l bw bl ol cl bb beh (some ⟨bo, 0, none⟩) (os.length + 1) cap d (.obj true bo oc 140)) w) (ho : OpenIs (os ++ [(a, s)]) (some ⟨bo, 0, none⟩) cap (.obj true bo oc 140)) (hos : ∀ p ∈ os ++ [(a, s)], p.1 < l.length) (hm : os.length + 1 < 9223372036854775807) (h0 : oc[0 + os.length * 2]? = some (.int .i64 (a : Int))) (h1 : oc[0 + os.length * 2 + 1]? = some (.int .i64 (s : Int))) (hs1 : s < 9223372036854775807) (hd : inDiscB l (os ++ [(a, s)]) = true) (hs2 : s = 2) (hat : at_ < l.length) (hn : l.length < 9223372036854775807) (hbeh : beh.length = l.length) (hcap : os.length + 1 ≤ cap) :
  Calls Try.prog 105 #[.pointer (some ⟨bw, 0, none⟩), .int .i64 (at_ : Int)] w fun e' w' => e' = .returned (.bool true) ∧ Sat w0 bs (walkHp l bw bl ol cl bb (beh.set a (.int .i64 ((at_ + 1 : Nat) : Int))) (some ⟨bo, 0, none⟩) os.length cap d (.obj true bo oc 140)) w' := by
 have ha : a < l.length := hos (a, s) (by simp)
 refine g_enter (args := [.pointer (some ⟨bw, 0, none⟩), .int .i64 (at_ : Int)]) (owned (walkHp l bw bl ol cl bb beh (some ⟨bo, 0, none⟩) (os.length + 1) cap d (.obj true bo oc 140))) (walkHp l bw bl ol cl bb beh (some ⟨bo, 0, none⟩) (os.length + 1) cap d (.obj true bo oc 140)) Try.func105 rfl Try.ntmps105 kL hq.rebase ?_
 refine gU 11 ([0]) 0 ?_
 refine g_val _ _ ?_ (fun w _hs => len_pred (P := Try.prog) (t := 3) (x := .tmp 10) (y := .const (.int .i64 1)) (m := os.length) (w := w) kR (by omega)) ?_
 ·kernel_rfl
 refine gA [] 1 ?_
 refine g_callq _ _ _ ?_ (fun w hs => indisc2 l bw bl ol cl bb bo beh oc cap d os a s _ _ w (hs.at kR) ho hos hm) ?_
 ·kernel_rfl
 refine gA [] 1 ?_
 refine g_dec 17 (inDiscB l (os ++ [(a, s)])) kR (fun h17 => ?_) (fun h17 => ?_)
 ·refine gU 23 ([0]) 5 ?_
  refine g_val _ _ ?_ (fun w _hs => idx_run (P := Try.prog) (T := 120) (E := 140) (b := bo) (o := 0) (n := os.length + 1) (c := cap) (k := os.length) (sz := 2) (kk := .i64) w kR kR (Nat.lt_succ_self os.length)) ?_
  ·kernel_rfl
  refine gU 25 [] 1 ?_
  refine g_val _ _ ?_ (fun w _hs => Sat.objload1 (T := 3) (T' := 140) (i := 3) (b := bo) (k := 0 + os.length * 2 + 1) (own := true) (cs := oc) (v := .int .i64 (s : Int)) _hs kR (h1) kR) ?_
  ·kernel_rfl
  refine gA [] 2 ?_
  refine g_dec 28 ((↑s : Int) != 2) kR (fun h28 => ?_) (fun h28 => ?_)
  ·exact absurd h28 (by intro hx; first | (simp [] at hx; done) | (simp [] at hx; omega))
  refine gA [] 1 ?_
  refine gD 16 ?_
  refine lU 39 ([0, 0]) 0 ?_
  refine l_val _ _ ?_ (fun w _hs => .inl (idx_run (P := Try.prog) (T := 120) (E := 140) (b := bo) (o := 0) (n := os.length + 1) (c := cap) (k := os.length) (sz := 2) (kk := .i64) w kR kR (Nat.lt_succ_self os.length))) ?_
  ·kernel_rfl
  refine lU 41 [] 0 ?_
  refine l_val _ _ ?_ (fun w _hs => .inl (Sat.objload1 (T := 3) (T' := 140) (i := 3) (b := bo) (k := 0 + os.length * 2) (own := true) (cs := oc) (v := .int .i64 (a : Int)) _hs kR (h0) kR)) ?_
  ·kernel_rfl
  refine lU 43 [] 0 ?_
  refine l_val _ _ ?_ (fun w _hs => .inl (nat_succ (P := Try.prog) (t := 3) (x := .tmp 42) (y := .const (.int .i64 1)) (m := at_) (w := w) kR (by omega))) ?_
  ·kernel_rfl
  refine l_val _ _ ?_ (fun w _hs => .inl (idx_run (P := Try.prog) (T := 41) (E := 3) (b := bb) (o := 0) (n := l.length) (c := l.length) (k := a) (sz := 1) (kk := .i64) w kR kR ha)) ?_
  ·kernel_rfl
  refine lE ?_
  refine g_store1 2 3 3 bb (0 + a * 1) beh (.int .i64 ((at_ + 1 : Nat) : Int)) kR kR (by omega) rfl kR ?_
  refine gU 51 ([0]) 0 ?_
  refine g_val _ _ ?_ (fun w _hs => front_run (P := Try.prog) (T := 120) (E := 140) (b := bo) (o := 0) (n := os.length + 1) (c := cap) (m := os.length) (sz := 2) (kk := .i64) w kR kR (by omega)) ?_
  ·kernel_rfl
  refine gA ([0]) 0 ?_
  refine gR (Value.bool true) fun w' hs => ?_
  exact ⟨rfl, hq.unbase (hs.at (by rw [show 0 + a * 1 = a by omega]; kernel_rfl))⟩
 exact absurd h17 (by intro hx; first | (simp [hd] at hx; done) | (simp [hd] at hx; omega))
end Go.Proofs.Ytcncfmjfgdbfeab
namespace Go.Proofs.Ytcncfmjfgdbfeab
open Go.RowKit
structure Wk where
 beh : List Nat
 os : List (Nat × Nat)
 d : Int
def leaveW (l : List Nod) (at_ : Nat) (W : Wk) : Option Wk :=
 match W.os.getLast? with
 | none => none
 | some p => bif inDiscB l W.os && !decide (p.2 = 2) then none else some ⟨W.beh.set p.1 (at_ + 1), W.os.dropLast, W.d⟩
def partW (l : List Nod) (W : Wk) : Option Wk :=
 match W.os.getLast? with
 | none => none
 | some p => bif inDiscB l W.os && decide (p.2 + 1 ≤ 2) then some ⟨W.beh, W.os.dropLast ++ [(p.1, p.2 + 1)], W.d⟩ else none
def enters (k : Int) : Bool := decide (k = 4) || decide (k = 5) || decide (k = 10) || decide (k = 13) || decide (k = 17)
def balN (n : Nod) : Int := if n.kind = 6 then -1 else if enters n.kind then 1 else 0
def stepW (l : List Nod) (at_ : Nat) (W : Wk) : Option Wk :=
 bif decide ((nth l at_).kind = 6) then leaveW l at_ W
 else bif decide ((nth l at_).kind = 11) then partW l W
 else bif !inDiscB l W.os || brokenB (nth l at_) then
  some (bif enters (nth l at_).kind then ⟨W.beh, W.os ++ [(at_, 0)], deep W.d W.os.length⟩ else ⟨W.beh.set at_ (at_ + 1), W.os, deep W.d W.os.length⟩)
 else none
def behC (beh : List Nat) : List Value := beh.map fun x => .int .i64 ((x : Nat) : Int)
theorem behC_set (beh : List Nat) (k v : Nat) : (behC beh).set k (.int .i64 ((v : Nat) : Int)) = behC (beh.set k v) := by simp [behC, List.map_set]
theorem behC_length (beh : List Nat) : (behC beh).length = beh.length := by simp [behC]
structure Inv (l : List Nod) (at_ : Nat) (W : Wk) (base : Option Addr) (cap : Nat) (e : HE) : Prop where
 op : OpenIs W.os base cap e
 os : ∀ p ∈ W.os, p.1 < l.length ∧ p.2 ≤ 2
 beh : W.beh.length = l.length
 len : W.os.length ≤ at_
 eo : e.own = true ∨ ¬ e.live
abbrev wkHp (l : List Nod) (bw bl ol cl bb : Nat) (W : Wk) (base : Option Addr) (cap : Nat) (e : HE) : List HE :=
 walkHp l bw bl ol cl bb (behC W.beh) base W.os.length cap W.d e
theorem Sat.frame {w0 w w' : World} {bs : List Nat} {hp hp' rest : List HE} (h : Sat w0 bs (hp ++ rest) w) (h' : Sat w (owned hp) hp' w') (hn : ∀ e ∈ hp', e.own = true ∨ e ∈ hp ∨ ¬ e.live) : Sat w0 bs (hp' ++ rest) w' := by
 have h0 : Sat w0 bs hp w := by have := h.take hp.length; rwa [List.take_left'] at this; rfl
 have hu := h0.unbase h'
 -- an entry of the rest is far from what is written
 have far : ∀ (i : Nat) (e : HE), rest[i]? = some e → e.live → e.blk ∉ owned hp ∧ e.blk < w.heap.size := fun i e hi hl => by
  have hh := h.holds e (List.mem_append.2 (.inr (List.mem_of_getElem? hi)))
  refine ⟨fun hb => ?_, HE.holds_lt hh hl⟩
  obtain ⟨cs, T, hm⟩ := owned_mem hb
  obtain ⟨j, hj⟩ := List.mem_iff_getElem?.1 hm
  have hjl : j < hp.length := (List.getElem?_eq_some_iff.1 hj).1
  exact h.apart j (hp.length + i) (.obj true e.blk cs T) e (by omega) (by rw [List.getElem?_append_left hjl]; exact hj) (by rw [List.getElem?_append_right (by omega), Nat.add_sub_cancel_left]; exact hi) rfl hl rfl
 have kept : ∀ (i : Nat) (e : HE), rest[i]? = some e → e.holds w0 bs w' := fun i e hi => by
  have hh := h.holds e (List.mem_append.2 (.inr (List.mem_of_getElem? hi)))
  exact HE.holds_of_block hh h'.kept.size (fun hl => h'.kept.block _ (far i e hi hl).2 (far i e hi hl).1)
 -- where what is written lies
 have new : ∀ e : HE, e ∈ hp' → e.own = true → w.heap.size ≤ e.blk ∨ e.blk ∈ owned hp := fun e he ho => by
  have hh := h'.holds e he
  cases e with
  | obj o b cs T => exact hh.2 ho
  | row b off sz n f => cases ho
 have split : ∀ {k : Nat} {e : HE}, (hp' ++ rest)[k]? = some e → (k < hp'.length ∧ hp'[k]? = some e) ∨ (∃ i, k = hp'.length + i ∧ rest[i]? = some e) := fun {k e} hk => by
  rcases Nat.lt_or_ge k hp'.length with hl | hl
  ·exact .inl ⟨hl, by rwa [List.getElem?_append_left hl] at hk⟩
  exact .inr ⟨k - hp'.length, by omega, by rwa [List.getElem?_append_right hl] at hk⟩
 have own_live : ∀ e : HE, e.own = true → e.live := fun e ho => by cases e with
  | obj o b cs T => trivial
  | row b off sz n f => cases ho
 have apart2 : ∀ (e e' : HE) (i : Nat), e ∈ hp' → rest[i]? = some e' → (e.own = true ∧ e'.live ∨ e'.own = true ∧ e.live) → e.blk ≠ e'.blk := fun e e' i he hi hc => by
  by_cases ho : e.own = true
  ·have hl' : e'.live := by rcases hc with ⟨_, h1⟩ | ⟨h1, _⟩; exact h1; exact own_live _ h1
   rcases new e he ho with h1 | h1
   ·have := (far i e' hi hl').2; omega
   exact fun e2 => (far i e' hi hl').1 (e2 ▸ h1)
  rcases hc with ⟨h1, _⟩ | ⟨ho', hl⟩
  ·exact absurd h1 ho
  rcases hn e he with h1 | h1 | h1
  ·exact absurd h1 ho
  ·obtain ⟨j, hj⟩ := List.mem_iff_getElem?.1 h1
   have hjl : j < hp.length := (List.getElem?_eq_some_iff.1 hj).1
   exact fun e2 => h.apart (hp.length + i) j e' e (by omega) (by rw [List.getElem?_append_right (by omega), Nat.add_sub_cancel_left]; exact hi) (by rw [List.getElem?_append_left hjl]; exact hj) ho' hl e2.symm
  exact absurd hl h1
 refine ⟨hu.kept, fun e he => ?_, fun k m e e' hkm hk hm ho hl => ?_⟩
 ·rcases List.mem_append.1 he with he | he
  ·exact hu.holds e he
  obtain ⟨i, hi⟩ := List.mem_iff_getElem?.1 he
  exact kept i e hi
 rcases split hk with ⟨_, hk⟩ | ⟨i, rfl, hi⟩ <;> rcases split hm with ⟨_, hm⟩ | ⟨j, rfl, hj⟩
 ·exact h'.apart k m e e' hkm hk hm ho hl
 ·exact apart2 e e' j (List.mem_of_getElem? hk) hj (.inl ⟨ho, hl⟩)
 ·exact fun e2 => apart2 e' e i (List.mem_of_getElem? hm) hi (.inr ⟨ho, hl⟩) e2.symm
 exact h.apart (hp.length + i) (hp.length + j) e e' (by omega) (by rw [List.getElem?_append_right (by omega), Nat.add_sub_cancel_left]; exact hi) (by rw [List.getElem?_append_right (by omega), Nat.add_sub_cancel_left]; exact hj) ho hl
structure StepR (l : List Nod) (at_ : Nat) (W : Wk) where
 ok : Bool
 W' : Wk
 base : Option Addr
 cap : Nat
 e : HE
 eo : e.own = true ∨ ¬ e.live
 is : ok = (stepW l at_ W).isSome
 good : ok = true → stepW l at_ W = some W' ∧ Inv l (at_ + 1) W' base cap e
def StepQ (l : List Nod) (bw bl ol cl bb at_ : Nat) (W : Wk) (w0 : World) (bs : List Nat) (e' : Ending) (w' : World) : Prop :=
 ∃ r : StepR l at_ W, e' = .returned (.bool r.ok) ∧ Sat w0 bs (wkHp l bw bl ol cl bb r.W' r.base r.cap r.e) w'
section
variable (l : List Nod) (bw bl ol cl bb : Nat) (base : Option Addr) (cap : Nat) (e : HE) (W : Wk) (at_ : Nat) (w0 : World) (bs : List Nat) (w : World)
 (hq : Sat w0 bs (wkHp l bw bl ol cl bb W base cap e) w) (hI : Inv l at_ W base cap e) (hat : at_ < l.length) (hl : l.length ≤ 2000)
include hq hI hat hl
theorem step_stand (h6 : (nth l at_).kind ≠ 6) (h11 : (nth l at_).kind ≠ 11) (hen : enters (nth l at_).kind = false) :
  Calls Try.prog 103 #[.pointer (some ⟨bw, 0, none⟩), .int .i64 (at_ : Int)] w (StepQ l bw bl ol cl bb at_ W w0 bs) := by
 have hlen := hI.len
 have hs : stepW l at_ W = bif !inDiscB l W.os || brokenB (nth l at_) then some ⟨W.beh.set at_ (at_ + 1), W.os, deep W.d W.os.length⟩ else none := by simp [stepW, h6, h11, hen]
 refine (stand_any l bw bl ol cl bb (behC W.beh) base cap W.d e W.os at_ w0 bs w hq hI.op (fun p hp => (hI.os p hp).1) (by omega) hat (by rw [behC_length, hI.beh]) (by omega)).mono ?_
 rintro e' w' ⟨rfl, hw⟩
 rw [behC_set] at hw
 refine ⟨⟨!inDiscB l W.os || brokenB (nth l at_), ⟨W.beh.set at_ (at_ + 1), W.os, deep W.d W.os.length⟩, base, cap, e, hI.eo, ?_, fun hk => ?_⟩, rfl, hw⟩
 ·rw [hs]; cases (!inDiscB l W.os || brokenB (nth l at_)) <;> rfl
 refine ⟨by rw [hs, hk]; rfl, ⟨hI.op, hI.os, ?_, ?_, hI.eo⟩⟩
 ·simp [hI.beh]
 simp only; omega
theorem step_enter (hen : enters (nth l at_).kind = true) :
  Calls Try.prog 104 #[.pointer (some ⟨bw, 0, none⟩), .int .i64 (at_ : Int)] w (StepQ l bw bl ol cl bb at_ W w0 bs) := by
 have hlen := hI.len
 have h6 : (nth l at_).kind ≠ 6 := fun h => by rw [h] at hen; revert hen; decide
 have h11 : (nth l at_).kind ≠ 11 := fun h => by rw [h] at hen; revert hen; decide
 have hs : stepW l at_ W = bif !inDiscB l W.os || brokenB (nth l at_) then some ⟨W.beh, W.os ++ [(at_, 0)], deep W.d W.os.length⟩ else none := by simp [stepW, h6, h11, hen]
 refine (enter_any l bw bl ol cl bb (behC W.beh) base cap W.d e W.os at_ w0 bs w hq hI.op (fun p hp => (hI.os p hp).1) (by omega) hat (by omega)).mono ?_
 rintro e' w' ⟨rfl, base', cap', e2, ho, hw⟩
 have heo : e2.own = true ∨ ¬ e2.live := by
  obtain ⟨bo, oc, _, he, _⟩ := ho.last
  exact .inl (by rw [he]; rfl)
 refine ⟨⟨!inDiscB l W.os || brokenB (nth l at_), ⟨W.beh, W.os ++ [(at_, 0)], deep W.d W.os.length⟩, base', cap', e2, heo, ?_, fun hk => ?_⟩, rfl, hw.at ?_⟩
 ·rw [hs]; cases (!inDiscB l W.os || brokenB (nth l at_)) <;> rfl
 ·refine ⟨by rw [hs, hk]; rfl, ⟨ho, fun p hp => ?_, hI.beh, ?_, heo⟩⟩
  ·rcases List.mem_append.1 hp with hp | hp
   ·exact hI.os p hp
   rw [List.mem_singleton.1 hp]; exact ⟨hat, Nat.zero_le _⟩
  simp only [List.length_append, List.length_cons, List.length_nil]; omega
 simp only [wkHp, walkHp, List.length_append, List.length_cons, List.length_nil, Nat.zero_add]
theorem step_part (h11 : (nth l at_).kind = 11) :
  Calls Try.prog 106 #[.pointer (some ⟨bw, 0, none⟩), .int .i64 (at_ : Int)] w (StepQ l bw bl ol cl bb at_ W w0 bs) := by
 have hlen := hI.len
 have hs : stepW l at_ W = partW l W := by simp [stepW, h11]
 obtain ⟨beh, os, d⟩ := W
 cases hd : inDiscB l os with
 | false =>
  refine (part_no l bw bl ol cl bb (behC beh) base cap d e os at_ w0 bs w hq hI.op (fun p hp => (hI.os p hp).1) (by simp only at hlen; omega) hd).mono ?_
  rintro e' w' ⟨rfl, hw⟩
  refine ⟨⟨false, ⟨beh, os, d⟩, base, cap, e, hI.eo, ?_, fun hk => by cases hk⟩, rfl, hw⟩
  rw [hs]
  unfold partW
  simp only [hd, Bool.false_and, cond_false]
  cases os.getLast? <;> rfl
 | true =>
  rcases List.eq_nil_or_concat os with rfl | ⟨os, ⟨a, s⟩, rfl⟩
  ·simp [inDiscB] at hd
  rw [List.concat_eq_append] at *
  obtain ⟨bo, oc, rfl, rfl, hc1, hc2, hc3, h0, h1⟩ := hI.op.last
  have hos := hI.os
  simp only [List.length_append, List.length_cons, List.length_nil, Nat.zero_add] at hlen
  have hs2 := (hos (a, s) (by simp)).2
  simp only at hs2 h0 h1
  refine (part_yes l bw bl ol cl bb bo (behC beh) oc cap d os a s at_ w0 bs w (hq.at (by simp [wkHp, walkHp])) hI.op (fun p hp => (hos p hp).1) (by omega) h0 h1 (by omega) hd).mono ?_
  rintro e' w' ⟨rfl, hw⟩
  have hp : partW l ⟨beh, os ++ [(a, s)], d⟩ = bif decide (s + 1 ≤ 2) then some ⟨beh, os ++ [(a, s + 1)], d⟩ else none := by
   unfold partW
   simp [hd]
  have hlt := (List.getElem?_eq_some_iff.1 h1).1
  refine ⟨⟨decide (s + 1 ≤ 2), ⟨beh, os ++ [(a, s + 1)], d⟩, some ⟨bo, 0, none⟩, cap, .obj true bo (oc.set (0 + os.length * 2 + 1) (.int .i64 ((s + 1 : Nat) : Int))) 140, .inl rfl, ?_, fun hk => ⟨by rw [hs, hp, hk]; rfl, ⟨?_, fun p hp => ?_, hI.beh, ?_, .inl rfl⟩⟩⟩, rfl, hw.at ?_⟩
  ·rw [hs, hp]; cases decide (s + 1 ≤ 2) <;> rfl
  ·exact .inr ⟨bo, _, rfl, rfl, by rw [List.length_set]; exact hc1, by simpa using hc2, by
    rw [show (os ++ [(a, s + 1)]).length = os.length + 1 by simp]
    exact opC_set hc3 (by omega)⟩
  ·rcases List.mem_append.1 hp with hp | hp
   ·exact hos p (List.mem_append.2 (.inl hp))
   rw [List.mem_singleton.1 hp]; exact ⟨(hos (a, s) (by simp)).1, by simpa using hk⟩
  ·simp only [List.length_append, List.length_cons, List.length_nil]; omega
  simp [wkHp, walkHp]
theorem step_leave (h6 : (nth l at_).kind = 6) :
  Calls Try.prog 105 #[.pointer (some ⟨bw, 0, none⟩), .int .i64 (at_ : Int)] w (StepQ l bw bl ol cl bb at_ W w0 bs) := by
 have hlen := hI.len
 have hs : stepW l at_ W = leaveW l at_ W := by simp [stepW, h6]
 obtain ⟨beh, os, d⟩ := W
 rcases List.eq_nil_or_concat os with rfl | ⟨os, ⟨a, s⟩, rfl⟩
 ·refine (leave_none l bw bl ol cl bb (behC beh) base cap d e at_ w0 bs w hq).mono ?_
  rintro e' w' ⟨rfl, hw⟩
  exact ⟨⟨false, ⟨beh, [], d⟩, base, cap, e, hI.eo, by rw [hs]; rfl, fun hk => by cases hk⟩, rfl, hw⟩
 rw [List.concat_eq_append] at *
 obtain ⟨bo, oc, rfl, rfl, hc1, hc2, hc3, h0, h1⟩ := hI.op.last
 have hos := hI.os
 simp only [List.length_append, List.length_cons, List.length_nil, Nat.zero_add] at hlen
 have hs2 := (hos (a, s) (by simp)).2
 have ha := (hos (a, s) (by simp)).1
 simp only at hs2 h0 h1 ha
 have hq2 := hq.at (hp' := walkHp l bw bl ol cl bb (behC beh) (some ⟨bo, 0, none⟩) (os.length + 1) cap d (.obj true bo oc 140)) (by simp [wkHp, walkHp])
 have hbl : (behC beh).length = l.length := by rw [behC_length]; exact hI.beh
 have go : ∀ {e' w'}, inDiscB l (os ++ [(a, s)]) = false ∨ s = 2 → (e' = .returned (.bool true) ∧ Sat w0 bs (walkHp l bw bl ol cl bb ((behC beh).set a (.int .i64 ((at_ + 1 : Nat) : Int))) (some ⟨bo, 0, none⟩) os.length cap d (.obj true bo oc 140)) w') →
   StepQ l bw bl ol cl bb at_ ⟨beh, os ++ [(a, s)], d⟩ w0 bs e' w' := fun {e' w'} hcase ⟨h, hw⟩ => by
  subst h
  rw [behC_set] at hw
  have hp : leaveW l at_ ⟨beh, os ++ [(a, s)], d⟩ = some ⟨beh.set a (at_ + 1), os, d⟩ := by
   unfold leaveW
   rcases hcase with h | h <;> simp [h]
  refine ⟨⟨true, ⟨beh.set a (at_ + 1), os, d⟩, some ⟨bo, 0, none⟩, cap, .obj true bo oc 140, .inl rfl, by rw [hs, hp]; rfl, fun _ => ⟨by rw [hs, hp], ⟨OpenIs.less hc3 hc1 hc2, fun p hp => hos p (List.mem_append.2 (.inl hp)), ?_, ?_, .inl rfl⟩⟩⟩, rfl, hw⟩
  ·simp only [List.length_set]; exact hI.beh
  simp only; omega
 cases hd : inDiscB l (os ++ [(a, s)]) with
 | false => exact (leave_go1 l bw bl ol cl bb bo (behC beh) oc cap d os a s at_ w0 bs w hq2 hI.op (fun p hp => (hos p hp).1) (by omega) h0 h1 (by omega) hd hat (by omega) hbl hc2).mono fun _ _ h => go (.inl hd) h
 | true =>
  by_cases h2 : s = 2
  ·exact (leave_go2 l bw bl ol cl bb bo (behC beh) oc cap d os a s at_ w0 bs w hq2 hI.op (fun p hp => (hos p hp).1) (by omega) h0 h1 (by omega) hd h2 hat (by omega) hbl hc2).mono fun _ _ h => go (.inr h2) h
  refine (leave_stop l bw bl ol cl bb bo (behC beh) oc cap d os a s at_ w0 bs w hq2 hI.op (fun p hp => (hos p hp).1) (by omega) h0 h1 (by omega) hd h2).mono ?_
  rintro e' w' ⟨rfl, hw⟩
  have hp : leaveW l at_ ⟨beh, os ++ [(a, s)], d⟩ = none := by
   unfold leaveW
   simp [hd, h2]
  exact ⟨⟨false, ⟨beh, os ++ [(a, s)], d⟩, some ⟨bo, 0, none⟩, cap, .obj true bo oc 140, .inl rfl, by rw [hs, hp]; rfl, fun hk => by cases hk⟩, rfl, hw.at (by simp [wkHp, walkHp])⟩
end
end Go.Proofs.Ytcncfmjfgdbfeab
namespace Go.Proofs.Ytcncfmjfgdbfeab
open Go.RowKit
noncomputable section
section
variable {P : Program}
theorem arr_run {T E : TypeId} {b o n k sz : Nat} {kk : IntKind} (w : World) (hT : P.underlying T = some (.array n E)) (hs : cellsN P E = some sz) (hk : k < n) :
  (idxSem T (.pointer (some ⟨b, o, none⟩)) (.int kk k)).run P w = .ok (.value (.pointer (some ⟨b, o + k * sz, none⟩))) w := by
 have hu : (underlying T).run P w = .ok (.array n E) w := by simp [underlying, program, hT, Sem.run, Result.andThen]
 obtain ⟨i, hi, hsz⟩ := Option.map_eq_some_iff.1 hs
 have hz : (sizeOf E).run P w = .ok sz w := by simp [sizeOf, typeInfo, program, hi, hsz, Sem.run, Result.andThen]
 have ha : Addr.add ⟨b, o, none⟩ (k * sz) = ⟨b, o + k * sz, none⟩ := add_addr b o (k * sz)
 have h0 : (0 : Int) ≤ k ∧ (k : Int) < n := by omega
 by_cases ht : n ≤ 1
 ·simp [idxSem, Instr.indexAt, Instr.sureAddr, asIntOf, hu, hz, h0, hk, ha, Result.andThen]
 simp [idxSem, Instr.indexAt, Instr.sureAddr, asIntOf, hu, hz, h0, hk, ha, Result.andThen]
end
section
variable {F : Fence} {mm : Nat} {P : Program} {fin : Fin} {w0 : World} {bs : List Nat} {st : St}
theorem g_loopN {X : Type} (live : X → List (Nat × Value)) (H : X → List HE) (μ : X → Nat) (x0 : X) (h : (loopOf st).isSome = true)
  (hk : Known st.t (live x0)) (hh : H x0 = st.hp)
  (g : ∀ x (N : Act → World → Prop), (∀ y, μ y < μ x → ∀ a w, Rep st.n st.ds a (headT st (live y)) → Sat w0 bs (H y) w → N a w) → Goal F mm P fin w0 bs (roundSt st (headT st (live x)) (H x) N)) : Goal F mm P fin w0 bs st :=
 g_loop live H μ x0 h hk hh fun x => g x _ fun y hy _ _ hr hw => ⟨y, hy, hr, hw⟩
def hookOf (st : St) : Option (Act → World → Prop) := match st.l, st.k with
 | [], .hook N :: _ => some N
 | _, _ => none
theorem g_hook {st0 : St} {lv : List (Nat × Value)} {hp' : List HE} {N : Act → World → Prop} (hN : ∀ a w, Rep st0.n st0.ds a (headT st0 lv) → Sat w0 bs hp' w → N a w)
  (hk : (hookOf st).map (fun N a w => N a w) = some N) (hn : st.n = st0.n) (hd : st.ds = st0.ds) (hl : Known st.t lv) (hf : forget st.t (dsts (loopBody st0)) = forget st0.t (dsts (loopBody st0))) (hh : st.hp = hp') : Goal F mm P fin w0 bs st := by
 subst hh
 refine ⟨fun hF a w hr hw => ?_⟩
 have hk' : st.l = [] ∧ ∃ k, st.k = .hook N :: k := by
  unfold hookOf at hk
  split at hk
  ·rename_i N' k h1 h2
   simp only [Option.map_some, Option.some.injEq] at hk
   subst hk
   exact ⟨h1, k, h2⟩
  cases hk
 obtain ⟨h1, k, h2⟩ := hk'
 rw [h1, h2]
 show N a w
 refine hN a w ?_ hw
 unfold headT
 rw [← hn, ← hd, ← hf]
 exact Rep.sets (Rep.forgets hr) (hl.at hr)
end
attribute [irreducible] hookOf
end
end Go.Proofs.Ytcncfmjfgdbfeab
