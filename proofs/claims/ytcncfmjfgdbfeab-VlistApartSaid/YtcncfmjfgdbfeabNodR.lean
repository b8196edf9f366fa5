/- nodes: the walk through a list: from one of a Disc's lists to the next, and the End. -/
import Derived.Test.YtcncfmjfgdbfeabNodQ
namespace Go.Proofs.Ytcncfmjfgdbfeab
open Go.RowKit

theorem opC_set {os : List (Nat × Nat)} {p : Nat × Nat} {oc : List Value} {s : Nat} (h : oc.take ((os.length + 1) * 2) = opC (os ++ [p])) (_hl : (os.length + 1) * 2 ≤ oc.length) :
    (oc.set (0 + os.length * 2 + 1) (.int .i64 (s : Int))).take ((os.length + 1) * 2) = opC (os ++ [(p.1, s)]) := by
  have h1 := opC_length os
  rw [List.take_set, h, opC_append, opC_append, List.set_append_right _ _ (by omega)]
  congr 1
  rw [show 0 + os.length * 2 + 1 - (opC os).length = 1 by omega]
  rfl
theorem OpenIs.less {os : List (Nat × Nat)} {p : Nat × Nat} {bo cap : Nat} {oc : List Value} (h : oc.take ((os.length + 1) * 2) = opC (os ++ [p])) (h1 : oc.length = cap * 2) (h2 : os.length + 1 ≤ cap) :
    OpenIs os (some ⟨bo, 0, none⟩) cap (.obj true bo oc 140) :=
  .inr ⟨bo, oc, rfl, rfl, h1, by omega, by
    have hl := opC_length os
    have := congrArg (List.take (os.length * 2)) h
    rw [List.take_take, Nat.min_eq_left (by omega), opC_append, List.take_append_of_le_length (by omega)] at this
    rw [this, List.take_of_length_le (by omega)]⟩
set_option maxRecDepth 100000 in
set_option maxHeartbeats 4000000 in
theorem part_no (l : List Nod) (bw bl ol cl bb : Nat) (beh : List Value) (base : Option Addr) (cap : Nat) (d : Int) (e : HE) (os : List (Nat × Nat)) (at_ : Nat) (w0 : World) (bs : List Nat) (w : World) (hq : Sat w0 bs (walkHp l bw bl ol cl bb beh base os.length cap d e) w) (ho : OpenIs os base cap e) (hos : ∀ p ∈ os, p.1 < l.length) (hm : os.length < 9223372036854775807) (hd : inDiscB l os = false) :
    Calls Try.prog 106 #[.pointer (some ⟨bw, 0, none⟩), .int .i64 (at_ : Int)] w fun e' w' => e' = .returned (.bool false) ∧ Sat w0 bs (walkHp l bw bl ol cl bb beh base os.length cap d e) w' := by
  refine g_enter (args := [.pointer (some ⟨bw, 0, none⟩), .int .i64 (at_ : Int)]) (owned (walkHp l bw bl ol cl bb beh base os.length cap d e)) (walkHp l bw bl ol cl bb beh base os.length cap d e) Try.func106 rfl Try.ntmps106 (Nat.le_of_ble_eq_true (by kernel_rfl)) hq.rebase ?_
  refine g_run 9999 [] 0 (by kernel_rfl) ?_
  refine g_callq _ _ _ ?_ (fun w hs => indisc_any l bw bl ol cl bb beh base cap d e os _ _ w (hs.at (by kernel_rfl)) ho hos hm) ?_
  · kernel_rfl
  refine g_run 9999 [] 0 (by kernel_rfl) ?_
  refine g_dec 8 (!inDiscB l os) (by kernel_rfl) (fun h8 => ?_) (fun h8 => ?_)
  · refine g_run 9999 [] 1 (by kernel_rfl) ?_
    refine g_ret [] (Value.bool false) (by kernel_rfl) (by kernel_rfl) (by kernel_rfl) fun w' hs => ?_
    exact ⟨rfl, hq.unbase (hs.at (by kernel_rfl))⟩
  · exact absurd h8 (by intro hx; first | (simp [hd] at hx; done) | (simp [hd] at hx; omega))
theorem indisc2 (l : List Nod) (bw bl ol cl bb bo : Nat) (beh oc : List Value) (cap : Nat) (d : Int) (os : List (Nat × Nat)) (a s : Nat) (w0 : World) (bs : List Nat) (w : World) (hq : Sat w0 bs (walkHp l bw bl ol cl bb beh (some ⟨bo, 0, none⟩) (os.length + 1) cap d (.obj true bo oc 140)) w)
    (ho : OpenIs (os ++ [(a, s)]) (some ⟨bo, 0, none⟩) cap (.obj true bo oc 140)) (hos : ∀ p ∈ os ++ [(a, s)], p.1 < l.length) (hm : os.length + 1 < 9223372036854775807) :
    Calls Try.prog 114 #[.pointer (some ⟨bw, 0, none⟩)] w fun e w' => e = .returned (.bool (inDiscB l (os ++ [(a, s)]))) ∧ Kept w w' :=
  indisc_any l bw bl ol cl bb beh (some ⟨bo, 0, none⟩) cap d _ (os ++ [(a, s)]) w0 bs w (hq.at (by rw [List.length_append]; rfl)) ho hos (by rw [List.length_append]; exact hm)
set_option maxRecDepth 100000 in
set_option maxHeartbeats 4000000 in
theorem part_yes (l : List Nod) (bw bl ol cl bb bo : Nat) (beh oc : List Value) (cap : Nat) (d : Int) (os : List (Nat × Nat)) (a s at_ : Nat) (w0 : World) (bs : List Nat) (w : World) (hq : Sat w0 bs (walkHp l bw bl ol cl bb beh (some ⟨bo, 0, none⟩) (os.length + 1) cap d (.obj true bo oc 140)) w) (ho : OpenIs (os ++ [(a, s)]) (some ⟨bo, 0, none⟩) cap (.obj true bo oc 140)) (hos : ∀ p ∈ os ++ [(a, s)], p.1 < l.length) (hm : os.length + 1 < 9223372036854775807) (h0 : oc[0 + os.length * 2]? = some (.int .i64 (a : Int))) (h1 : oc[0 + os.length * 2 + 1]? = some (.int .i64 (s : Int))) (hs1 : s < 9223372036854775807) (hd : inDiscB l (os ++ [(a, s)]) = true) :
    Calls Try.prog 106 #[.pointer (some ⟨bw, 0, none⟩), .int .i64 (at_ : Int)] w fun e' w' => e' = .returned (.bool (decide (s + 1 ≤ 2))) ∧ Sat w0 bs (walkHp l bw bl ol cl bb beh (some ⟨bo, 0, none⟩) (os.length + 1) cap d (.obj true bo (oc.set (0 + os.length * 2 + 1) (.int .i64 ((s + 1 : Nat) : Int))) 140)) w' := by
  have hlt := (List.getElem?_eq_some_iff.1 h1).1
  refine g_enter (args := [.pointer (some ⟨bw, 0, none⟩), .int .i64 (at_ : Int)]) (owned (walkHp l bw bl ol cl bb beh (some ⟨bo, 0, none⟩) (os.length + 1) cap d (.obj true bo oc 140))) (walkHp l bw bl ol cl bb beh (some ⟨bo, 0, none⟩) (os.length + 1) cap d (.obj true bo oc 140)) Try.func106 rfl Try.ntmps106 (Nat.le_of_ble_eq_true (by kernel_rfl)) hq.rebase ?_
  refine g_run 9999 [] 0 (by kernel_rfl) ?_
  refine g_callq _ _ _ ?_ (fun w hs => indisc2 l bw bl ol cl bb bo beh oc cap d os a s _ _ w (hs.at (by kernel_rfl)) ho hos hm) ?_
  · kernel_rfl
  refine g_run 9999 [] 0 (by kernel_rfl) ?_
  refine g_dec 8 (!inDiscB l (os ++ [(a, s)])) (by kernel_rfl) (fun h8 => ?_) (fun h8 => ?_)
  · exact absurd h8 (by intro hx; first | (simp [hd] at hx; done) | (simp [hd] at hx; omega))
  · refine g_run 9999 [] 1 (by kernel_rfl) ?_
    refine g_draw 13 (by kernel_rfl) (by kernel_rfl) ?_
    refine l_run 18 ([0, 0]) 0 (by kernel_rfl) ?_
    refine l_val _ _ ?_ (fun w _hs => .inl (len_pred (P := Try.prog) (t := 3) (x := .tmp 17) (y := .const (.int .i64 1)) (m := os.length) (w := w) (by kernel_rfl) (by omega))) ?_
    · kernel_rfl
    refine l_val _ _ ?_ (fun w _hs => .inl (idx_run (P := Try.prog) (T := 120) (E := 140) (b := bo) (o := 0) (n := os.length + 1) (c := cap) (k := os.length) (sz := 2) (kk := .i64) w (by kernel_rfl) (by kernel_rfl) (Nat.lt_succ_self os.length))) ?_
    · kernel_rfl
    refine l_run 9999 [] 0 (by kernel_rfl) ?_
    refine l_end (by kernel_rfl) ?_
    refine g_run 23 [] 0 (by kernel_rfl) ?_
    refine g_val _ _ ?_ (fun w _hs => Sat.objload1 (T := 3) (T' := 140) (i := 3) (b := bo) (k := 0 + os.length * 2 + 1) (own := true) (cs := oc) (v := .int .i64 (s : Int)) _hs (by kernel_rfl) (h1) (by kernel_rfl)) ?_
    · kernel_rfl
    refine g_val _ _ ?_ (fun w _hs => nat_succ (P := Try.prog) (t := 3) (x := .tmp 23) (y := .const (.int .i64 1)) (m := s) (w := w) (by kernel_rfl) hs1) ?_
    · kernel_rfl
    refine g_run 9999 [] 0 (by kernel_rfl) ?_
    refine g_store1 3 3 140 bo (0 + os.length * 2 + 1) oc (.int .i64 ((s + 1 : Nat) : Int)) (by kernel_rfl) (by kernel_rfl) hlt rfl (by kernel_rfl) ?_
    refine g_run 28 [] 0 (by kernel_rfl) ?_
    refine g_val _ _ ?_ (fun w _hs => Sat.objload1 (T := 3) (T' := 140) (i := 3) (b := bo) (k := 0 + os.length * 2 + 1) (own := true) (cs := (oc.set (0 + os.length * 2 + 1) (.int .i64 ((s + 1 : Nat) : Int)))) (v := .int .i64 ((s + 1 : Nat) : Int)) _hs (by kernel_rfl) (by rw [List.getElem?_set_self hlt]) (by kernel_rfl)) ?_
    · kernel_rfl
    refine g_run 9999 [] 0 (by kernel_rfl) ?_
    refine g_ret [] (Value.bool (decide ((↑(s + 1) : Int) ≤ 2))) (by kernel_rfl) (by kernel_rfl) (by kernel_rfl) fun w' hs => ?_
    exact ⟨ret_bool (by clear hs; rw [Bool.eq_iff_iff]; simp only [decide_eq_true_eq]; omega), hq.unbase (hs.at (by kernel_rfl))⟩
set_option maxRecDepth 100000 in
set_option maxHeartbeats 4000000 in
theorem leave_none (l : List Nod) (bw bl ol cl bb : Nat) (beh : List Value) (base : Option Addr) (cap : Nat) (d : Int) (e : HE) (at_ : Nat) (w0 : World) (bs : List Nat) (w : World) (hq : Sat w0 bs (walkHp l bw bl ol cl bb beh base 0 cap d e) w)  :
    Calls Try.prog 105 #[.pointer (some ⟨bw, 0, none⟩), .int .i64 (at_ : Int)] w fun e' w' => e' = .returned (.bool false) ∧ Sat w0 bs (walkHp l bw bl ol cl bb beh base 0 cap d e) w' := by
  refine g_enter (args := [.pointer (some ⟨bw, 0, none⟩), .int .i64 (at_ : Int)]) (owned (walkHp l bw bl ol cl bb beh base 0 cap d e)) (walkHp l bw bl ol cl bb beh base 0 cap d e) Try.func105 rfl Try.ntmps105 (Nat.le_of_ble_eq_true (by kernel_rfl)) hq.rebase ?_
  refine g_run 9999 ([0]) 14 (by kernel_rfl) ?_
  refine g_ret [] (Value.bool false) (by kernel_rfl) (by kernel_rfl) (by kernel_rfl) fun w' hs => ?_
  exact ⟨rfl, hq.unbase (hs.at (by kernel_rfl))⟩
set_option maxRecDepth 100000 in
set_option maxHeartbeats 4000000 in
theorem leave_stop (l : List Nod) (bw bl ol cl bb bo : Nat) (beh oc : List Value) (cap : Nat) (d : Int) (os : List (Nat × Nat)) (a s at_ : Nat) (w0 : World) (bs : List Nat) (w : World) (hq : Sat w0 bs (walkHp l bw bl ol cl bb beh (some ⟨bo, 0, none⟩) (os.length + 1) cap d (.obj true bo oc 140)) w) (ho : OpenIs (os ++ [(a, s)]) (some ⟨bo, 0, none⟩) cap (.obj true bo oc 140)) (hos : ∀ p ∈ os ++ [(a, s)], p.1 < l.length) (hm : os.length + 1 < 9223372036854775807) (h0 : oc[0 + os.length * 2]? = some (.int .i64 (a : Int))) (h1 : oc[0 + os.length * 2 + 1]? = some (.int .i64 (s : Int))) (hs1 : s < 9223372036854775807) (hd : inDiscB l (os ++ [(a, s)]) = true) (hs2 : s ≠ 2) :
    Calls Try.prog 105 #[.pointer (some ⟨bw, 0, none⟩), .int .i64 (at_ : Int)] w fun e' w' => e' = .returned (.bool false) ∧ Sat w0 bs (walkHp l bw bl ol cl bb beh (some ⟨bo, 0, none⟩) (os.length + 1) cap d (.obj true bo oc 140)) w' := by
  refine g_enter (args := [.pointer (some ⟨bw, 0, none⟩), .int .i64 (at_ : Int)]) (owned (walkHp l bw bl ol cl bb beh (some ⟨bo, 0, none⟩) (os.length + 1) cap d (.obj true bo oc 140))) (walkHp l bw bl ol cl bb beh (some ⟨bo, 0, none⟩) (os.length + 1) cap d (.obj true bo oc 140)) Try.func105 rfl Try.ntmps105 (Nat.le_of_ble_eq_true (by kernel_rfl)) hq.rebase ?_
  refine g_run 11 ([0]) 0 (by kernel_rfl) ?_
  refine g_val _ _ ?_ (fun w _hs => len_pred (P := Try.prog) (t := 3) (x := .tmp 10) (y := .const (.int .i64 1)) (m := os.length) (w := w) (by kernel_rfl) (by omega)) ?_
  · kernel_rfl
  refine g_run 9999 [] 1 (by kernel_rfl) ?_
  refine g_callq _ _ _ ?_ (fun w hs => indisc2 l bw bl ol cl bb bo beh oc cap d os a s _ _ w (hs.at (by kernel_rfl)) ho hos hm) ?_
  · kernel_rfl
  refine g_run 9999 [] 1 (by kernel_rfl) ?_
  refine g_dec 17 (inDiscB l (os ++ [(a, s)])) (by kernel_rfl) (fun h17 => ?_) (fun h17 => ?_)
  · refine g_run 23 ([0]) 5 (by kernel_rfl) ?_
    refine g_val _ _ ?_ (fun w _hs => idx_run (P := Try.prog) (T := 120) (E := 140) (b := bo) (o := 0) (n := os.length + 1) (c := cap) (k := os.length) (sz := 2) (kk := .i64) w (by kernel_rfl) (by kernel_rfl) (Nat.lt_succ_self os.length)) ?_
    · kernel_rfl
    refine g_run 25 [] 1 (by kernel_rfl) ?_
    refine g_val _ _ ?_ (fun w _hs => Sat.objload1 (T := 3) (T' := 140) (i := 3) (b := bo) (k := 0 + os.length * 2 + 1) (own := true) (cs := oc) (v := .int .i64 (s : Int)) _hs (by kernel_rfl) (h1) (by kernel_rfl)) ?_
    · kernel_rfl
    refine g_run 9999 [] 2 (by kernel_rfl) ?_
    refine g_dec 28 ((↑s : Int) != 2) (by kernel_rfl) (fun h28 => ?_) (fun h28 => ?_)
    · refine g_run 9999 [] 1 (by kernel_rfl) ?_
      refine g_ret [] (Value.bool false) (by kernel_rfl) (by kernel_rfl) (by kernel_rfl) fun w' hs => ?_
      exact ⟨rfl, hq.unbase (hs.at (by kernel_rfl))⟩
    · exact absurd h28 (by intro hx; first | (simp [] at hx; done) | (simp [] at hx; omega))
  · exact absurd h17 (by intro hx; first | (simp [hd] at hx; done) | (simp [hd] at hx; omega))
set_option maxRecDepth 100000 in
set_option maxHeartbeats 4000000 in
theorem leave_go1 (l : List Nod) (bw bl ol cl bb bo : Nat) (beh oc : List Value) (cap : Nat) (d : Int) (os : List (Nat × Nat)) (a s at_ : Nat) (w0 : World) (bs : List Nat) (w : World) (hq : Sat w0 bs (walkHp l bw bl ol cl bb beh (some ⟨bo, 0, none⟩) (os.length + 1) cap d (.obj true bo oc 140)) w) (ho : OpenIs (os ++ [(a, s)]) (some ⟨bo, 0, none⟩) cap (.obj true bo oc 140)) (hos : ∀ p ∈ os ++ [(a, s)], p.1 < l.length) (hm : os.length + 1 < 9223372036854775807) (h0 : oc[0 + os.length * 2]? = some (.int .i64 (a : Int))) (h1 : oc[0 + os.length * 2 + 1]? = some (.int .i64 (s : Int))) (hs1 : s < 9223372036854775807) (hd : inDiscB l (os ++ [(a, s)]) = false) (hat : at_ < l.length) (hn : l.length < 9223372036854775807) (hbeh : beh.length = l.length) (hcap : os.length + 1 ≤ cap) :
    Calls Try.prog 105 #[.pointer (some ⟨bw, 0, none⟩), .int .i64 (at_ : Int)] w fun e' w' => e' = .returned (.bool true) ∧ Sat w0 bs (walkHp l bw bl ol cl bb (beh.set a (.int .i64 ((at_ + 1 : Nat) : Int))) (some ⟨bo, 0, none⟩) os.length cap d (.obj true bo oc 140)) w' := by
  have ha : a < l.length := hos (a, s) (by simp)
  refine g_enter (args := [.pointer (some ⟨bw, 0, none⟩), .int .i64 (at_ : Int)]) (owned (walkHp l bw bl ol cl bb beh (some ⟨bo, 0, none⟩) (os.length + 1) cap d (.obj true bo oc 140))) (walkHp l bw bl ol cl bb beh (some ⟨bo, 0, none⟩) (os.length + 1) cap d (.obj true bo oc 140)) Try.func105 rfl Try.ntmps105 (Nat.le_of_ble_eq_true (by kernel_rfl)) hq.rebase ?_
  refine g_run 11 ([0]) 0 (by kernel_rfl) ?_
  refine g_val _ _ ?_ (fun w _hs => len_pred (P := Try.prog) (t := 3) (x := .tmp 10) (y := .const (.int .i64 1)) (m := os.length) (w := w) (by kernel_rfl) (by omega)) ?_
  · kernel_rfl
  refine g_run 9999 [] 1 (by kernel_rfl) ?_
  refine g_callq _ _ _ ?_ (fun w hs => indisc2 l bw bl ol cl bb bo beh oc cap d os a s _ _ w (hs.at (by kernel_rfl)) ho hos hm) ?_
  · kernel_rfl
  refine g_run 9999 [] 1 (by kernel_rfl) ?_
  refine g_dec 17 (inDiscB l (os ++ [(a, s)])) (by kernel_rfl) (fun h17 => ?_) (fun h17 => ?_)
  · exact absurd h17 (by intro hx; first | (simp [hd] at hx; done) | (simp [hd] at hx; omega))
  · refine g_run 9999 [] 11 (by kernel_rfl) ?_
    refine g_draw 16 (by kernel_rfl) (by kernel_rfl) ?_
    refine l_run 39 ([0, 0]) 0 (by kernel_rfl) ?_
    refine l_val _ _ ?_ (fun w _hs => .inl (idx_run (P := Try.prog) (T := 120) (E := 140) (b := bo) (o := 0) (n := os.length + 1) (c := cap) (k := os.length) (sz := 2) (kk := .i64) w (by kernel_rfl) (by kernel_rfl) (Nat.lt_succ_self os.length))) ?_
    · kernel_rfl
    refine l_run 41 [] 0 (by kernel_rfl) ?_
    refine l_val _ _ ?_ (fun w _hs => .inl (Sat.objload1 (T := 3) (T' := 140) (i := 3) (b := bo) (k := 0 + os.length * 2) (own := true) (cs := oc) (v := .int .i64 (a : Int)) _hs (by kernel_rfl) (h0) (by kernel_rfl))) ?_
    · kernel_rfl
    refine l_run 43 [] 0 (by kernel_rfl) ?_
    refine l_val _ _ ?_ (fun w _hs => .inl (nat_succ (P := Try.prog) (t := 3) (x := .tmp 42) (y := .const (.int .i64 1)) (m := at_) (w := w) (by kernel_rfl) (by omega))) ?_
    · kernel_rfl
    refine l_val _ _ ?_ (fun w _hs => .inl (idx_run (P := Try.prog) (T := 41) (E := 3) (b := bb) (o := 0) (n := l.length) (c := l.length) (k := a) (sz := 1) (kk := .i64) w (by kernel_rfl) (by kernel_rfl) ha)) ?_
    · kernel_rfl
    refine l_end (by kernel_rfl) ?_
    refine g_store1 2 3 3 bb (0 + a * 1) beh (.int .i64 ((at_ + 1 : Nat) : Int)) (by kernel_rfl) (by kernel_rfl) (by omega) rfl (by kernel_rfl) ?_
    refine g_run 51 ([0]) 0 (by kernel_rfl) ?_
    refine g_val _ _ ?_ (fun w _hs => front_run (P := Try.prog) (T := 120) (E := 140) (b := bo) (o := 0) (n := os.length + 1) (c := cap) (m := os.length) (sz := 2) (kk := .i64) w (by kernel_rfl) (by kernel_rfl) (by omega)) ?_
    · kernel_rfl
    refine g_run 9999 ([0]) 0 (by kernel_rfl) ?_
    refine g_ret [] (Value.bool true) (by kernel_rfl) (by kernel_rfl) (by kernel_rfl) fun w' hs => ?_
    exact ⟨rfl, hq.unbase (hs.at (by rw [show 0 + a * 1 = a by omega]; kernel_rfl))⟩
set_option maxRecDepth 100000 in
set_option maxHeartbeats 4000000 in
theorem leave_go2 (l : List Nod) (bw bl ol cl bb bo : Nat) (beh oc : List Value) (cap : Nat) (d : Int) (os : List (Nat × Nat)) (a s at_ : Nat) (w0 : World) (bs : List Nat) (w : World) (hq : Sat w0 bs (walkHp l bw bl ol cl bb beh (some ⟨bo, 0, none⟩) (os.length + 1) cap d (.obj true bo oc 140)) w) (ho : OpenIs (os ++ [(a, s)]) (some ⟨bo, 0, none⟩) cap (.obj true bo oc 140)) (hos : ∀ p ∈ os ++ [(a, s)], p.1 < l.length) (hm : os.length + 1 < 9223372036854775807) (h0 : oc[0 + os.length * 2]? = some (.int .i64 (a : Int))) (h1 : oc[0 + os.length * 2 + 1]? = some (.int .i64 (s : Int))) (hs1 : s < 9223372036854775807) (hd : inDiscB l (os ++ [(a, s)]) = true) (hs2 : s = 2) (hat : at_ < l.length) (hn : l.length < 9223372036854775807) (hbeh : beh.length = l.length) (hcap : os.length + 1 ≤ cap) :
    Calls Try.prog 105 #[.pointer (some ⟨bw, 0, none⟩), .int .i64 (at_ : Int)] w fun e' w' => e' = .returned (.bool true) ∧ Sat w0 bs (walkHp l bw bl ol cl bb (beh.set a (.int .i64 ((at_ + 1 : Nat) : Int))) (some ⟨bo, 0, none⟩) os.length cap d (.obj true bo oc 140)) w' := by
  have ha : a < l.length := hos (a, s) (by simp)
  refine g_enter (args := [.pointer (some ⟨bw, 0, none⟩), .int .i64 (at_ : Int)]) (owned (walkHp l bw bl ol cl bb beh (some ⟨bo, 0, none⟩) (os.length + 1) cap d (.obj true bo oc 140))) (walkHp l bw bl ol cl bb beh (some ⟨bo, 0, none⟩) (os.length + 1) cap d (.obj true bo oc 140)) Try.func105 rfl Try.ntmps105 (Nat.le_of_ble_eq_true (by kernel_rfl)) hq.rebase ?_
  refine g_run 11 ([0]) 0 (by kernel_rfl) ?_
  refine g_val _ _ ?_ (fun w _hs => len_pred (P := Try.prog) (t := 3) (x := .tmp 10) (y := .const (.int .i64 1)) (m := os.length) (w := w) (by kernel_rfl) (by omega)) ?_
  · kernel_rfl
  refine g_run 9999 [] 1 (by kernel_rfl) ?_
  refine g_callq _ _ _ ?_ (fun w hs => indisc2 l bw bl ol cl bb bo beh oc cap d os a s _ _ w (hs.at (by kernel_rfl)) ho hos hm) ?_
  · kernel_rfl
  refine g_run 9999 [] 1 (by kernel_rfl) ?_
  refine g_dec 17 (inDiscB l (os ++ [(a, s)])) (by kernel_rfl) (fun h17 => ?_) (fun h17 => ?_)
  · refine g_run 23 ([0]) 5 (by kernel_rfl) ?_
    refine g_val _ _ ?_ (fun w _hs => idx_run (P := Try.prog) (T := 120) (E := 140) (b := bo) (o := 0) (n := os.length + 1) (c := cap) (k := os.length) (sz := 2) (kk := .i64) w (by kernel_rfl) (by kernel_rfl) (Nat.lt_succ_self os.length)) ?_
    · kernel_rfl
    refine g_run 25 [] 1 (by kernel_rfl) ?_
    refine g_val _ _ ?_ (fun w _hs => Sat.objload1 (T := 3) (T' := 140) (i := 3) (b := bo) (k := 0 + os.length * 2 + 1) (own := true) (cs := oc) (v := .int .i64 (s : Int)) _hs (by kernel_rfl) (h1) (by kernel_rfl)) ?_
    · kernel_rfl
    refine g_run 9999 [] 2 (by kernel_rfl) ?_
    refine g_dec 28 ((↑s : Int) != 2) (by kernel_rfl) (fun h28 => ?_) (fun h28 => ?_)
    · exact absurd h28 (by intro hx; first | (simp [] at hx; done) | (simp [] at hx; omega))
    · refine g_run 9999 [] 1 (by kernel_rfl) ?_
      refine g_draw 16 (by kernel_rfl) (by kernel_rfl) ?_
      refine l_run 39 ([0, 0]) 0 (by kernel_rfl) ?_
      refine l_val _ _ ?_ (fun w _hs => .inl (idx_run (P := Try.prog) (T := 120) (E := 140) (b := bo) (o := 0) (n := os.length + 1) (c := cap) (k := os.length) (sz := 2) (kk := .i64) w (by kernel_rfl) (by kernel_rfl) (Nat.lt_succ_self os.length))) ?_
      · kernel_rfl
      refine l_run 41 [] 0 (by kernel_rfl) ?_
      refine l_val _ _ ?_ (fun w _hs => .inl (Sat.objload1 (T := 3) (T' := 140) (i := 3) (b := bo) (k := 0 + os.length * 2) (own := true) (cs := oc) (v := .int .i64 (a : Int)) _hs (by kernel_rfl) (h0) (by kernel_rfl))) ?_
      · kernel_rfl
      refine l_run 43 [] 0 (by kernel_rfl) ?_
      refine l_val _ _ ?_ (fun w _hs => .inl (nat_succ (P := Try.prog) (t := 3) (x := .tmp 42) (y := .const (.int .i64 1)) (m := at_) (w := w) (by kernel_rfl) (by omega))) ?_
      · kernel_rfl
      refine l_val _ _ ?_ (fun w _hs => .inl (idx_run (P := Try.prog) (T := 41) (E := 3) (b := bb) (o := 0) (n := l.length) (c := l.length) (k := a) (sz := 1) (kk := .i64) w (by kernel_rfl) (by kernel_rfl) ha)) ?_
      · kernel_rfl
      refine l_end (by kernel_rfl) ?_
      refine g_store1 2 3 3 bb (0 + a * 1) beh (.int .i64 ((at_ + 1 : Nat) : Int)) (by kernel_rfl) (by kernel_rfl) (by omega) rfl (by kernel_rfl) ?_
      refine g_run 51 ([0]) 0 (by kernel_rfl) ?_
      refine g_val _ _ ?_ (fun w _hs => front_run (P := Try.prog) (T := 120) (E := 140) (b := bo) (o := 0) (n := os.length + 1) (c := cap) (m := os.length) (sz := 2) (kk := .i64) w (by kernel_rfl) (by kernel_rfl) (by omega)) ?_
      · kernel_rfl
      refine g_run 9999 ([0]) 0 (by kernel_rfl) ?_
      refine g_ret [] (Value.bool true) (by kernel_rfl) (by kernel_rfl) (by kernel_rfl) fun w' hs => ?_
      exact ⟨rfl, hq.unbase (hs.at (by rw [show 0 + a * 1 = a by omega]; kernel_rfl))⟩
  · exact absurd h17 (by intro hx; first | (simp [hd] at hx; done) | (simp [hd] at hx; omega))
end Go.Proofs.Ytcncfmjfgdbfeab
