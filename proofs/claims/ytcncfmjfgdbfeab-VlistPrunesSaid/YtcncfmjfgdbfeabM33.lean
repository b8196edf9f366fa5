/- RLe NodX NodRc. -/
import Derived.Test.YtcncfmjfgdbfeabM32
import Derived.Test.YtcncfmjfgdbfeabM28
import Derived.Test.YtcncfmjfgdbfeabM26
namespace Go.Proofs.Ytcncfmjfgdbfeab
set_option maxRecDepth 100000
set_option maxHeartbeats 4000000
open Go.RowKit
theorem nodC_one (n : Nod) : ∀ u ∈ nodC n, u.oneCell' = true := rowOf_one [n] 0
def markN (k : Int) : Nod := ⟨k, 0, 0, 0, 0, 0, 0, 0, 0, 0, 0, 0, 0, 0, 0, 0, 0, 0, ⟨#[114, 111, 111, 109]⟩⟩
theorem marker7 (w : World) : Calls Try.prog 22 #[.int .i64 7] w fun e w' => e = .returned (nodV (markN (-7))) ∧ Kept w w' := by
 refine g_enter (args := [.int .i64 7]) [] [] Try.func22 rfl Try.ntmps22 kL (sat0 w) ?_
 refine g0 ?_
 refine gN fun b0 hb0 => ?_
 refine gA (List.replicate 19 0) 0 ?_
 refine g_ret (List.replicate 19 0) (nodV (markN (-7))) kR kR kR fun w' hs => ?_
 exact ⟨rfl, hs.kk⟩
theorem marker8 (w : World) : Calls Try.prog 22 #[.int .i64 8] w fun e w' => e = .returned (nodV (markN (-8))) ∧ Kept w w' := by
 refine g_enter (args := [.int .i64 8]) [] [] Try.func22 rfl Try.ntmps22 kL (sat0 w) ?_
 refine g0 ?_
 refine gN fun b0 hb0 => ?_
 refine gA (List.replicate 19 0) 0 ?_
 refine g_ret (List.replicate 19 0) (nodV (markN (-8))) kR kR kR fun w' hs => ?_
 exact ⟨rfl, hs.kk⟩
def roomN (l : List Nod) : List Nod := l ++ [markN (-7), markN (-8)]
theorem room_len (l : List Nod) : (roomN l).length = l.length + 2 := by simp [roomN]
theorem room_nth (l : List Nod) {k : Nat} (h : k < l.length) : nth (roomN l) k = nth l k := nth_left h
theorem room_7 (l : List Nod) : nth (roomN l) l.length = markN (-7) := by
 have := nth_right (a := l) (b := [markN (-7), markN (-8)]) (k := 0)
 rw [Nat.zero_add] at this
 exact this
theorem room_8 (l : List Nod) : nth (roomN l) (l.length + 1) = markN (-8) := by
 have := nth_right (a := l) (b := [markN (-7), markN (-8)]) (k := 1)
 rw [Nat.add_comm 1] at this
 exact this
structure LentX (w0 : World) (l : List Nod) where
 b : Nat
 cap : Nat
 new : w0.heap.size ≤ b
 le : l.length + 2 ≤ cap
theorem room_take (l : List Nod) {cs4 cs6 : List Value} (h4 : cs4.take ((0 + l.length) * 19) = ([] : List Value).take (0 * 19) ++ rowsL (rowOf l) 0 l.length) (h6 : cs6.take ((0 + l.length + 2) * 19) = cs4.take ((0 + l.length) * 19) ++ (nodC (markN (-7)) ++ nodC (markN (-8)))) :
  cs6.take ((roomN l).length * 19) = rowsL (rowOf (roomN l)) 0 (roomN l).length := by
 rw [room_len, show l.length + 2 = 0 + l.length + 2 by omega, h6, h4, List.take_nil, List.nil_append, show 0 + l.length + 2 = l.length + 1 + 1 by omega, rowsL_succ, rowsL_succ, List.append_assoc]
 congr 1
 ·exact rowsL_eq fun q hq => by
   simp only [rowOf, Nat.zero_add]
   rw [room_nth l hq]
 simp only [rowOf, Nat.zero_add]
 rw [room_7, room_8]
theorem two_marks : ∀ u ∈ nodC (markN (-7)) ++ nodC (markN (-8)), u.oneCell' = true := fun u hu => by
 rcases List.mem_append.1 hu with h | h
 ·exact nodC_one _ u h
 exact nodC_one _ u h
theorem lent_any (A : Option Addr) (l : List Nod) (c bl ol : Nat) (hl : l.length ≤ 879609302195) (hax : l.length = 0 ∨ A = some ⟨bl, ol, none⟩) (y : List Nod) (hy : roomN l = y) (w : World) (hq : Sat w [] [.row bl ol 19 l.length (rowOf l)] w) :
  Calls Try.prog 6 #[.slice A l.length c] w fun e w' => ∃ x : LentX w l, e = .returned (.slice (some ⟨x.b, 0, none⟩) l.length x.cap) ∧ Sat w [] [.row x.b 0 19 y.length (rowOf y)] w' := by
 refine g_enter (args := [.slice A l.length c]) [] [.row bl ol 19 l.length (rowOf l)] Try.func6 rfl Try.ntmps6 kL hq ?_
 refine g0 ?_
 refine gN fun b1 hb1 => ?_
 refine gU 6 [] 0 ?_
 refine g_appendR 1 0 22 55 b1 0 0 19 l.length c 0 bl ol l.length 160 A [] (rowOf l) kR kR (info_of kR) kR rfl (Nat.le_refl _) kR (fun _ => rfl) (rowOf_one l) (by omega) (by simpa using hax) (by omega) (by omega) fun b4 cap4 cs4 _hb4 hc4 hl4 ht4 => ?_
 refine g0 ?_
 refine g_callq _ _ _ ?_ (fun w hs => marker7 w) ?_
 ·kernel_rfl
 refine g_callq _ _ _ ?_ (fun w hs => marker8 w) ?_
 ·kernel_rfl
 refine gN fun b2 hb2 => ?_
 refine g_append 1 2 22 55 55 (some ⟨b4, 0, none⟩) (0 + l.length) cap4 19 2 2 b2 160 cs4 (nodC (markN (-7)) ++ nodC (markN (-8))) true kR kR kR (info_of kR) (rowAt_own kR hl4 hc4) kR rfl two_marks (by omega) (by omega) (by omega) fun b6 cap6 cs6 hb6 hc6 _hl6 ht6 => ?_
 refine gU 15 [] 0 ?_
 refine g_val _ _ ?_ (fun w _hs => front_run (P := Try.prog) (T := 22) (E := 55) (b := b6) (o := 0) (n := 0 + l.length + 2) (c := cap6) (m := l.length) (sz := 19) (kk := .i64) w kR kR (by omega)) ?_
 ·kernel_rfl
 refine g0 ?_
 refine gR (Value.slice (some (Addr.mk b6 0 none)) l.length cap6) fun w' hs => ?_
 exact ⟨⟨b6, cap6, hb6.resolve_right (by simp), by omega⟩, rfl, Sat.oneRow hs.kk (hs.asRow (i := 1) (o := true) (cs := cs6) (E := 55) kR (fun _ => rfl) (hy ▸ room_take l ht4 ht6))⟩
theorem Sat.rowFront {w : World} {l y : List Nod} {bl ol : Nat} (h : Sat w [] [.row bl ol 19 y.length (rowOf y)] w) (hy : roomN l = y) : Sat w [] [.row bl ol 19 l.length (rowOf l)] w := by
 subst hy
 refine row_sat fun hn => ?_
 obtain ⟨h1, h2⟩ := h.holds _ (List.mem_singleton.2 rfl) (by rw [room_len]; omega)
 refine ⟨h1, fun k hk j v hv => h2 k (by rw [room_len]; omega) j v ?_⟩
 simp only [rowOf] at hv ⊢
 rwa [room_nth l hk]
theorem node_eqq (n : Nod) (x y : Operand) (w : World) : (eqlSem 55 x y (nodV n) (nodV n)).run Try.prog w = .ok (.value (.bool true)) w :=
 eql_run kR (apiNode_same n w)
theorem loadAt {y : List Nod} {b k n j : Nat} {m : Nod} {w0 w : World} {bs : List Nat} {hp : List HE} (hw : Sat w0 bs hp w) (hj : hp[j]? = some (.row b 0 19 y.length (rowOf y))) (hk : k < n) (hn : y.length = n) (hm : nth y k = m) :
  (loadSem 55 (.pointer (some ⟨b, 0 + k * 19, none⟩))).run Try.prog w = .ok (.value (nodV m)) w := by
 rw [← hm]
 exact nodeLoad hw hj (by omega)
theorem stays_any (A : Option Addr) (l y : List Nod) (c bl ol b cap : Nat) (hy : roomN l = y) (hcap : l.length + 2 ≤ cap) (hl : l.length ≤ 879609302195) (hax : l.length = 0 ∨ A = some ⟨bl, ol, none⟩) (w : World) (hx : Sat w [] [.row b 0 19 y.length (rowOf y)] w) (hq : Sat w [] [.row bl ol 19 l.length (rowOf l)] w) :
  Calls Try.prog 12 #[.slice (some ⟨b, 0, none⟩) l.length cap, .slice A l.length c] w fun e w' => e = .returned (.bool true) ∧ Kept w w' := by
 have hyl : y.length = l.length + 2 := by rw [← hy, room_len]
 have h7 : nth y l.length = markN (-7) := by rw [← hy, room_7]
 have h8 : nth y (l.length + 1) = markN (-8) := by rw [← hy, room_8]
 refine g_enter (args := [.slice (some ⟨b, 0, none⟩) l.length cap, .slice A l.length c]) [] [.row b 0 19 y.length (rowOf y), .row bl ol 19 l.length (rowOf l)] Try.func12 rfl Try.ntmps12 kL (hx.two hq) ?_
 refine gU 9 [] 0 ?_
 refine g_val _ _ ?_ (fun w _hs => bin_run (P := Try.prog) (op := .add) (t := 3) (x := .tmp 8) (y := .const (.int .i64 2)) (a := .int .i64 (l.length : Int)) (b := .int .i64 2) (v := .int .i64 (IntKind.wrap .i64 ((l.length : Int) + 2))) (v' := .int .i64 ((l.length + 2 : Nat) : Int)) (w := w) kR (by rw [wrap_i64 (by omega) (by omega)]; rfl)) ?_
 ·kernel_rfl
 refine g_val _ _ ?_ (fun w _hs => front_run (P := Try.prog) (T := 22) (E := 55) (b := b) (o := 0) (n := l.length) (c := cap) (m := l.length + 2) (sz := 19) (kk := .i64) w kR kR hcap) ?_
 ·kernel_rfl
 refine g0 ?_
 refine gD 26 ?_
 refine lU 14 [] 0 ?_
 refine l_val _ _ ?_ (fun w _hs => .inl (front_run (P := Try.prog) (T := 22) (E := 55) (b := b) (o := 0) (n := l.length + 2) (c := cap) (m := l.length) (sz := 19) (kk := .i64) w kR kR (by omega))) ?_
 ·kernel_rfl
 refine l0 ?_
 refine l_callq _ _ _ ?_ (fun w hs => same_any l (some ⟨b, 0, none⟩) A b 0 cap bl ol c hl w (Sat.rowFront (hs.read [0] [.row b 0 19 y.length (rowOf y)] kR) hy) (hs.read [1] [.row bl ol 19 l.length (rowOf l)] kR) (.inr rfl) hax) ?_
 ·kernel_rfl
 refine lU 21 [] 3 ?_
 refine l_val _ _ ?_ (fun w _hs => .inl (idx_run (P := Try.prog) (T := 22) (E := 55) (b := b) (o := 0) (n := l.length + 2) (c := cap) (k := l.length) (sz := 19) (kk := .i64) w kR kR (by omega))) ?_
 ·kernel_rfl
 refine l_val _ _ ?_ (fun w _hs => .inl (loadAt (y := y) (b := b) (k := l.length) (n := l.length + 2) (j := 0) (m := markN (-7)) _hs kR (by omega) hyl h7)) ?_
 ·kernel_rfl
 refine l_callq _ _ _ ?_ (fun w hs => marker7 w) ?_
 ·kernel_rfl
 refine l_val _ _ ?_ (fun w _hs => .inl (node_eqq (markN (-7)) (.tmp 22) (.tmp 23) w)) ?_
 ·kernel_rfl
 refine lU 30 [] 3 ?_
 refine l_val _ _ ?_ (fun w _hs => .inl (nat_succ (P := Try.prog) (t := 3) (x := .tmp 29) (y := .const (.int .i64 1)) (m := l.length) (w := w) kR (by omega))) ?_
 ·kernel_rfl
 refine l_val _ _ ?_ (fun w _hs => .inl (idx_run (P := Try.prog) (T := 22) (E := 55) (b := b) (o := 0) (n := l.length + 2) (c := cap) (k := l.length + 1) (sz := 19) (kk := .i64) w kR kR (by omega))) ?_
 ·kernel_rfl
 refine l_val _ _ ?_ (fun w _hs => .inl (loadAt (y := y) (b := b) (k := l.length + 1) (n := l.length + 2) (j := 0) (m := markN (-8)) _hs kR (by omega) hyl h8)) ?_
 ·kernel_rfl
 refine l_callq _ _ _ ?_ (fun w hs => marker8 w) ?_
 ·kernel_rfl
 refine l_val _ _ ?_ (fun w _hs => .inl (node_eqq (markN (-8)) (.tmp 32) (.tmp 33) w)) ?_
 ·kernel_rfl
 refine l0 ?_
 refine lE ?_
 refine gR (Value.bool true) fun w' hs => ?_
 exact ⟨rfl, hs.kk⟩
end Go.Proofs.Ytcncfmjfgdbfeab
namespace Go.Proofs.Ytcncfmjfgdbfeab
open Go.RowKit
def rC (l : List Nod) (os : List (Nat × Nat)) : List Value := os.flatMap fun p => [.bool (decide ((nth l p.1).kind = 10)), .int .i64 (p.2 : Int)]
theorem rC_length {l : List Nod} : ∀ os : List (Nat × Nat), (rC l os).length = os.length * 2
 | [] => rfl
 | p :: r => by
  have := rC_length (l := l) r
  simp only [rC, List.flatMap_cons, List.length_append, List.length_cons, List.length_nil] at *
  omega
theorem rC_append {l : List Nod} (a b : List (Nat × Nat)) : rC l (a ++ b) = rC l a ++ rC l b := by simp [rC]
def ROpen (l : List Nod) (os : List (Nat × Nat)) (base : Option Addr) (cap : Nat) (e : HE) : Prop :=
 (base = none ∧ os = [] ∧ cap = 0) ∨ ∃ bo oc, base = some ⟨bo, 0, none⟩ ∧ e = .obj true bo oc 118 ∧ oc.length = cap * 2 ∧ os.length ≤ cap ∧ oc.take (os.length * 2) = rC l os
theorem ROpen.last {l : List Nod} {os : List (Nat × Nat)} {p : Nat × Nat} {base : Option Addr} {cap : Nat} {e : HE} (h : ROpen l (os ++ [p]) base cap e) :
  ∃ bo oc, base = some ⟨bo, 0, none⟩ ∧ e = .obj true bo oc 118 ∧ oc.length = cap * 2 ∧ os.length + 1 ≤ cap ∧ oc.take ((os.length + 1) * 2) = rC l (os ++ [p]) ∧
   oc[0 + os.length * 2]? = some (.bool (decide ((nth l p.1).kind = 10))) ∧ oc[0 + os.length * 2 + 1]? = some (.int .i64 (p.2 : Int)) := by
 rcases h with ⟨_, h, _⟩ | ⟨bo, oc, h1, h2, h3, h4, h5⟩
 ·simp at h
 simp only [List.length_append, List.length_cons, List.length_nil, Nat.zero_add] at h4 h5
 have hl := rC_length (l := l) os
 refine ⟨bo, oc, h1, h2, h3, h4, h5, ?_, ?_⟩
 ·have : (oc.take ((os.length + 1) * 2))[os.length * 2]? = some (.bool (decide ((nth l p.1).kind = 10))) := by
   rw [h5, rC_append, ← hl, List.getElem?_append_right (Nat.le_refl _), Nat.sub_self]; rfl
  rw [List.getElem?_take, if_pos (by omega)] at this
  rwa [Nat.zero_add]
 have : (oc.take ((os.length + 1) * 2))[os.length * 2 + 1]? = some (.int .i64 (p.2 : Int)) := by
  rw [h5, rC_append, ← hl, List.getElem?_append_right (by omega), Nat.add_sub_cancel_left]; rfl
 rw [List.getElem?_take, if_pos (by omega)] at this
 rwa [Nat.zero_add]
theorem rC_set {l : List Nod} {os : List (Nat × Nat)} {p : Nat × Nat} {oc : List Value} {s : Nat} (h : oc.take ((os.length + 1) * 2) = rC l (os ++ [p])) (_hl : (os.length + 1) * 2 ≤ oc.length) :
  (oc.set (0 + os.length * 2 + 1) (.int .i64 (s : Int))).take ((os.length + 1) * 2) = rC l (os ++ [(p.1, s)]) := by
 have h1 := rC_length (l := l) os
 rw [List.take_set, h, rC_append, rC_append, List.set_append_right _ _ (by omega)]
 congr 1
 rw [show 0 + os.length * 2 + 1 - (rC l os).length = 1 by omega]
 rfl
theorem ROpen.less {l : List Nod} {os : List (Nat × Nat)} {p : Nat × Nat} {bo cap : Nat} {oc : List Value} (h : oc.take ((os.length + 1) * 2) = rC l (os ++ [p])) (h1 : oc.length = cap * 2) (h2 : os.length + 1 ≤ cap) :
  ROpen l os (some ⟨bo, 0, none⟩) cap (.obj true bo oc 118) :=
 .inr ⟨bo, oc, rfl, rfl, h1, by omega, by
  have hl := rC_length (l := l) os
  have := congrArg (List.take (os.length * 2)) h
  rw [List.take_take, Nat.min_eq_left (by omega), rC_append, List.take_append_of_le_length (by omega)] at this
  rw [this, List.take_of_length_le (by omega)]⟩
theorem ROpen.row {l : List Nod} {os : List (Nat × Nat)} {base : Option Addr} {cap : Nat} {e : HE} (h : ROpen l os base cap e) :
  ∃ oc : List Value, oc.take (os.length * 2) = rC l os ∧ ∀ hp : List HE, hp[1]? = some e → RowAt hp 1 base os.length cap 2 oc 118 := by
 rcases h with ⟨h1, h2, h3⟩ | ⟨bo, oc, h1, h2, h3, h4, h5⟩
 ·subst h2
  exact ⟨[], rfl, fun hp hh => ⟨(List.getElem?_eq_some_iff.1 hh).1, .inl ⟨h1, rfl, h3⟩⟩⟩
 exact ⟨oc, h5, fun hp hh => ⟨(List.getElem?_eq_some_iff.1 hh).1, .inr ⟨bo, h1, by rw [hh, h2], h3, h4⟩⟩⟩
theorem ROpen.grow {l : List Nod} {os : List (Nat × Nat)} {p : Nat × Nat} {b' cap' : Nat} {oc cs' : List Value} (h : oc.take (os.length * 2) = rC l os) (hc : os.length + 1 ≤ cap') (hl : cs'.length = cap' * 2)
  (ht : cs'.take ((os.length + 1) * 2) = oc.take (os.length * 2) ++ [.bool (decide ((nth l p.1).kind = 10)), .int .i64 (p.2 : Int)]) : ROpen l (os ++ [p]) (some ⟨b', 0, none⟩) cap' (.obj true b' cs' 118) :=
 .inr ⟨b', cs', rfl, rfl, hl, by simpa using hc, by
  rw [show (os ++ [p]).length = os.length + 1 by simp, ht, h, rC_append]; rfl⟩
end Go.Proofs.Ytcncfmjfgdbfeab
namespace Go.Proofs.Ytcncfmjfgdbfeab
open Go.RowKit
structure RCX (l : List Nod) where
 at_ : Nat
 W : Wk
 base : Option Addr
 cap : Nat
 e : HE
 n : Nat
 fl : Bool
 hn : W.os.length = n
 sk : ROpen l W.os base cap e
 hf : fl = decide (40 < W.d)
 os : ∀ p ∈ W.os, p.2 ≤ 2
 len : n ≤ at_
 le : at_ ≤ l.length
 run : walkW l (l.length - at_) at_ W = walkW l l.length 0 (walk0 l)
def RCX.start (l : List Nod) : RCX l :=
 ⟨0, walk0 l, none, 0, noneE, 0, false, rfl, .inl ⟨rfl, rfl, rfl⟩, by simp [walk0], fun p hp => by simp [walk0] at hp, Nat.le_refl _, Nat.zero_le _, rfl⟩
theorem RCX.unroll {l : List Nod} (x : RCX l) (h : x.at_ < l.length) : walkW l l.length 0 (walk0 l) = bif rightB (nth l x.at_) then (match stepW l x.at_ x.W with | some W' => walkW l (l.length - (x.at_ + 1)) (x.at_ + 1) W' | none => none) else none := by
 rw [← x.run, show l.length - x.at_ = (l.length - (x.at_ + 1)) + 1 by omega]
 rfl
theorem check_50 {l : List Nod} (hl : l.length ≤ 2000) (h : walkW l l.length 0 (walk0 l) = none) : checkB l = 50 := by
 unfold checkB
 rw [decide_eq_false (by omega), cond_false, h]
theorem RCX.wrong {l : List Nod} (x : RCX l) (h : x.at_ < l.length) (hl : l.length ≤ 2000) (hr : rightB (nth l x.at_) = false) : checkB l = 50 := check_50 hl (by rw [x.unroll h, hr]; rfl)
theorem RCX.stops {l : List Nod} (x : RCX l) (h : x.at_ < l.length) (hl : l.length ≤ 2000) (hr : rightB (nth l x.at_) = true) (hs : stepW l x.at_ x.W = none) : checkB l = 50 := check_50 hl (by rw [x.unroll h, hr, hs]; rfl)
def RCX.next {l : List Nod} (x : RCX l) (h : x.at_ < l.length) (hr : rightB (nth l x.at_) = true) (W' : Wk) (hs : stepW l x.at_ x.W = some W') (base : Option Addr) (cap : Nat) (e : HE) (n : Nat) (fl : Bool) (hn : W'.os.length = n) (sk : ROpen l W'.os base cap e)
  (hf : fl = decide (40 < W'.d)) (os : ∀ p ∈ W'.os, p.2 ≤ 2) (len : n ≤ x.at_ + 1) : RCX l :=
 ⟨x.at_ + 1, W', base, cap, e, n, fl, hn, sk, hf, os, len, h, by
  have := x.unroll h
  rw [hr, hs] at this
  exact this.symm⟩
theorem RCX.done {l : List Nod} (x : RCX l) (h : ¬ x.at_ < l.length) : walkW l l.length 0 (walk0 l) = some x.W := by
 rw [← x.run, show l.length - x.at_ = 0 by omega]
 rfl
theorem RCX.end_ {l : List Nod} (x : RCX l) (h : ¬ x.at_ < l.length) (hl : l.length ≤ 2000) : checkB l = if x.n = 0 then (if x.fl = true then 51 else 0) else 50 := by
 have h1 := x.hf
 have h2 := x.hn
 unfold checkB
 rw [decide_eq_false (by omega), cond_false, x.done h]
 dsimp only
 rw [h2]
 by_cases h0 : x.n = 0
 ·rw [if_pos h0, decide_eq_true h0, cond_true, h1]
  by_cases hd : 40 < x.W.d
  ·simp [hd]
  simp [hd]
 rw [if_neg h0, decide_eq_false h0, cond_false]
structure Top (l : List Nod) (x : RCX l) (k : Nat) (os : List (Nat × Nat)) (p : Nat × Nat) (bo : Nat) (oc : List Value) : Prop where
 n : x.n = k + 1
 len : os.length = k
 is : x.W.os = os ++ [p]
 base : x.base = some ⟨bo, 0, none⟩
 e : x.e = .obj true bo oc 118
 size : oc.length = x.cap * 2
 room : k + 1 ≤ x.cap
 cells : oc.take ((k + 1) * 2) = rC l (os ++ [p])
 disc : oc[0 + k * 2]? = some (.bool (decide ((nth l p.1).kind = 10)))
 seps : oc[0 + k * 2 + 1]? = some (.int .i64 (p.2 : Int))
 two : p.2 ≤ 2
theorem RCX.top {l : List Nod} (x : RCX l) (h : x.n ≠ 0) : ∃ k os p bo oc, Top l x k os p bo oc := by
 have h1 := x.hn
 have h2 : x.W.os ≠ [] := fun e => by rw [e] at h1; exact h h1.symm
 have h3 := (List.dropLast_concat_getLast h2).symm
 have h4 := x.sk
 have h5 := x.os _ (List.getLast_mem h2)
 rw [h3] at h4
 obtain ⟨bo, oc, q1, q2, q3, q4, q5, q6, q7⟩ := h4.last
 have h6 : x.W.os.length = x.W.os.dropLast.length + 1 := by
  have := congrArg List.length h3
  simpa using this
 exact ⟨x.W.os.dropLast.length, x.W.os.dropLast, x.W.os.getLast h2, bo, oc, by omega, rfl, h3, q1, q2, q3, q4, q5, q6, q7, h5⟩
theorem Top.inDisc {l : List Nod} {x : RCX l} {k bo : Nat} {os : List (Nat × Nat)} {p : Nat × Nat} {oc : List Value} (t : Top l x k os p bo oc) : inDiscB l x.W.os = decide ((nth l p.1).kind = 10) := by
 unfold inDiscB
 rw [t.is]
 simp
theorem RCX.inDisc0 {l : List Nod} (x : RCX l) (h : x.n = 0) : inDiscB l x.W.os = false ∧ x.W.os = [] := by
 have h1 := x.hn
 have h2 : x.W.os = [] := List.length_eq_zero_iff.1 (by omega)
 exact ⟨by unfold inDiscB; rw [h2]; rfl, h2⟩
end Go.Proofs.Ytcncfmjfgdbfeab
