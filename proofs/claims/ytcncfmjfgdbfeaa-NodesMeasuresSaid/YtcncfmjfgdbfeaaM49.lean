/- NodFs NodLe NodBd NodFit LawMeas5. -/
import Derived.Test.YtcncfmjfgdbfeaaM35
import Derived.Test.YtcncfmjfgdbfeaaM36
import Derived.Test.YtcncfmjfgdbfeaaM48
import Derived.SizedLaws
import Derived.Test.YtcncfmjfgdbfeaaM34
import Derived.ChangeKeysEq
namespace Go.Proofs.Ytcncfmjfgdbfeaa
set_option maxRecDepth 100000
set_option maxHeartbeats 4000000
open Go.RowKit
theorem neq_run {P : Program} {t : TypeId} {x y : Operand} {a b : Array Value} {r : Bool} {w : World} (hg : runQ P (eqGuard .neq t x y (.agg a) (.agg b)) = some ()) (hb : (binOp .eql t (.agg a) (.agg b)).run P w = .ok (.bool r) w) :
  (binSem .neq t x y (.agg a) (.agg b)).run P w = .ok (.value (.bool (!r))) w := by
 have h2 : binOp .neq t (.agg a) (.agg b) = (do pure (.bool (!(← Op.equal t (.agg a) (.agg b))))) := rfl
 have h3 : binOp .eql t (.agg a) (.agg b) = (do pure (.bool (← Op.equal t (.agg a) (.agg b)))) := rfl
 rw [h3] at hb
 have h1 : (Op.equal t (.agg a) (.agg b)).run P w = .ok r w := by
  simp only [Sem.run_bind] at hb
  cases hh : (Op.equal t (.agg a) (.agg b)).run P w with
  | ok v w' => rw [hh] at hb; simp [Result.andThen] at hb; obtain ⟨h1, h2⟩ := hb; rw [h1, h2]
  | halt q w' => rw [hh] at hb; simp [Result.andThen] at hb
 simp [binSem, runQ_run hg w, h2, h1, Result.andThen]
theorem node_nneq (n : Nod) (x y : Operand) (w : World) : (binSem .neq 63 x y (nodV n) (nodV n)).run Try.prog w = .ok (.value (.bool false)) w :=
 neq_run (r := true) kR (apiNode_same n w)
theorem Sat.two {w : World} {b o n b' o' n' : Nat} {f f' : Nat → List Value} (h : Sat w [] [.row b o 19 n f] w) (h' : Sat w [] [.row b' o' 19 n' f'] w) : Sat w [] [.row b o 19 n f, .row b' o' 19 n' f'] w := by
 refine ⟨.refl _ _, fun e he => ?_, fun i j e e' _ hi _ ho => ?_⟩
 ·rcases List.mem_cons.1 he with rfl | he
  ·exact h.holds _ (List.mem_singleton.2 rfl)
  rw [List.mem_singleton.1 he]
  exact h'.holds _ (List.mem_singleton.2 rfl)
 have he := List.mem_of_getElem? hi
 rcases List.mem_cons.1 he with rfl | he
 ·cases ho
 rw [List.mem_singleton.1 he] at ho
 cases ho
theorem same_none (A B : Option Addr) (ca cb : Nat) (w : World) :
  Calls Try.prog 39 #[.slice A 0 ca, .slice B 0 cb] w fun e w' => e = .returned (.bool true) ∧ Kept w w' := by
 refine g_enter (args := [.slice A 0 ca, .slice B 0 cb]) [] [] Try.func39 rfl Try.ntmps39 kL (sat0 w) ?_
 refine gA [] 1 ?_
 refine g_unroll 2 kR ?_
 refine gA [] 1 ?_
 refine gR (Value.bool true) fun w' hs => ?_
 exact ⟨rfl, hs.kk⟩
theorem same_some (l : List Nod) (ba oa ca bb ob cb : Nat) (hl : l.length ≤ 879609302195) (w : World) (hA : Sat w [] [.row ba oa 19 l.length (rowOf l)] w) (hB : Sat w [] [.row bb ob 19 l.length (rowOf l)] w) :
  Calls Try.prog 39 #[.slice (some ⟨ba, oa, none⟩) l.length ca, .slice (some ⟨bb, ob, none⟩) l.length cb] w fun e w' => e = .returned (.bool true) ∧ Kept w w' := by
 refine g_enter (args := [.slice (some ⟨ba, oa, none⟩) l.length ca, .slice (some ⟨bb, ob, none⟩) l.length cb]) [] [.row ba oa 19 l.length (rowOf l), .row bb ob 19 l.length (rowOf l)] Try.func39 rfl Try.ntmps39 kL (hA.two hB) ?_
 refine g0 ?_
 refine g_dec 10 ((l.length : Int) != (l.length : Int)) kR (fun h => absurd h (by simp)) (fun _ => ?_)
 refine gA [] 1 ?_
 refine g_loopN (X := { k : Nat // k ≤ l.length }) (fun x => [(5, .int .i64 (x.1 : Int))]) (fun _ => [.row ba oa 19 l.length (rowOf l), .row bb ob 19 l.length (rowOf l)]) (fun x => l.length - x.1) ⟨0, Nat.zero_le _⟩ kR (by unfold Known; kernel_rfl) kR fun x N hN => ?_
 refine g0 ?_
 refine g_dec 14 (decide ((x.1 : Int) < (l.length : Int))) kR (fun h => ?_) (fun h => ?_)
 ·have hx : x.1 < l.length := by have := of_decide_eq_true h; omega
  refine gA [] 1 ?_
  refine gD 9 ?_
  refine lU 19 [] 0 ?_
  refine l_val _ _ ?_ (fun w _hs => .inl (idx_run (P := Try.prog) (T := 59) (E := 63) (b := ba) (o := oa) (n := l.length) (c := ca) (k := x.1) (sz := 19) (kk := .i64) w kR kR hx)) ?_
  ·kernel_rfl
  refine l_val _ _ ?_ (fun w _hs => .inl (nodeLoad (l := l) (bl := ba) (ol := oa) (k := x.1) (j := 0) _hs kR hx)) ?_
  ·kernel_rfl
  refine lU 23 [] 0 ?_
  refine l_val _ _ ?_ (fun w _hs => .inl (idx_run (P := Try.prog) (T := 59) (E := 63) (b := bb) (o := ob) (n := l.length) (c := cb) (k := x.1) (sz := 19) (kk := .i64) w kR kR hx)) ?_
  ·kernel_rfl
  refine l_val _ _ ?_ (fun w _hs => .inl (nodeLoad (l := l) (bl := bb) (ol := ob) (k := x.1) (j := 1) _hs kR hx)) ?_
  ·kernel_rfl
  refine l_val _ _ ?_ (fun w _hs => .inl (node_nneq (nth l x.1) (.tmp 20) (.tmp 24) w)) ?_
  ·kernel_rfl
  refine lE ?_
  refine gU 16 [] 1 ?_
  refine g_val _ _ ?_ (fun w _hs => nat_succ (P := Try.prog) (t := 3) (x := .tmp 15) (y := .const (.int .i64 1)) (m := x.1) (w := w) kR (by omega)) ?_
  ·kernel_rfl
  refine g0 ?_
  refine g_hook (hN ⟨x.1 + 1, hx⟩ (by show l.length - (x.1 + 1) < l.length - x.1; omega)) kR kR kR (by unfold Known; kernel_rfl) kR kR
 refine gA [] 1 ?_
 refine gR (Value.bool true) fun w' hs => ?_
 exact ⟨rfl, hs.kk⟩
theorem same_any (l : List Nod) (A B : Option Addr) (ba oa ca bb ob cb : Nat) (hl : l.length ≤ 879609302195) (w : World) (hA : Sat w [] [.row ba oa 19 l.length (rowOf l)] w) (hB : Sat w [] [.row bb ob 19 l.length (rowOf l)] w) (eA : l.length = 0 ∨ A = some ⟨ba, oa, none⟩) (eB : l.length = 0 ∨ B = some ⟨bb, ob, none⟩) :
  Calls Try.prog 39 #[.slice A l.length ca, .slice B l.length cb] w fun e w' => e = .returned (.bool true) ∧ Kept w w' := by
 by_cases h0 : l.length = 0
 ·rw [h0]; exact same_none A B ca cb w
 rw [eA.resolve_left h0, eB.resolve_left h0]
 exact same_some l ba oa ca bb ob cb hl w hA hB
end Go.Proofs.Ytcncfmjfgdbfeaa
namespace Go.Proofs.Ytcncfmjfgdbfeaa
set_option maxRecDepth 100000
set_option maxHeartbeats 4000000
open Go.RowKit
def markN (k : Int) : Nod := ⟨k, 0, 0, 0, 0, 0, 0, 0, 0, 0, 0, 0, 0, 0, 0, 0, 0, 0, ⟨#[114, 111, 111, 109]⟩⟩
theorem marker7 (w : World) : Calls Try.prog 64 #[.int .i64 7] w fun e w' => e = .returned (nodV (markN (-7))) ∧ Kept w w' := by
 refine g_enter (args := [.int .i64 7]) [] [] Try.func64 rfl Try.ntmps64 kL (sat0 w) ?_
 refine g0 ?_
 refine gN fun b0 hb0 => ?_
 refine gA (List.replicate 19 0) 0 ?_
 refine g_ret (List.replicate 19 0) (nodV (markN (-7))) kR kR kR fun w' hs => ?_
 exact ⟨rfl, hs.kk⟩
theorem marker8 (w : World) : Calls Try.prog 64 #[.int .i64 8] w fun e w' => e = .returned (nodV (markN (-8))) ∧ Kept w w' := by
 refine g_enter (args := [.int .i64 8]) [] [] Try.func64 rfl Try.ntmps64 kL (sat0 w) ?_
 refine g0 ?_
 refine gN fun b0 hb0 => ?_
 refine gA (List.replicate 19 0) 0 ?_
 refine g_ret (List.replicate 19 0) (nodV (markN (-8))) kR kR kR fun w' hs => ?_
 exact ⟨rfl, hs.kk⟩
def roomN (l : List Nod) : List Nod := l ++ [markN (-7), markN (-8)]
theorem room_len (l : List Nod) : (roomN l).length = l.length + 2 := by simp [roomN]
theorem room_nth (l : List Nod) {k : Nat} (h : k < l.length) : nth (roomN l) k = nth l k := nth_left h
theorem room_7 (l : List Nod) : nth (roomN l) l.length = markN (-7) := by
 have := nth_right (a := l) (b := [markN (-7), markN (-8)]) (k := 0)
 rw [Nat.zero_add] at this
 exact this
theorem room_8 (l : List Nod) : nth (roomN l) (l.length + 1) = markN (-8) := by
 have := nth_right (a := l) (b := [markN (-7), markN (-8)]) (k := 1)
 rw [Nat.add_comm 1] at this
 exact this
structure LentX (w0 : World) (l : List Nod) where
 b : Nat
 cap : Nat
 new : w0.heap.size ≤ b
 le : l.length + 2 ≤ cap
theorem room_take (l : List Nod) {cs4 cs6 : List Value} (h4 : cs4.take ((0 + l.length) * 19) = ([] : List Value).take (0 * 19) ++ rowsL (rowOf l) 0 l.length) (h6 : cs6.take ((0 + l.length + 2) * 19) = cs4.take ((0 + l.length) * 19) ++ (nodC (markN (-7)) ++ nodC (markN (-8)))) :
  cs6.take ((roomN l).length * 19) = rowsL (rowOf (roomN l)) 0 (roomN l).length := by
 rw [room_len, show l.length + 2 = 0 + l.length + 2 by omega, h6, h4, List.take_nil, List.nil_append, show 0 + l.length + 2 = l.length + 1 + 1 by omega, rowsL_succ, rowsL_succ, List.append_assoc]
 congr 1
 ·exact rowsL_eq fun q hq => by
   simp only [rowOf, Nat.zero_add]
   rw [room_nth l hq]
 simp only [rowOf, Nat.zero_add]
 rw [room_7, room_8]
theorem two_marks : ∀ u ∈ nodC (markN (-7)) ++ nodC (markN (-8)), u.oneCell' = true := fun u hu => by
 rcases List.mem_append.1 hu with h | h
 ·exact nodC_one _ u h
 exact nodC_one _ u h
theorem lent_any (A : Option Addr) (l : List Nod) (c bl ol : Nat) (hl : l.length ≤ 879609302195) (hax : l.length = 0 ∨ A = some ⟨bl, ol, none⟩) (y : List Nod) (hy : roomN l = y) (w : World) (hq : Sat w [] [.row bl ol 19 l.length (rowOf l)] w) :
  Calls Try.prog 28 #[.slice A l.length c] w fun e w' => ∃ x : LentX w l, e = .returned (.slice (some ⟨x.b, 0, none⟩) l.length x.cap) ∧ Sat w [] [.row x.b 0 19 y.length (rowOf y)] w' := by
 refine g_enter (args := [.slice A l.length c]) [] [.row bl ol 19 l.length (rowOf l)] Try.func28 rfl Try.ntmps28 kL hq ?_
 refine g0 ?_
 refine gN fun b1 hb1 => ?_
 refine gU 6 [] 0 ?_
 refine g_appendR 1 0 59 63 b1 0 0 19 l.length c 0 bl ol l.length 160 A [] (rowOf l) kR kR (info_of kR) kR rfl (Nat.le_refl _) kR (fun _ => rfl) (rowOf_one l) (by omega) (by simpa using hax) (by omega) (by omega) fun b4 cap4 cs4 _hb4 hc4 hl4 ht4 => ?_
 refine g0 ?_
 refine g_callq _ _ _ ?_ (fun w hs => marker7 w) ?_
 ·kernel_rfl
 refine g_callq _ _ _ ?_ (fun w hs => marker8 w) ?_
 ·kernel_rfl
 refine gN fun b2 hb2 => ?_
 refine g_append 1 2 59 63 63 (some ⟨b4, 0, none⟩) (0 + l.length) cap4 19 2 2 b2 160 cs4 (nodC (markN (-7)) ++ nodC (markN (-8))) true kR kR kR (info_of kR) (rowAt_own kR hl4 hc4) kR rfl two_marks (by omega) (by omega) (by omega) fun b6 cap6 cs6 hb6 hc6 _hl6 ht6 => ?_
 refine gU 15 [] 0 ?_
 refine g_val _ _ ?_ (fun w _hs => front_run (P := Try.prog) (T := 59) (E := 63) (b := b6) (o := 0) (n := 0 + l.length + 2) (c := cap6) (m := l.length) (sz := 19) (kk := .i64) w kR kR (by omega)) ?_
 ·kernel_rfl
 refine g0 ?_
 refine gR (Value.slice (some (Addr.mk b6 0 none)) l.length cap6) fun w' hs => ?_
 exact ⟨⟨b6, cap6, hb6.resolve_right (by simp), by omega⟩, rfl, Sat.oneRow hs.kk (hs.asRow (i := 1) (o := true) (cs := cs6) (E := 63) kR (fun _ => rfl) (hy ▸ room_take l ht4 ht6))⟩
theorem Sat.rowFront {w : World} {l y : List Nod} {bl ol : Nat} (h : Sat w [] [.row bl ol 19 y.length (rowOf y)] w) (hy : roomN l = y) : Sat w [] [.row bl ol 19 l.length (rowOf l)] w := by
 subst hy
 refine row_sat fun hn => ?_
 obtain ⟨h1, h2⟩ := h.holds _ (List.mem_singleton.2 rfl) (by rw [room_len]; omega)
 refine ⟨h1, fun k hk j v hv => h2 k (by rw [room_len]; omega) j v ?_⟩
 simp only [rowOf] at hv ⊢
 rwa [room_nth l hk]
theorem node_eqq (n : Nod) (x y : Operand) (w : World) : (eqlSem 63 x y (nodV n) (nodV n)).run Try.prog w = .ok (.value (.bool true)) w :=
 eql_run kR (apiNode_same n w)
theorem loadAt {y : List Nod} {b k n j : Nat} {m : Nod} {w0 w : World} {bs : List Nat} {hp : List HE} (hw : Sat w0 bs hp w) (hj : hp[j]? = some (.row b 0 19 y.length (rowOf y))) (hk : k < n) (hn : y.length = n) (hm : nth y k = m) :
  (loadSem 63 (.pointer (some ⟨b, 0 + k * 19, none⟩))).run Try.prog w = .ok (.value (nodV m)) w := by
 rw [← hm]
 exact nodeLoad hw hj (by omega)
theorem stays_any (A : Option Addr) (l y : List Nod) (c bl ol b cap : Nat) (hy : roomN l = y) (hcap : l.length + 2 ≤ cap) (hl : l.length ≤ 879609302195) (hax : l.length = 0 ∨ A = some ⟨bl, ol, none⟩) (w : World) (hx : Sat w [] [.row b 0 19 y.length (rowOf y)] w) (hq : Sat w [] [.row bl ol 19 l.length (rowOf l)] w) :
  Calls Try.prog 36 #[.slice (some ⟨b, 0, none⟩) l.length cap, .slice A l.length c] w fun e w' => e = .returned (.bool true) ∧ Kept w w' := by
 have hyl : y.length = l.length + 2 := by rw [← hy, room_len]
 have h7 : nth y l.length = markN (-7) := by rw [← hy, room_7]
 have h8 : nth y (l.length + 1) = markN (-8) := by rw [← hy, room_8]
 refine g_enter (args := [.slice (some ⟨b, 0, none⟩) l.length cap, .slice A l.length c]) [] [.row b 0 19 y.length (rowOf y), .row bl ol 19 l.length (rowOf l)] Try.func36 rfl Try.ntmps36 kL (hx.two hq) ?_
 refine gU 9 [] 0 ?_
 refine g_val _ _ ?_ (fun w _hs => bin_run (P := Try.prog) (op := .add) (t := 3) (x := .tmp 8) (y := .const (.int .i64 2)) (a := .int .i64 (l.length : Int)) (b := .int .i64 2) (v := .int .i64 (IntKind.wrap .i64 ((l.length : Int) + 2))) (v' := .int .i64 ((l.length + 2 : Nat) : Int)) (w := w) kR (by rw [wrap_i64 (by omega) (by omega)]; rfl)) ?_
 ·kernel_rfl
 refine g_val _ _ ?_ (fun w _hs => front_run (P := Try.prog) (T := 59) (E := 63) (b := b) (o := 0) (n := l.length) (c := cap) (m := l.length + 2) (sz := 19) (kk := .i64) w kR kR hcap) ?_
 ·kernel_rfl
 refine g0 ?_
 refine gD 26 ?_
 refine lU 14 [] 0 ?_
 refine l_val _ _ ?_ (fun w _hs => .inl (front_run (P := Try.prog) (T := 59) (E := 63) (b := b) (o := 0) (n := l.length + 2) (c := cap) (m := l.length) (sz := 19) (kk := .i64) w kR kR (by omega))) ?_
 ·kernel_rfl
 refine l0 ?_
 refine l_callq _ _ _ ?_ (fun w hs => same_any l (some ⟨b, 0, none⟩) A b 0 cap bl ol c hl w (Sat.rowFront (hs.read [0] [.row b 0 19 y.length (rowOf y)] kR) hy) (hs.read [1] [.row bl ol 19 l.length (rowOf l)] kR) (.inr rfl) hax) ?_
 ·kernel_rfl
 refine lU 21 [] 3 ?_
 refine l_val _ _ ?_ (fun w _hs => .inl (idx_run (P := Try.prog) (T := 59) (E := 63) (b := b) (o := 0) (n := l.length + 2) (c := cap) (k := l.length) (sz := 19) (kk := .i64) w kR kR (by omega))) ?_
 ·kernel_rfl
 refine l_val _ _ ?_ (fun w _hs => .inl (loadAt (y := y) (b := b) (k := l.length) (n := l.length + 2) (j := 0) (m := markN (-7)) _hs kR (by omega) hyl h7)) ?_
 ·kernel_rfl
 refine l_callq _ _ _ ?_ (fun w hs => marker7 w) ?_
 ·kernel_rfl
 refine l_val _ _ ?_ (fun w _hs => .inl (node_eqq (markN (-7)) (.tmp 22) (.tmp 23) w)) ?_
 ·kernel_rfl
 refine lU 30 [] 3 ?_
 refine l_val _ _ ?_ (fun w _hs => .inl (nat_succ (P := Try.prog) (t := 3) (x := .tmp 29) (y := .const (.int .i64 1)) (m := l.length) (w := w) kR (by omega))) ?_
 ·kernel_rfl
 refine l_val _ _ ?_ (fun w _hs => .inl (idx_run (P := Try.prog) (T := 59) (E := 63) (b := b) (o := 0) (n := l.length + 2) (c := cap) (k := l.length + 1) (sz := 19) (kk := .i64) w kR kR (by omega))) ?_
 ·kernel_rfl
 refine l_val _ _ ?_ (fun w _hs => .inl (loadAt (y := y) (b := b) (k := l.length + 1) (n := l.length + 2) (j := 0) (m := markN (-8)) _hs kR (by omega) hyl h8)) ?_
 ·kernel_rfl
 refine l_callq _ _ _ ?_ (fun w hs => marker8 w) ?_
 ·kernel_rfl
 refine l_val _ _ ?_ (fun w _hs => .inl (node_eqq (markN (-8)) (.tmp 32) (.tmp 33) w)) ?_
 ·kernel_rfl
 refine l0 ?_
 refine lE ?_
 refine gR (Value.bool true) fun w' hs => ?_
 exact ⟨rfl, hs.kk⟩
end Go.Proofs.Ytcncfmjfgdbfeaa
namespace Go.Proofs.Ytcncfmjfgdbfeaa
set_option maxRecDepth 100000
set_option maxHeartbeats 40000000
open Go.RowKit
theorem outline_bad (l : List Nod) (bl ol cl : Nat) (v : Int) (hk : checkB l = v) (hv : v ≠ 0) (w : World) (hq : Sat w [] [.row bl ol 19 l.length (rowOf l)] w) :
  Calls Try.prog 65 #[.slice (some ⟨bl, ol, none⟩) l.length cl] w fun e' w' => e' = .returned (.tuple #[.agg #[.slice none 0 0, .slice none 0 0], .int .i64 v]) ∧ Kept w w' := by
 subst hk
 by_cases hl : 2000 < l.length
 ·rw [show checkB l = 6 by simp [checkB, hl]]
  exact outline_size l bl ol cl w hq hl
 have hl' : l.length ≤ 2000 := by omega
 cases hW : walkW l l.length 0 (walk0 l) with
 | none =>
  rw [show checkB l = 50 by simp [checkB, hl, hW]]
  exact outline_list l bl ol cl w hq hl' (by simp [wholeB, hW])
 | some W =>
  by_cases ho : W.os.length = 0
  ·have hw : wholeB l (walk0 l) = true := by simp only [wholeB, hW, ho, decide_true]
   by_cases hd : 40 < W.d
   ·rw [show checkB l = 51 by simp only [checkB, hl, hW, ho, hd, decide_true, decide_false, cond_true, cond_false]]
    exact outline_deep l bl ol cl w hq W hl' hw hW hd
   exact absurd (show checkB l = 0 by simp only [checkB, hl, hW, ho, hd, decide_true, decide_false, cond_true, cond_false]) hv
  have hw : wholeB l (walk0 l) = false := by simp only [wholeB, hW, ho, decide_false]
  rw [show checkB l = 50 by simp only [checkB, hl, hW, ho, decide_false, cond_false]]
  exact outline_list l bl ol cl w hq hl' hw
theorem totals_bad (d : Bool) (l : List Nod) (bl ol cl : Nat) (v : Int) (hk : checkB l = v) (hv : v ≠ 0) (w : World) (hq : Sat w [] [.row bl ol 19 l.length (rowOf l)] w) :
  Calls Try.prog 41 #[.slice (some ⟨bl, ol, none⟩) l.length cl, .bool d] w fun e w' => e = .returned (.tuple #[totV acc0, .int .i64 v]) ∧ Kept w w' := by
 refine g_enter (args := [.slice (some ⟨bl, ol, none⟩) l.length cl, .bool d]) [] [.row bl ol 19 l.length (rowOf l)] Try.func41 rfl Try.ntmps41 kL hq ?_
 refine g0 ?_
 refine gN fun b1 hb1 => ?_
 refine g0 ?_
 refine g_callq _ _ _ ?_ (fun w hs => outline_bad l bl ol cl v hk hv w (hs.read [0] [.row bl ol 19 l.length (rowOf l)] kR)) ?_
 ·kernel_rfl
 refine g0 ?_
 refine gN fun b2 hb2 => ?_
 refine gA ([2, 2]) 0 ?_
 refine g_dec 14 (v != 0) kR (fun h14 => ?_) (fun h14 => ?_)
 ·refine gA (List.replicate 9 1) 1 ?_
  refine g_ret (List.replicate 9 1) (Value.tuple (Array.mk [Value.agg (Array.mk [Value.int IntKind.i64 0, Value.int IntKind.i64 0, Value.int IntKind.i64 0, Value.int IntKind.i64 0, Value.int IntKind.i64 0, Value.int IntKind.i64 0, Value.int IntKind.i64 0, Value.int IntKind.i64 0, Value.int IntKind.i64 0]), Value.int IntKind.i64 v])) kR kR kR fun w' hs => ?_
  exact ⟨rfl, hs.kk⟩
 exact absurd h14 (by intro hx; exact hv (by simpa using hx))
theorem extent_bad (d : Bool) (l : List Nod) (bl ol cl : Nat) (v : Int) (hk : checkB l = v) (hv : v ≠ 0) (w : World) (hq : Sat w [] [.row bl ol 19 l.length (rowOf l)] w) :
  Calls Try.prog 42 #[.slice (some ⟨bl, ol, none⟩) l.length cl, .bool d] w fun e w' => e = .returned (.tuple #[.int .i64 0, .int .i64 0, .int .i64 v]) ∧ Kept w w' := by
 refine g_enter (args := [.slice (some ⟨bl, ol, none⟩) l.length cl, .bool d]) [] [.row bl ol 19 l.length (rowOf l)] Try.func42 rfl Try.ntmps42 kL hq ?_
 refine g0 ?_
 refine g_callq _ _ _ ?_ (fun w hs => outline_bad l bl ol cl v hk hv w (hs.read [0] [.row bl ol 19 l.length (rowOf l)] kR)) ?_
 ·kernel_rfl
 refine g0 ?_
 refine gN fun b1 hb1 => ?_
 refine gA ([1, 1]) 0 ?_
 refine g_dec 14 (v != 0) kR (fun h14 => ?_) (fun h14 => ?_)
 ·refine gA [] 1 ?_
  refine gR (Value.tuple (Array.mk [Value.int IntKind.i64 0, Value.int IntKind.i64 0, Value.int IntKind.i64 v])) fun w' hs => ?_
  exact ⟨rfl, hs.kk⟩
 exact absurd h14 (by intro hx; exact hv (by simpa using hx))
/-! ### all at once -/
theorem code_ext (d : Bool) (l : List Nod) (bl ol cl : Nat) (W : Wk) (hG : Good l W) (w : World) (hq : Sat w [] [.row bl ol 19 l.length (rowOf l)] w) :
  Calls Try.prog 42 #[.slice (some ⟨bl, ol, none⟩) l.length cl, .bool d] w fun e w' => e = .returned (extV d l W) ∧ Kept w w' := by
 cases d with
 | true => exact extDown l bl ol cl W hG _ _ rfl rfl w hq
 | false => exact extAcross l bl ol cl W hG _ _ rfl rfl w hq
theorem doc_ext (d : Bool) (l : List Nod) (bl ol cl : Nat) (W : Wk) (hG : Good l W) (hcl : l.length ≤ cl) (hk : checkB l = 0) (w : World) (hq : Sat w [] [.row bl ol 19 l.length (rowOf l)] w) :
  Calls Try.prog 44 #[.slice (some ⟨bl, ol, none⟩) l.length cl, .bool d] w fun e w' => e = .returned (extV d l W) ∧ Kept w w' := by
 cases d with
 | true => exact rextent_true l bl ol cl W hG hcl hk w hq
 | false => exact rextent_false l bl ol cl W hG hcl hk w hq
theorem extV_three (d : Bool) (l : List Nod) (W : Wk) : ∃ a b F, extV d l W = .tuple #[.int .i64 a, .int .i64 b, .int .i64 F] := by
 unfold extV
 cases decide (mx (exA d l W) (exB d l W) > 1073741823) with
 | true => exact ⟨_, _, _, rfl⟩
 | false => exact ⟨_, _, _, rfl⟩
structure Ans (w : World) (A : Option Addr) (l : List Nod) (c : Nat) (d : Bool) (T : Acc) (E a b F : Int) : Prop where
 ct : ∀ bl ol cl w', Sat w' [] [.row bl ol 19 l.length (rowOf l)] w' → Calls Try.prog 41 #[.slice (some ⟨bl, ol, none⟩) l.length cl, .bool d] w' fun e w2 => e = .returned (.tuple #[totV T, .int .i64 E]) ∧ Kept w' w2
 ce : ∀ bl ol cl w', Sat w' [] [.row bl ol 19 l.length (rowOf l)] w' → Calls Try.prog 42 #[.slice (some ⟨bl, ol, none⟩) l.length cl, .bool d] w' fun e w2 => e = .returned (.tuple #[.int .i64 a, .int .i64 b, .int .i64 F]) ∧ Kept w' w2
 dt : ∀ w', Kept w w' → Calls Try.prog 43 #[.slice A l.length c, .bool d] w' fun e w2 => e = .returned (.tuple #[totV T, .int .i64 E]) ∧ Kept w' w2
 de : ∀ w', Kept w w' → Calls Try.prog 44 #[.slice A l.length c, .bool d] w' fun e w2 => e = .returned (.tuple #[.int .i64 a, .int .i64 b, .int .i64 F]) ∧ Kept w' w2
theorem ans_row (w : World) (l : List Nod) (c bl ol : Nat) (d : Bool) (hle : l.length ≤ c) (hs : ∀ w', Kept w w' → Sat w' [] [.row bl ol 19 l.length (rowOf l)] w') : ∃ T E a b F, Ans w (some ⟨bl, ol, none⟩) l c d T E a b F := by
 by_cases hk : checkB l = 0
 ·obtain ⟨W, hG⟩ := good_of hk
  obtain ⟨a, b, F, hx⟩ := extV_three d l W
  exact ⟨totsA d l W, totsE d l W, a, b, F, fun bl ol cl w' h => tots_down l bl ol cl W hG d w' h, fun bl ol cl w' h => hx ▸ code_ext d l bl ol cl W hG w' h, fun w' k => rtotals_good d l bl ol c W hG hle hk w' (hs w' k), fun w' k => hx ▸ doc_ext d l bl ol c W hG hle hk w' (hs w' k)⟩
 exact ⟨acc0, checkB l, 0, 0, checkB l, fun bl ol cl w' h => totals_bad d l bl ol cl _ rfl hk w' h, fun bl ol cl w' h => extent_bad d l bl ol cl _ rfl hk w' h, fun w' k => rtotals_bad d l bl ol c _ rfl hk w' (hs w' k), fun w' k => rextent_bad d l bl ol c _ rfl hk w' (hs w' k)⟩
theorem ans_empty (w : World) (A : Option Addr) (c : Nat) (d : Bool) (hc : A = none → c = 0) : ∃ T E a b F, Ans w A [] c d T E a b F := by
 obtain ⟨W, hG⟩ := good_of (l := []) rfl
 have hx : extV d [] W = .tuple #[.int .i64 0, .int .i64 0, .int .i64 0] := by cases d <;> rfl
 have ht := tots_nil d W
 refine ⟨acc0, 0, 0, 0, 0, fun bl ol cl w' h => ?_, fun bl ol cl w' h => hx ▸ code_ext d [] bl ol cl W hG w' h, fun w' k => ?_, fun w' k => ?_⟩
 ·have h1 := tots_down [] bl ol cl W hG d w' h
  rw [ht.1, ht.2] at h1
  exact h1
 ·cases A with
  | none =>
   obtain rfl := hc rfl
   cases d
   ·exact rtot_false_nil w'
   exact rtot_true_nil w'
  | some a =>
   cases d
   ·exact rtot_false_void a c w'
   exact rtot_true_void a c w'
 cases A with
 | none =>
  obtain rfl := hc rfl
  cases d
  ·exact rext_false_nil w'
  exact rext_true_nil w'
 | some a =>
  cases d
  ·exact rext_false_void a c w'
  exact rext_true_void a c w'
end Go.Proofs.Ytcncfmjfgdbfeaa
namespace Go.Proofs.Ytcncfmjfgdbfeaa
open Go.ChangeShapes Go.WideShapes Go.ChangeAt Go.RowKit Go.Deep
set_option maxRecDepth 100000 in
theorem nodes_fit {H : Type} {enc : TypeId × Value → H} {w : World} {A : Option Addr} {n c : Nat} {d : DataW H} {p : List MemPlace}
  (h : DataW.Trod enc Try.prog w 0 (fun _ => true) true 59 (.slice A n c) d p) (hw : ∀ n ∈ d.weights Try.prog 59, n ≤ reachBytes) : n ≤ 879609302195 := by
 have ht : Try.prog.underlying 59 = some (.slice 63) := by kernel_rfl
 have hb : Try.prog.bytesOf 63 = 160 := by kernel_rfl
 have hr : reachBytes = 140737488351232 := rfl
 obtain ⟨fuel, hf⟩ := h
 rcases open_slice ht hf with ⟨h1, _⟩ | ⟨a, len, cap, m, k, D, Pl, h1, _, hle, _, hm, h2, _⟩
 ·cases h1
  omega
 cases h1
 have h3 : d = _ := congrArg Prod.fst h2
 have q := hw ((n + (m - n)) * 160) (by rw [h3]; simp [DataW.weights, ht, hb])
 have hnm : n ≤ m := by rw [hm]; split <;> omega
 omega
end Go.Proofs.Ytcncfmjfgdbfeaa
namespace Go.Proofs.Ytcncfmjfgdbfeaa
set_option maxRecDepth 100000
set_option maxHeartbeats 40000000
open Go.RowKit
theorem arr_same (a b c d : Int) (w : World) : (Op.equalIn 9999 79 (.agg #[.int .i64 a, .int .i64 b, .int .i64 c, .int .i64 d]) (.agg #[.int .i64 a, .int .i64 b, .int .i64 c, .int .i64 d])).run Try.prog w = .ok true w := by
 have hc : Try.prog.cellsOf 3 = 1 := by kernel_rfl
 have hu : Try.prog.underlying 79 = some (.array 4 3) := by kernel_rfl
 have hi : ∃ i, Try.prog.info? 3 = some i := Option.isSome_iff_exists.1 kR
 obtain ⟨i, hi⟩ := hi
 have h := run_equalIn_array w 9998 #[.int .i64 a, .int .i64 b, .int .i64 c, .int .i64 d] #[.int .i64 a, .int .i64 b, .int .i64 c, .int .i64 d] hu hi
 refine h.trans ?_
 rw [hc]
 show (Op.eqItems 9998 3 1 _ _ [0, 1, 2, 3]).run Try.prog w = _
 simp only [Op.eqItems]
 go_simp
theorem tot_same (a : Acc) (w : World) : (binOp .eql 81 (totV a) (totV a)).run Try.prog w = .ok (.bool true) w := by
 unfold totV
 go_simp
 simp [arr_same, Result.andThen]
theorem tot_eqq (a : Acc) (x y : Operand) (w : World) : (eqlSem 81 x y (totV a) (totV a)).run Try.prog w = .ok (.value (.bool true)) w :=
 eql_run kR (tot_same a w)
theorem int_same (a : Int) (w : World) : (binOp .eql 3 (.int .i64 a) (.int .i64 a)).run Try.prog w = .ok (.bool true) w := by
 go_simp
theorem int_eqq (a : Int) (x y : Operand) (w : World) : (eqlSem 3 x y (.int .i64 a) (.int .i64 a)).run Try.prog w = .ok (.value (.bool true)) w :=
 eql_run kR (int_same a w)
theorem front_row {l y : List Nod} {b : Nat} {w : World} (hy : roomN l = y) (h : Sat w [] [.row b 0 19 y.length (rowOf y)] w) : Sat w [] [.row b 0 19 l.length (rowOf l)] w := by
 have h1 := h.holds _ (List.mem_singleton.2 rfl)
 have hyl : y.length = l.length + 2 := by rw [← hy, room_len]
 refine row_sat fun hn => ?_
 obtain ⟨h2, h3⟩ := h1 (by omega)
 refine ⟨h2, fun k hk j v hv => h3 k (by omega) j v ?_⟩
 rw [← hv, ← hy]
 unfold rowOf
 rw [room_nth l hk]
theorem meas_some (w : World) (A : Option Addr) (l : List Nod) (c bl ol : Nat) (d : Bool) (T : Acc) (E a b F : Int) (hN : Ans w A l c d T E a b F) (hl : l.length ≤ 879609302195) (hax : l.length = 0 ∨ A = some ⟨bl, ol, none⟩) (hq : Sat w [] [.row bl ol 19 l.length (rowOf l)] w) :
  Calls Try.prog 10 #[.slice A l.length c, .bool d] w fun e w' => e = .returned (.bool true) ∧ Kept w w' := by
 refine Exists.elim (show ∃ y, roomN l = y from ⟨_, rfl⟩) fun y hy => ?_
 refine g_enter (args := [.slice A l.length c, .bool d]) [] [.row bl ol 19 l.length (rowOf l)] Try.func10 rfl Try.ntmps10 kL hq ?_
 refine g0 ?_
 refine g_call (X := LentX w l) _ _ ?_ (fun q => .slice (some ⟨q.b, 0, none⟩) l.length q.cap) (fun q => [.row bl ol 19 l.length (rowOf l)] ++ [.row q.b 0 19 y.length (rowOf y)])
  (fun w1 hs => (lent_any A l c bl ol hl hax y hy w1 (hs.read [0] [.row bl ol 19 l.length (rowOf l)] kR)).mono fun e w2 ⟨q, h1, h2⟩ => ⟨⟨q.b, q.cap, Nat.le_trans hs.kept.size q.new, q.le⟩, h1, (hs.at kR).moreRow h2 (fun _ => q.new)⟩) (fun q => ?_)
 ·kernel_rfl
 refine g0 ?_
 refine g_callq _ _ _ ?_ (fun w hs => hN.ct q.b 0 q.cap w (front_row hy (hs.read [1] [.row q.b 0 19 y.length (rowOf y)] kR))) ?_
 ·kernel_rfl
 refine g0 ?_
 refine gN fun b2 hb2 => ?_
 refine gA (List.replicate 9 2) 0 ?_
 refine g_callq _ _ _ ?_ (fun w hs => hN.ce q.b 0 q.cap w (front_row hy (hs.read [1] [.row q.b 0 19 y.length (rowOf y)] kR))) ?_
 ·kernel_rfl
 refine g0 ?_
 refine g_callq _ _ _ ?_ (fun w hs => hN.dt w hs.kk) ?_
 ·kernel_rfl
 refine g0 ?_
 refine gN fun b3 hb3 => ?_
 refine gA (List.replicate 9 3) 0 ?_
 refine g_callq _ _ _ ?_ (fun w hs => hN.de w hs.kk) ?_
 ·kernel_rfl
 refine gU 46 (List.replicate 9 2 ++ List.replicate 9 3) 0 ?_
 refine g_val _ _ ?_ (fun w _hs => tot_eqq T (.tmp 44) (.tmp 45) w) ?_
 ·kernel_rfl
 refine gA [] 1 ?_
 refine g_callq _ _ _ ?_ (fun w hs => num5_any E w) ?_
 ·kernel_rfl
 refine gU 51 [] 1 ?_
 refine g_val _ _ ?_ (fun w _hs => int_eqq E (.tmp 49) (.tmp 50) w) ?_
 ·kernel_rfl
 refine gU 56 [] 2 ?_
 refine g_val _ _ ?_ (fun w _hs => int_eqq a (.tmp 54) (.tmp 55) w) ?_
 ·kernel_rfl
 refine gU 61 [] 2 ?_
 refine g_val _ _ ?_ (fun w _hs => int_eqq b (.tmp 59) (.tmp 60) w) ?_
 ·kernel_rfl
 refine gA [] 1 ?_
 refine g_callq _ _ _ ?_ (fun w hs => num5_any F w) ?_
 ·kernel_rfl
 refine gU 67 [] 1 ?_
 refine g_val _ _ ?_ (fun w _hs => int_eqq F (.tmp 65) (.tmp 66) w) ?_
 ·kernel_rfl
 refine gA [] 2 ?_
 refine g_callq _ _ _ ?_ (fun w hs => stays_any A l y c bl ol q.b q.cap hy q.le hl hax w (hs.read [1] [.row q.b 0 19 y.length (rowOf y)] kR) (hs.read [0] [.row bl ol 19 l.length (rowOf l)] kR)) ?_
 ·kernel_rfl
 refine g0 ?_
 refine g_callq _ _ _ ?_ (fun w hs => knows5_any w) ?_
 ·kernel_rfl
 refine g0 ?_
 refine gR (Value.bool true) fun w' hs => ?_
 exact ⟨rfl, hs.kk⟩
theorem nodesMeasures_walk (w : World) (A : Option Addr) (l : List Nod) (c : Nat) (hle : l.length ≤ c) (_hcm : c ≤ maxLen) (hnil : A = none → l = [] ∧ c = 0)
  (hrow : ∀ p, A = some p → 0 < l.length → p.spot = none ∧ p.block < w.heap.size ∧ ∀ k, k < l.length → ∀ j v, (rowOf l k)[j]? = some v → w.cell? ⟨p.block, p.off + k * 19 + j, none⟩ = some v) (hl : l.length ≤ 879609302195) (d : Bool) :
  Calls Try.prog 10 #[.slice A l.length c, .bool d] w fun e w' => e = .returned (.bool true) ∧ Kept w w' := by
 obtain ⟨bl, ol, hA⟩ := lst_of w A l c hnil hrow
 have hN : ∃ T E a b F, Ans w A l c d T E a b F := by
  rcases Nat.eq_zero_or_pos l.length with h0 | h0
  ·obtain rfl := List.length_eq_zero_iff.1 h0
   exact ans_empty w A c d fun h => (hnil h).2
  obtain rfl := hA.ax.resolve_left (by omega)
  exact ans_row w l c bl ol d hle hA.sat
 obtain ⟨T, E, a, b, F, hN⟩ := hN
 exact meas_some w A l c bl ol d T E a b F hN hl hA.ax (hA.sat w (.refl _))
end Go.Proofs.Ytcncfmjfgdbfeaa
