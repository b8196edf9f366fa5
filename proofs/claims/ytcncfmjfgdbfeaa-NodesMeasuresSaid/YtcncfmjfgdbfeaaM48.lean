/- NodTo NodXt. -/
import Derived.Test.YtcncfmjfgdbfeaaM46
import Derived.Test.YtcncfmjfgdbfeaaM32
import Derived.Test.YtcncfmjfgdbfeaaNodRk
namespace Go.Proofs.Ytcncfmjfgdbfeaa
set_option maxRecDepth 100000
set_option maxHeartbeats 40000000
open Go.RowKit
def totRaw (v : Nod → Int) (ns : List Nod) : Acc := { accN (skF ns) (skF ns).length with nat := wr (accN (skF ns) (skF ns).length).nat (natF v ns 0) }
theorem raw_in (v : Nod → Int) (ns : List Nod) : InA (totRaw v ns) := by
 have h := accN_in (skF ns) (skF ns).length
 exact ⟨wr_in _ _, h.m0, h.m1, h.m2, h.m3, h.l0, h.l1, h.l2, h.l3⟩
theorem addA_in (p q : Acc) : InA (addA p q) := ⟨wr_in _ _, wr_in _ _, wr_in _ _, wr_in _ _, wr_in _ _, wr_in _ _, wr_in _ _, wr_in _ _, wr_in _ _⟩
theorem addA_assoc (a b c : Acc) : addA (addA a b) c = addA a (addA b c) := by simp only [addA, wr_assoc]
theorem raw_join (v : Nod → Int) (x y : List Nod) : totRaw v (x ++ y) = addA (totRaw v x) (totRaw v y) := by
 unfold totRaw
 rw [natF_join, skF_app, accN_join]
 simp only [addA]
 rw [wr_four]
theorem raw_nil (v : Nod → Int) : totRaw v [] = acc0 := rfl
theorem zero_addA {p : Acc} (h : InA p) : addA acc0 p = p := by
 obtain ⟨a, b, c, d, e, f, g, i, j⟩ := p
 simp only [addA, acc0, wr_comm 0, wr_zero h.nat, wr_zero h.m0, wr_zero h.m1, wr_zero h.m2, wr_zero h.m3, wr_zero h.l0, wr_zero h.l1, wr_zero h.l2, wr_zero h.l3]
theorem fold_tot {l : List Nod} {v : Nod → Int} {u : Nat → Int} {part : Nat → List Nod} : ∀ {ss : List Nat} {a : Acc}, (∀ q ∈ ss, ∀ a, InA a → sumS l u a q = addA a (totRaw v (part q))) → InA a → ss.foldl (sumS l u) a = addA a (totRaw v (ss.flatMap part))
 | [], a, _, h => by rw [List.flatMap_nil, raw_nil, addA_zero h]; rfl
 | q :: r, a, hs, h => by
  rw [List.foldl_cons, List.flatMap_cons, raw_join, hs q (List.mem_cons_self ..) a h, fold_tot (fun q hq => hs q (List.mem_cons_of_mem _ hq)) (addA_in _ _), addA_assoc]
theorem raw_one_skip {v : Nod → Int} {n : Nod} (h7 : n.kind = 7) (hv : v n = 0) : totRaw v [n] = accS acc0 n := by
 have e : skF [n] = [n] := by simp [skF, h7]
 have en : nth [n] 0 = n := rfl
 unfold totRaw
 rw [e]
 show ({ accS acc0 (nth [n] 0) with nat := wr (accS acc0 (nth [n] 0)).nat (wr 0 (v n)) } : Acc) = accS acc0 n
 rw [en, hv, wr_zero (a := 0) ⟨by decide, by decide⟩, wr_zero (a := (accS acc0 n).nat) (wr_in _ _)]
theorem raw_no {v : Nod → Int} {ns : List Nod} (h7 : ∀ n ∈ ns, n.kind ≠ 7) : totRaw v ns = { acc0 with nat := wr 0 (natF v ns 0) } := by
 have e : skF ns = [] := by
  unfold skF
  rw [List.filter_eq_nil_iff]
  intro n hn
  simpa using h7 n hn
 unfold totRaw
 rw [e]
 rfl
theorem add_nat {a : Acc} (h : InA a) (x : Int) : addA a { acc0 with nat := x } = { a with nat := wr a.nat x } := by
 obtain ⟨a, b, c, d, e, f, g, i, j⟩ := a
 simp only [addA, acc0, wr_zero h.m0, wr_zero h.m1, wr_zero h.m2, wr_zero h.m3, wr_zero h.l0, wr_zero h.l1, wr_zero h.l2, wr_zero h.l3]
theorem wr_twice (a b : Int) : wr a (wr 0 b) = wr a b := by simp only [wr_eq]; unfold wrap64; omega
theorem if_add {c : Prop} [Decidable c] {p b : Int} (h : In6 p) : (if c then wr p b else p) = wr p (if c then wr 0 b else 0) := by
 split
 ·rw [wr_twice]
 exact (wr_zero h).symm
theorem skip_step {l : List Nod} {u : Nat → Int} {a : Acc} {q : Nat} (h7 : (nth l q).kind = 7) (hu : u q = (nth l q).nat) (h : InA a) : sumS l u a q = addA a (accS acc0 (nth l q)) := by
 unfold sumS
 rw [if_pos h7, hu]
 simp only [addA, accS, acc0]
 rw [if_add h.m0, if_add h.m1, if_add h.m2, if_add h.m3, if_add h.l0, if_add h.l1, if_add h.l2, if_add h.l3, wr_twice]
theorem step_across {l : List Nod} {W : Wk} (hG : Good l W) : ∀ q ∈ startsN l W, ∀ a, InA a → sumS l (besideV l fun p => accP (partN l W.beh p)) a q = addA a (totRaw alongV (partN l W.beh q)) := by
 intro q hq a ha
 obtain ⟨h1, h2⟩ := starts_ok hG q hq
 by_cases h7 : (nth l q).kind = 7
 ·rw [part_one hG h1 h2 (by omega), raw_one_skip h7 (by simp [alongV, h7])]
  exact skip_step h7 (beside7 h7) ha
 by_cases h10 : (nth l q).kind = 10
 ·obtain ⟨s1, s2, e, d⟩ := hG.dsc (by omega) h10
  rw [raw_no fun n hn => (brok_kind (d.parts n hn)).1, add_nat ha, wr_twice]
  exact sumS_no h7 (by unfold besideV; rw [if_pos h10]; rfl)
 rw [part_one hG h1 h2 h10, raw_no (by simpa using h7), add_nat ha, wr_twice]
 show _ = { a with nat := wr a.nat (wr 0 (alongV (nth l q))) }
 rw [wr_twice]
 exact sumS_no h7 (by unfold besideV; rw [if_neg h10]; simp [rAcrossV, alongV, h7])
theorem step_down {l : List Nod} {W : Wk} : ∀ q ∈ startsN l W, ∀ a, InA a → sumS l (downV l) a q = addA a (totRaw uprightV [nth l q]) := by
 intro q _ a ha
 by_cases h7 : (nth l q).kind = 7
 ·rw [raw_one_skip h7 (by simp [uprightV, h7])]
  exact skip_step h7 (down7 h7) ha
 rw [raw_no (by simpa using h7), add_nat ha, wr_twice]
 show _ = { a with nat := wr a.nat (wr 0 (uprightV (nth l q))) }
 rw [wr_twice]
 exact sumS_no h7 (by simp [downV, rAlongV, uprightV, h7])
theorem acc0_in : InA acc0 := by have h : In6 0 := ⟨by decide, by decide⟩; exact ⟨h, h, h, h, h, h, h, h, h⟩
theorem tot_across {l : List Nod} {W : Wk} (hG : Good l W) : (startsN l W).foldl (sumS l (besideV l fun p => accP (partN l W.beh p))) acc0 = totRaw alongV (rowN l W) := by
 rw [fold_tot (step_across hG) acc0_in, zero_addA (raw_in _ _)]
 rfl
theorem map_flat {α β : Type} (f : α → β) : ∀ l : List α, l.flatMap (fun x => [f x]) = l.map f
 | [] => rfl
 | x :: r => by rw [List.flatMap_cons, map_flat f r]; rfl
theorem tot_down {l : List Nod} {W : Wk} : (startsN l W).foldl (sumS l (downV l)) acc0 = totRaw uprightV (colN l W) := by
 rw [fold_tot step_down acc0_in, zero_addA (raw_in _ _), map_flat]
 rfl
def rawT (d : Bool) (l : List Nod) (W : Wk) : Acc := bif d then totRaw uprightV (colN l W) else totRaw alongV (rowN l W)
theorem rawT_A (d : Bool) (l : List Nod) (W : Wk) : totsA d l W = bif dimB (rawT d l W).nat then rawT d l W else acc0 := by cases d <;> rfl
theorem rawT_E (d : Bool) (l : List Nod) (W : Wk) : totsE d l W = bif dimB (rawT d l W).nat then 0 else 20 := by cases d <;> rfl
theorem rsum_any (d : Bool) (l : List Nod) (bl ol cl : Nat) (W : Wk) (hG : Good l W) (hcl : l.length ≤ cl) (w : World) (hq : Sat w [] [.row bl ol 19 l.length (rowOf l)] w) :
  Calls Try.prog 88 #[.slice (some ⟨bl, ol, none⟩) l.length cl, .bool d] w fun e w' => e = .returned (totV (rawT d l W)) ∧ Kept w w' := by
 cases d with
 | true => exact rsum_down l bl ol cl W hG _ tot_down w hq
 | false => exact rsum_gen l bl ol cl W hG (fun _ _ _ => hcl) _ rsum_rec _ (tot_across hG) w hq
theorem tot_ok {d : Bool} {l : List Nod} {W : Wk} (h : dimB (rawT d l W).nat = true) : Ending.returned (.tuple #[totV (rawT d l W), .int .i64 0]) = Ending.returned (.tuple #[totV (totsA d l W), .int .i64 (totsE d l W)]) := by rw [rawT_A, rawT_E, h]; rfl
theorem tot_no {d : Bool} {l : List Nod} {W : Wk} (h : dimB (rawT d l W).nat = false) : Ending.returned (.tuple #[totV acc0, .int .i64 20]) = Ending.returned (.tuple #[totV (totsA d l W), .int .i64 (totsE d l W)]) := by rw [rawT_A, rawT_E, h]; rfl
theorem tot_okv {b : Bool} {P : Prop} (h : b = true → P) (q : (!b) = false) : P := h (by simpa using q)
theorem tot_nov {b : Bool} {P : Prop} (h : b = false → P) (q : (!b) = true) : P := h (by simpa using q)
theorem rcheckv_any (l : List Nod) (bl ol cl : Nat) (v : Int) (hv : checkB l = v) (w : World) (hq : Sat w [] [.row bl ol 19 l.length (rowOf l)] w) :
  Calls Try.prog 46 #[.slice (some ⟨bl, ol, none⟩) l.length cl] w fun e w' => e = .returned (.int .i64 v) ∧ Kept w w' := by
 subst hv
 exact rcheck_any l bl ol cl w hq
theorem rtotals_good (d : Bool) (l : List Nod) (bl ol cl : Nat) (W : Wk) (hG : Good l W) (hcl : l.length ≤ cl) (hk : checkB l = 0) (w : World) (hq : Sat w [] [.row bl ol 19 l.length (rowOf l)] w) :
  Calls Try.prog 43 #[.slice (some ⟨bl, ol, none⟩) l.length cl, .bool d] w fun e w' => e = .returned (.tuple #[totV (totsA d l W), .int .i64 (totsE d l W)]) ∧ Kept w w' := by
 have hok := @tot_ok d l W
 have hno := @tot_no d l W
 have hsm := rsum_any d l bl ol cl W hG hcl
 refine Exists.elim (show ∃ T, rawT d l W = T from ⟨_, rfl⟩) fun T hT => ?_
 rw [hT] at hok hno hsm
 refine g_enter (args := [.slice (some ⟨bl, ol, none⟩) l.length cl, .bool d]) [] [.row bl ol 19 l.length (rowOf l)] Try.func43 rfl Try.ntmps43 kL hq ?_
 refine g0 ?_
 refine gN fun b1 hb1 => ?_
 refine g0 ?_
 refine g_callq _ _ _ ?_ (fun w hs => rcheckv_any l bl ol cl 0 hk w (hs.read [0] [.row bl ol 19 l.length (rowOf l)] kR)) ?_
 ·kernel_rfl
 refine gA [] 1 ?_
 refine g_callq _ _ _ ?_ (fun w hs => hsm w (hs.read [0] [.row bl ol 19 l.length (rowOf l)] kR)) ?_
 ·kernel_rfl
 refine gN fun b2 hb2 => ?_
 refine gA (List.replicate 10 2) 0 ?_
 refine g_callq _ _ _ ?_ (fun w hs => rdimen5_any T.nat w) ?_
 ·kernel_rfl
 refine g0 ?_
 refine g_dec 20 (!dimB T.nat) kR (fun h20 => ?_) (fun h20 => ?_)
 ·refine gA (List.replicate 9 1) 1 ?_
  refine g_ret (List.replicate 9 1) (Value.tuple (Array.mk [Value.agg (Array.mk [Value.int IntKind.i64 0, Value.int IntKind.i64 0, Value.int IntKind.i64 0, Value.int IntKind.i64 0, Value.int IntKind.i64 0, Value.int IntKind.i64 0, Value.int IntKind.i64 0, Value.int IntKind.i64 0, Value.int IntKind.i64 0]), Value.int IntKind.i64 20])) kR kR kR fun w' hs => ?_
  first | exact ⟨tot_okv hok h20, hs.kk⟩ | exact ⟨tot_nov hno h20, hs.kk⟩
 refine gA (List.replicate 9 2 ++ List.replicate 9 1) 1 ?_
 refine g_ret (List.replicate 9 1) (Value.tuple (Array.mk [Value.agg (Array.mk [Value.int IntKind.i64 T.nat, Value.int IntKind.i64 T.m0, Value.int IntKind.i64 T.m1, Value.int IntKind.i64 T.m2, Value.int IntKind.i64 T.m3, Value.int IntKind.i64 T.l0, Value.int IntKind.i64 T.l1, Value.int IntKind.i64 T.l2, Value.int IntKind.i64 T.l3]), Value.int IntKind.i64 0])) kR kR kR fun w' hs => ?_
 first | exact ⟨tot_okv hok h20, hs.kk⟩ | exact ⟨tot_nov hno h20, hs.kk⟩
theorem rtotals_bad (d : Bool) (l : List Nod) (bl ol cl : Nat) (v : Int) (hk : checkB l = v) (hv : v ≠ 0) (w : World) (hq : Sat w [] [.row bl ol 19 l.length (rowOf l)] w) :
  Calls Try.prog 43 #[.slice (some ⟨bl, ol, none⟩) l.length cl, .bool d] w fun e w' => e = .returned (.tuple #[totV acc0, .int .i64 v]) ∧ Kept w w' := by
 refine g_enter (args := [.slice (some ⟨bl, ol, none⟩) l.length cl, .bool d]) [] [.row bl ol 19 l.length (rowOf l)] Try.func43 rfl Try.ntmps43 kL hq ?_
 refine g0 ?_
 refine gN fun b1 hb1 => ?_
 refine g0 ?_
 refine g_callq _ _ _ ?_ (fun w hs => rcheckv_any l bl ol cl v hk w (hs.read [0] [.row bl ol 19 l.length (rowOf l)] kR)) ?_
 ·kernel_rfl
 refine g0 ?_
 refine g_dec 11 (v != 0) kR (fun h11 => ?_) (fun h11 => ?_)
 ·refine gA (List.replicate 9 1) 1 ?_
  refine g_ret (List.replicate 9 1) (Value.tuple (Array.mk [Value.agg (Array.mk [Value.int IntKind.i64 0, Value.int IntKind.i64 0, Value.int IntKind.i64 0, Value.int IntKind.i64 0, Value.int IntKind.i64 0, Value.int IntKind.i64 0, Value.int IntKind.i64 0, Value.int IntKind.i64 0, Value.int IntKind.i64 0]), Value.int IntKind.i64 v])) kR kR kR fun w' hs => ?_
  exact ⟨rfl, hs.kk⟩
 exact absurd h11 (by intro hx; exact hv (by simpa using hx))
end Go.Proofs.Ytcncfmjfgdbfeaa
namespace Go.Proofs.Ytcncfmjfgdbfeaa
set_option maxRecDepth 100000
set_option maxHeartbeats 40000000
open Go.RowKit
def extV (d : Bool) (l : List Nod) (W : Wk) : Value := .tuple (bif decide (mx (exA d l W) (exB d l W) > 1073741823) then #[.int .i64 0, .int .i64 0, .int .i64 20] else #[.int .i64 (exA d l W), .int .i64 (exB d l W), .int .i64 0])
theorem ext_both {a b : Int} (ha : 0 ≤ a) (hb : -1073741823 ≤ b) : decide (mx a b > 1073741823) = !(dimB a && dimB b) := by
 have e : (mx a b > 1073741823) ↔ ¬ (dimB a = true ∧ dimB b = true) := by
  rw [dimB_iff, dimB_iff, mx_max]
  omega
 cases h : (dimB a && dimB b) with
 | true =>
  have : ¬ (mx a b > 1073741823) := fun q => e.1 q (by simpa using h)
  simp [this]
 | false =>
  have : mx a b > 1073741823 := e.2 (by simpa using h)
  simp [this]
theorem exA_pos (d : Bool) (l : List Nod) (W : Wk) : 0 ≤ exA d l W := by cases d <;> exact fold_pos (Int.le_refl _)
theorem last_least {ns : List Nod} (h : ∀ n ∈ ns, -1073741823 ≤ hangingV n) : ∀ {x : Int}, -1073741823 ≤ x → -1073741823 ≤ ns.foldl (lastS hangingV) x := by
 induction ns with
 | nil => exact fun hx => hx
 | cons n r ih => exact fun _ => ih (fun n hn => h n (List.mem_cons_of_mem _ hn)) (h n (List.mem_cons_self ..))
theorem hang_least {n : Nod} (h : rightB n = true) : -1073741823 ≤ hangingV n := by
 have key : dimB n.d = true → -1073741823 ≤ n.d := fun q => ((dimB_iff _).1 q).1
 unfold hangingV
 split
 ·rename_i hk
  simp only [List.mem_cons, List.not_mem_nil, or_false] at hk
  refine key ?_
  rcases hk with hk | hk | hk
  ·simp [rightB, hk, ruleB, d3B] at h
   exact h.1.2.2
  ·simp [rightB, hk, boxB, d4B] at h
   exact h.1.1.1.2
  simp [rightB, hk, boxB, d4B] at h
  exact h.1.1.1.2
 omega
theorem exB_least {d : Bool} {l : List Nod} {W : Wk} (hG : Good l W) : -1073741823 ≤ exB d l W := by
 cases d with
 | false =>
  have : 0 ≤ exB false l W := fold_pos (Int.le_refl _)
  omega
 | true => exact last_least (fun n hn => hang_least (colN_right hG n hn)) (by omega)
theorem ext_yes {a b : Int} {r : Value} (h : r = .tuple (bif !(dimB a && dimB b) then #[.int .i64 0, .int .i64 0, .int .i64 20] else #[.int .i64 a, .int .i64 b, .int .i64 0])) (ha : dimB a = true) (hb : dimB b = true) : Ending.returned (.tuple #[.int .i64 a, .int .i64 b, .int .i64 0]) = Ending.returned r := by rw [h, ha, hb]; rfl
theorem ext_not {a b : Int} {r : Value} (h : r = .tuple (bif !(dimB a && dimB b) then #[.int .i64 0, .int .i64 0, .int .i64 20] else #[.int .i64 a, .int .i64 b, .int .i64 0])) (hn : (dimB a && dimB b) = false) : Ending.returned (.tuple #[.int .i64 0, .int .i64 0, .int .i64 20]) = Ending.returned r := by rw [h, hn]; rfl
theorem extV_eq {d : Bool} {l : List Nod} {W : Wk} (hG : Good l W) : extV d l W = .tuple (bif !(dimB (exA d l W) && dimB (exB d l W)) then #[.int .i64 0, .int .i64 0, .int .i64 20] else #[.int .i64 (exA d l W), .int .i64 (exB d l W), .int .i64 0]) := by
 unfold extV
 rw [ext_both (exA_pos d l W) (exB_least hG)]
theorem rcol_any (l : List Nod) (bl ol cl : Nat) (W : Wk) (hG : Good l W) (w : World) (hq : Sat w [] [.row bl ol 19 l.length (rowOf l)] w) :
  Calls Try.prog 91 #[.slice (some ⟨bl, ol, none⟩) l.length cl] w fun e w' => e = .returned (.tuple #[.int .i64 (exA true l W), .int .i64 (exB true l W)]) ∧ Kept w w' :=
 rcolumn_any l bl ol cl W hG _ _ exA_col exB_col w hq
theorem rextent_true (l : List Nod) (bl ol cl : Nat) (W : Wk) (hG : Good l W) (hcl : l.length ≤ cl) (hk : checkB l = 0) (w : World) (hq : Sat w [] [.row bl ol 19 l.length (rowOf l)] w) :
  Calls Try.prog 44 #[.slice (some ⟨bl, ol, none⟩) l.length cl, .bool true] w fun e w' => e = .returned (extV true l W) ∧ Kept w w' := by
 have hrow := rrow_any l bl ol cl W hG hcl
 have hcol := rcol_any l bl ol cl W hG
 have hx := extV_eq (d := true) hG
 refine Exists.elim (show ∃ r, extV true l W = r from ⟨_, rfl⟩) fun r hr => ?_
 rw [hr] at hx ⊢
 refine Exists.elim (show ∃ a, exA false l W = a from ⟨_, rfl⟩) fun a0 h0 => ?_
 refine Exists.elim (show ∃ a, exB false l W = a from ⟨_, rfl⟩) fun b0 q0 => ?_
 refine Exists.elim (show ∃ a, exA true l W = a from ⟨_, rfl⟩) fun a1 h1 => ?_
 refine Exists.elim (show ∃ a, exB true l W = a from ⟨_, rfl⟩) fun b1 g1 => ?_
 rw [h0, q0] at hrow
 rw [h1, g1] at hcol
 rw [h1, g1] at hx
 refine g_enter (args := [.slice (some ⟨bl, ol, none⟩) l.length cl, .bool true]) [] [.row bl ol 19 l.length (rowOf l)] Try.func44 rfl Try.ntmps44 kL hq ?_
 refine g0 ?_
 refine g_callq _ _ _ ?_ (fun w hs => rcheckv_any l bl ol cl 0 hk w (hs.read [0] [.row bl ol 19 l.length (rowOf l)] kR)) ?_
 ·kernel_rfl
 refine gA [] 1 ?_
 refine g_callq _ _ _ ?_ (fun w hs => hrow w (hs.read [0] [.row bl ol 19 l.length (rowOf l)] kR)) ?_
 ·kernel_rfl
 refine gA [] 1 ?_
 refine g_callq _ _ _ ?_ (fun w hs => hcol w (hs.read [0] [.row bl ol 19 l.length (rowOf l)] kR)) ?_
 ·kernel_rfl
 refine g0 ?_
 refine g_callq _ _ _ ?_ (fun w hs => rdimen5_any a1 w) ?_
 ·kernel_rfl
 refine g0 ?_
 refine g_dec 29 (!dimB a1) kR (fun h29 => ?_) (fun h29 => ?_)
 ·refine gA [] 4 ?_
  refine gR (Value.tuple (Array.mk [Value.int IntKind.i64 0, Value.int IntKind.i64 0, Value.int IntKind.i64 20])) fun w' hs => ?_
  first | exact ⟨ext_yes hx (by clear hs hx; simp_all) (by clear hs hx; simp_all), hs.kk⟩ | exact ⟨ext_not hx (by clear hs hx; simp_all), hs.kk⟩
 refine gA [] 1 ?_
 refine g_callq _ _ _ ?_ (fun w hs => rdimen5_any b1 w) ?_
 ·kernel_rfl
 refine gA [] 1 ?_
 refine g_dec 33 (!dimB b1) kR (fun h33 => ?_) (fun h33 => ?_)
 ·refine gA [] 1 ?_
  refine gR (Value.tuple (Array.mk [Value.int IntKind.i64 0, Value.int IntKind.i64 0, Value.int IntKind.i64 20])) fun w' hs => ?_
  first | exact ⟨ext_yes hx (by clear hs hx; simp_all) (by clear hs hx; simp_all), hs.kk⟩ | exact ⟨ext_not hx (by clear hs hx; simp_all), hs.kk⟩
 refine gA [] 1 ?_
 refine gR (Value.tuple (Array.mk [Value.int IntKind.i64 a1, Value.int IntKind.i64 b1, Value.int IntKind.i64 0])) fun w' hs => ?_
 first | exact ⟨ext_yes hx (by clear hs hx; simp_all) (by clear hs hx; simp_all), hs.kk⟩ | exact ⟨ext_not hx (by clear hs hx; simp_all), hs.kk⟩
theorem rextent_false (l : List Nod) (bl ol cl : Nat) (W : Wk) (hG : Good l W) (hcl : l.length ≤ cl) (hk : checkB l = 0) (w : World) (hq : Sat w [] [.row bl ol 19 l.length (rowOf l)] w) :
  Calls Try.prog 44 #[.slice (some ⟨bl, ol, none⟩) l.length cl, .bool false] w fun e w' => e = .returned (extV false l W) ∧ Kept w w' := by
 have hrow := rrow_any l bl ol cl W hG hcl
 have hcol := rcol_any l bl ol cl W hG
 have hx := extV_eq (d := false) hG
 refine Exists.elim (show ∃ r, extV false l W = r from ⟨_, rfl⟩) fun r hr => ?_
 rw [hr] at hx ⊢
 refine Exists.elim (show ∃ a, exA false l W = a from ⟨_, rfl⟩) fun a0 h0 => ?_
 refine Exists.elim (show ∃ a, exB false l W = a from ⟨_, rfl⟩) fun b0 q0 => ?_
 refine Exists.elim (show ∃ a, exA true l W = a from ⟨_, rfl⟩) fun a1 h1 => ?_
 refine Exists.elim (show ∃ a, exB true l W = a from ⟨_, rfl⟩) fun b1 g1 => ?_
 rw [h0, q0] at hrow
 rw [h1, g1] at hcol
 rw [h0, q0] at hx
 refine g_enter (args := [.slice (some ⟨bl, ol, none⟩) l.length cl, .bool false]) [] [.row bl ol 19 l.length (rowOf l)] Try.func44 rfl Try.ntmps44 kL hq ?_
 refine g0 ?_
 refine g_callq _ _ _ ?_ (fun w hs => rcheckv_any l bl ol cl 0 hk w (hs.read [0] [.row bl ol 19 l.length (rowOf l)] kR)) ?_
 ·kernel_rfl
 refine gA [] 1 ?_
 refine g_callq _ _ _ ?_ (fun w hs => hrow w (hs.read [0] [.row bl ol 19 l.length (rowOf l)] kR)) ?_
 ·kernel_rfl
 refine gA [] 1 ?_
 refine g_callq _ _ _ ?_ (fun w hs => rdimen5_any a0 w) ?_
 ·kernel_rfl
 refine g0 ?_
 refine g_dec 29 (!dimB a0) kR (fun h29 => ?_) (fun h29 => ?_)
 ·refine gA [] 4 ?_
  refine gR (Value.tuple (Array.mk [Value.int IntKind.i64 0, Value.int IntKind.i64 0, Value.int IntKind.i64 20])) fun w' hs => ?_
  first | exact ⟨ext_yes hx (by clear hs hx; simp_all) (by clear hs hx; simp_all), hs.kk⟩ | exact ⟨ext_not hx (by clear hs hx; simp_all), hs.kk⟩
 refine gA [] 1 ?_
 refine g_callq _ _ _ ?_ (fun w hs => rdimen5_any b0 w) ?_
 ·kernel_rfl
 refine gA [] 1 ?_
 refine g_dec 33 (!dimB b0) kR (fun h33 => ?_) (fun h33 => ?_)
 ·refine gA [] 1 ?_
  refine gR (Value.tuple (Array.mk [Value.int IntKind.i64 0, Value.int IntKind.i64 0, Value.int IntKind.i64 20])) fun w' hs => ?_
  first | exact ⟨ext_yes hx (by clear hs hx; simp_all) (by clear hs hx; simp_all), hs.kk⟩ | exact ⟨ext_not hx (by clear hs hx; simp_all), hs.kk⟩
 refine gA [] 1 ?_
 refine gR (Value.tuple (Array.mk [Value.int IntKind.i64 a0, Value.int IntKind.i64 b0, Value.int IntKind.i64 0])) fun w' hs => ?_
 first | exact ⟨ext_yes hx (by clear hs hx; simp_all) (by clear hs hx; simp_all), hs.kk⟩ | exact ⟨ext_not hx (by clear hs hx; simp_all), hs.kk⟩
theorem rextent_bad (d : Bool) (l : List Nod) (bl ol cl : Nat) (v : Int) (hk : checkB l = v) (hv : v ≠ 0) (w : World) (hq : Sat w [] [.row bl ol 19 l.length (rowOf l)] w) :
  Calls Try.prog 44 #[.slice (some ⟨bl, ol, none⟩) l.length cl, .bool d] w fun e w' => e = .returned (.tuple #[.int .i64 0, .int .i64 0, .int .i64 v]) ∧ Kept w w' := by
 refine g_enter (args := [.slice (some ⟨bl, ol, none⟩) l.length cl, .bool d]) [] [.row bl ol 19 l.length (rowOf l)] Try.func44 rfl Try.ntmps44 kL hq ?_
 refine g0 ?_
 refine g_callq _ _ _ ?_ (fun w hs => rcheckv_any l bl ol cl v hk w (hs.read [0] [.row bl ol 19 l.length (rowOf l)] kR)) ?_
 ·kernel_rfl
 refine g0 ?_
 refine g_dec 13 (v != 0) kR (fun h13 => ?_) (fun h13 => ?_)
 ·refine gA [] 1 ?_
  refine gR (Value.tuple (Array.mk [Value.int IntKind.i64 0, Value.int IntKind.i64 0, Value.int IntKind.i64 v])) fun w' hs => ?_
  exact ⟨rfl, hs.kk⟩
 exact absurd h13 (by intro hx; exact hv (by simpa using hx))
end Go.Proofs.Ytcncfmjfgdbfeaa
