/- glue.checkRow, glue.Sum: of glues that are right. -/
import Derived.Test.YtcncfmjfgdbfeaaM28
namespace Go.Proofs.Ytcncfmjfgdbfeaa
set_option maxRecDepth 100000
set_option maxHeartbeats 40000000
open Go.RowKit
def gC (n : Nod) : List Value := [.int .i64 n.nat, .int .i64 n.str, .int .i64 n.shr, .int .i64 n.so, .int .i64 n.sho]
def gRow (ss : List Nod) : Nat → List Value := fun k => gC (nth ss k)
structure IX (n : Nat) where
 i : Nat
 le : i ≤ n
theorem gcheckv_any (n : Nod) (h : gluedB n = true) (w : World) : Calls Try.prog 188 #[.agg #[.int .i64 n.nat, .int .i64 n.str, .int .i64 n.shr, .int .i64 n.so, .int .i64 n.sho]] w fun e w' => e = .returned (.int .i64 0) ∧ Kept w w' := by
 have := gcheck_any n.nat n.str n.shr n.so n.sho w
 rw [show glueB n.nat n.str n.shr n.so n.sho = true from h] at this
 exact this
theorem checkRow_ok (ss : List Nod) (b c : Nat) (hl : ss.length ≤ 2000) (hg : ∀ k, k < ss.length → gluedB (nth ss k) = true) (w : World) (hq : Sat w [] [.row b 0 5 ss.length (gRow ss)] w) :
  Calls Try.prog 171 #[.slice (some ⟨b, 0, none⟩) ss.length c] w fun e w' => e = .returned (.int .i64 0) ∧ Kept w w' := by
 have hle : ¬ (ss.length : Int) > 2000 := by omega
 refine g_enter (args := [.slice (some ⟨b, 0, none⟩) ss.length c]) [] [.row b 0 5 ss.length (gRow ss)] Try.func171 rfl Try.ntmps171 kL hq ?_
 refine g0 ?_
 refine g_dec 8 (decide ((↑ss.length : Int) > 2000)) kR (fun h8 => ?_) (fun h8 => ?_)
 ·exact absurd h8 (by clear hq; simpa using hle)
 refine gA [] 1 ?_
 refine g_loopN (X := IX ss.length) (fun x => [(11, .int .i64 (x.i : Int)), (2, .int .i64 0)]) (fun _ => [.row b 0 5 ss.length (gRow ss)]) (fun x => ss.length - x.i) ⟨0, Nat.zero_le _⟩ kR (by unfold Known; kernel_rfl) kR fun x N hN => ?_
 have hxl := x.le
 refine g0 ?_
 refine g_dec 12 (decide ((↑x.i : Int) < ↑ss.length)) kR (fun h12 => ?_) (fun h12 => ?_)
 ·have hlt : x.i < ss.length := by clear hN hq; simpa using h12
  refine gU 13 [] 1 ?_
  refine g_val _ _ ?_ (fun w _hs => idx_run (P := Try.prog) (T := 203) (E := 61) (b := b) (o := 0) (n := ss.length) (c := c) (k := x.i) (sz := 5) (kk := .i64) w kR kR hlt) ?_
  ·kernel_rfl
  refine g_val _ _ ?_ (fun w _hs => Sat.rowload (T := 61) (i := 0) (b := b) (off := 0) (sz := 5) (n := ss.length) (k := x.i) (f := gRow ss) _hs kR hlt kR kR rfl) ?_
  ·kernel_rfl
  refine gN fun b1 hb1 => ?_
  refine gA (List.replicate 10 1) 0 ?_
  refine g_callq _ _ _ ?_ (fun w hs => gcheckv_any (nth ss x.i) (hg x.i hlt) w) ?_
  ·kernel_rfl
  refine gA [] 1 ?_
  refine g_rw 11 (.int .i64 (IntKind.i64.wrap ((↑x.i : Int) + 1))) (.int .i64 ((x.i + 1 : Nat) : Int)) kR (congrArg (Value.int .i64) (IntWalk.i64_in _ (by omega))) ?_
  refine g_take 1 ?_
  exact g_hook (hN ⟨x.i + 1, hlt⟩ (by show ss.length - (x.i + 1) < ss.length - x.i; omega)) kR kR kR (by unfold Known; kernel_rfl) kR kR
 refine gA [] 1 ?_
 refine gR (Value.int IntKind.i64 0) fun w' hs => ?_
 exact ⟨rfl, hs.kk⟩
structure Acc where
 nat : Int
 m0 : Int
 m1 : Int
 m2 : Int
 m3 : Int
 l0 : Int
 l1 : Int
 l2 : Int
 l3 : Int
def wr (a b : Int) : Int := IntKind.i64.wrap (a + b)
def accS (a : Acc) (n : Nod) : Acc :=
 ⟨wr a.nat n.nat, if n.so = 0 then wr a.m0 n.str else a.m0, if n.so = 1 then wr a.m1 n.str else a.m1, if n.so = 2 then wr a.m2 n.str else a.m2, if n.so = 3 then wr a.m3 n.str else a.m3,
  if n.sho = 0 then wr a.l0 n.shr else a.l0, if n.sho = 1 then wr a.l1 n.shr else a.l1, if n.sho = 2 then wr a.l2 n.shr else a.l2, if n.sho = 3 then wr a.l3 n.shr else a.l3⟩
def acc0 : Acc := ⟨0, 0, 0, 0, 0, 0, 0, 0, 0⟩
def accN (ss : List Nod) : Nat → Acc
 | 0 => acc0
 | k + 1 => accS (accN ss k) (nth ss k)
structure GX (ss : List Nod) where
 i : Nat
 le : i ≤ ss.length
 a : Acc
 is : a = accN ss i
def totV (a : Acc) : Value := .agg #[.int .i64 a.nat, .int .i64 a.m0, .int .i64 a.m1, .int .i64 a.m2, .int .i64 a.m3, .int .i64 a.l0, .int .i64 a.l1, .int .i64 a.l2, .int .i64 a.l3]
theorem ord4 {n : Nod} (h : gluedB n = true) : (n.so = 0 ∨ n.so = 1 ∨ n.so = 2 ∨ n.so = 3) ∧ (n.sho = 0 ∨ n.sho = 1 ∨ n.sho = 2 ∨ n.sho = 3) := by
 simp [gluedB, glueB, flB, ordB] at h
 omega
theorem gsum_ok (ss : List Nod) (b c : Nat) (hl : ss.length ≤ 2000) (hg : ∀ k, k < ss.length → gluedB (nth ss k) = true) (w : World) (hq : Sat w [] [.row b 0 5 ss.length (gRow ss)] w) :
  Calls Try.prog 119 #[.slice (some ⟨b, 0, none⟩) ss.length c] w fun e w' => e = .returned (.tuple #[totV (accN ss ss.length), .int .i64 0]) ∧ Kept w w' := by
 refine g_enter (args := [.slice (some ⟨b, 0, none⟩) ss.length c]) [] [.row b 0 5 ss.length (gRow ss)] Try.func119 rfl Try.ntmps119 kL hq ?_
 refine g0 ?_
 refine gN fun b1 hb1 => ?_
 refine g0 ?_
 refine g_callq _ _ _ ?_ (fun w hs => checkRow_ok ss b c hl hg w (hs.read [0] [.row b 0 5 ss.length (gRow ss)] kR)) ?_
 ·kernel_rfl
 refine gA [] 1 ?_
 refine gN fun b2 hb2 => ?_
 refine gN fun b3 hb3 => ?_
 refine g0 ?_
 refine g_loopN (X := GX ss) (fun x => [(5, .int .i64 x.a.nat), (18, .int .i64 (x.i : Int)), (3, .int .i64 0)]) (fun x => [.row b 0 5 ss.length (gRow ss), .obj true b1 [.int .i64 0, .int .i64 0, .int .i64 0, .int .i64 0, .int .i64 0, .int .i64 0, .int .i64 0, .int .i64 0, .int .i64 0] 81, .obj true b2 [.int .i64 x.a.m0, .int .i64 x.a.m1, .int .i64 x.a.m2, .int .i64 x.a.m3] 79, .obj true b3 [.int .i64 x.a.l0, .int .i64 x.a.l1, .int .i64 x.a.l2, .int .i64 x.a.l3] 79])
  (fun x => ss.length - x.i) ⟨0, Nat.zero_le _, acc0, rfl⟩ kR (by unfold Known; kernel_rfl) kR fun x N hN => ?_
 have hxl := x.le
 refine g0 ?_
 refine g_dec 19 (decide ((↑x.i : Int) < ↑ss.length)) kR (fun h19 => ?_) (fun h19 => ?_)
 ·have hlt : x.i < ss.length := by clear hN hq; simpa using h19
  obtain ⟨hso, hho⟩ := ord4 (hg x.i hlt)
  refine gU 20 [] 1 ?_
  refine g_val _ _ ?_ (fun w _hs => idx_run (P := Try.prog) (T := 203) (E := 61) (b := b) (o := 0) (n := ss.length) (c := c) (k := x.i) (sz := 5) (kk := .i64) w kR kR hlt) ?_
  ·kernel_rfl
  refine g_val _ _ ?_ (fun w _hs => Sat.rowload (T := 61) (i := 0) (b := b) (off := 0) (sz := 5) (n := ss.length) (k := x.i) (f := gRow ss) _hs kR hlt kR kR rfl) ?_
  ·kernel_rfl
  rcases hso with hso | hso | hso | hso <;> rcases hho with hho | hho | hho | hho
  ·refine g_rw 21 (.agg #[.int .i64 (nth ss x.i).nat, .int .i64 (nth ss x.i).str, .int .i64 (nth ss x.i).shr, .int .i64 (nth ss x.i).so, .int .i64 (nth ss x.i).sho]) (.agg #[.int .i64 (nth ss x.i).nat, .int .i64 (nth ss x.i).str, .int .i64 (nth ss x.i).shr, .int .i64 0, .int .i64 0]) kR (by rw [hso, hho]) ?_
   refine gN fun b4 hb4 => ?_
   refine gA (List.replicate 6 4) 0 ?_
   refine gD 8 ?_
   refine lA ([4] ++ [2] ++ [4]) 0 ?_
   refine lE ?_
   refine gA ([2]) 0 ?_
   refine gD 8 ?_
   refine lA ([4] ++ [3] ++ [4]) 0 ?_
   refine lE ?_
   refine gA ([3]) 0 ?_
   refine g_rw 18 (.int .i64 (IntKind.i64.wrap ((↑x.i : Int) + 1))) (.int .i64 ((x.i + 1 : Nat) : Int)) kR (congrArg (Value.int .i64) (IntWalk.i64_in _ (by omega))) ?_
   refine g_take 4 ?_
   exact g_hook (hN ⟨x.i + 1, hlt, ⟨wr x.a.nat (nth ss x.i).nat, wr x.a.m0 (nth ss x.i).str, x.a.m1, x.a.m2, x.a.m3, wr x.a.l0 (nth ss x.i).shr, x.a.l1, x.a.l2, x.a.l3⟩, by show _ = accS (accN ss x.i) (nth ss x.i); rw [← x.is]; simp [accS, hso, hho]⟩ (by show ss.length - (x.i + 1) < ss.length - x.i; omega)) kR kR kR (by unfold Known; kernel_rfl) kR kR
  ·refine g_rw 21 (.agg #[.int .i64 (nth ss x.i).nat, .int .i64 (nth ss x.i).str, .int .i64 (nth ss x.i).shr, .int .i64 (nth ss x.i).so, .int .i64 (nth ss x.i).sho]) (.agg #[.int .i64 (nth ss x.i).nat, .int .i64 (nth ss x.i).str, .int .i64 (nth ss x.i).shr, .int .i64 0, .int .i64 1]) kR (by rw [hso, hho]) ?_
   refine gN fun b4 hb4 => ?_
   refine gA (List.replicate 6 4) 0 ?_
   refine gD 8 ?_
   refine lA ([4] ++ [2] ++ [4]) 0 ?_
   refine lE ?_
   refine gA ([2]) 0 ?_
   refine gD 8 ?_
   refine lA ([4] ++ [3] ++ [4]) 0 ?_
   refine lE ?_
   refine gA ([3]) 0 ?_
   refine g_rw 18 (.int .i64 (IntKind.i64.wrap ((↑x.i : Int) + 1))) (.int .i64 ((x.i + 1 : Nat) : Int)) kR (congrArg (Value.int .i64) (IntWalk.i64_in _ (by omega))) ?_
   refine g_take 4 ?_
   exact g_hook (hN ⟨x.i + 1, hlt, ⟨wr x.a.nat (nth ss x.i).nat, wr x.a.m0 (nth ss x.i).str, x.a.m1, x.a.m2, x.a.m3, x.a.l0, wr x.a.l1 (nth ss x.i).shr, x.a.l2, x.a.l3⟩, by show _ = accS (accN ss x.i) (nth ss x.i); rw [← x.is]; simp [accS, hso, hho]⟩ (by show ss.length - (x.i + 1) < ss.length - x.i; omega)) kR kR kR (by unfold Known; kernel_rfl) kR kR
  ·refine g_rw 21 (.agg #[.int .i64 (nth ss x.i).nat, .int .i64 (nth ss x.i).str, .int .i64 (nth ss x.i).shr, .int .i64 (nth ss x.i).so, .int .i64 (nth ss x.i).sho]) (.agg #[.int .i64 (nth ss x.i).nat, .int .i64 (nth ss x.i).str, .int .i64 (nth ss x.i).shr, .int .i64 0, .int .i64 2]) kR (by rw [hso, hho]) ?_
   refine gN fun b4 hb4 => ?_
   refine gA (List.replicate 6 4) 0 ?_
   refine gD 8 ?_
   refine lA ([4] ++ [2] ++ [4]) 0 ?_
   refine lE ?_
   refine gA ([2]) 0 ?_
   refine gD 8 ?_
   refine lA ([4] ++ [3] ++ [4]) 0 ?_
   refine lE ?_
   refine gA ([3]) 0 ?_
   refine g_rw 18 (.int .i64 (IntKind.i64.wrap ((↑x.i : Int) + 1))) (.int .i64 ((x.i + 1 : Nat) : Int)) kR (congrArg (Value.int .i64) (IntWalk.i64_in _ (by omega))) ?_
   refine g_take 4 ?_
   exact g_hook (hN ⟨x.i + 1, hlt, ⟨wr x.a.nat (nth ss x.i).nat, wr x.a.m0 (nth ss x.i).str, x.a.m1, x.a.m2, x.a.m3, x.a.l0, x.a.l1, wr x.a.l2 (nth ss x.i).shr, x.a.l3⟩, by show _ = accS (accN ss x.i) (nth ss x.i); rw [← x.is]; simp [accS, hso, hho]⟩ (by show ss.length - (x.i + 1) < ss.length - x.i; omega)) kR kR kR (by unfold Known; kernel_rfl) kR kR
  ·refine g_rw 21 (.agg #[.int .i64 (nth ss x.i).nat, .int .i64 (nth ss x.i).str, .int .i64 (nth ss x.i).shr, .int .i64 (nth ss x.i).so, .int .i64 (nth ss x.i).sho]) (.agg #[.int .i64 (nth ss x.i).nat, .int .i64 (nth ss x.i).str, .int .i64 (nth ss x.i).shr, .int .i64 0, .int .i64 3]) kR (by rw [hso, hho]) ?_
   refine gN fun b4 hb4 => ?_
   refine gA (List.replicate 6 4) 0 ?_
   refine gD 8 ?_
   refine lA ([4] ++ [2] ++ [4]) 0 ?_
   refine lE ?_
   refine gA ([2]) 0 ?_
   refine gD 8 ?_
   refine lA ([4] ++ [3] ++ [4]) 0 ?_
   refine lE ?_
   refine gA ([3]) 0 ?_
   refine g_rw 18 (.int .i64 (IntKind.i64.wrap ((↑x.i : Int) + 1))) (.int .i64 ((x.i + 1 : Nat) : Int)) kR (congrArg (Value.int .i64) (IntWalk.i64_in _ (by omega))) ?_
   refine g_take 4 ?_
   exact g_hook (hN ⟨x.i + 1, hlt, ⟨wr x.a.nat (nth ss x.i).nat, wr x.a.m0 (nth ss x.i).str, x.a.m1, x.a.m2, x.a.m3, x.a.l0, x.a.l1, x.a.l2, wr x.a.l3 (nth ss x.i).shr⟩, by show _ = accS (accN ss x.i) (nth ss x.i); rw [← x.is]; simp [accS, hso, hho]⟩ (by show ss.length - (x.i + 1) < ss.length - x.i; omega)) kR kR kR (by unfold Known; kernel_rfl) kR kR
  ·refine g_rw 21 (.agg #[.int .i64 (nth ss x.i).nat, .int .i64 (nth ss x.i).str, .int .i64 (nth ss x.i).shr, .int .i64 (nth ss x.i).so, .int .i64 (nth ss x.i).sho]) (.agg #[.int .i64 (nth ss x.i).nat, .int .i64 (nth ss x.i).str, .int .i64 (nth ss x.i).shr, .int .i64 1, .int .i64 0]) kR (by rw [hso, hho]) ?_
   refine gN fun b4 hb4 => ?_
   refine gA (List.replicate 6 4) 0 ?_
   refine gD 8 ?_
   refine lA ([4] ++ [2] ++ [4]) 0 ?_
   refine lE ?_
   refine gA ([2]) 0 ?_
   refine gD 8 ?_
   refine lA ([4] ++ [3] ++ [4]) 0 ?_
   refine lE ?_
   refine gA ([3]) 0 ?_
   refine g_rw 18 (.int .i64 (IntKind.i64.wrap ((↑x.i : Int) + 1))) (.int .i64 ((x.i + 1 : Nat) : Int)) kR (congrArg (Value.int .i64) (IntWalk.i64_in _ (by omega))) ?_
   refine g_take 4 ?_
   exact g_hook (hN ⟨x.i + 1, hlt, ⟨wr x.a.nat (nth ss x.i).nat, x.a.m0, wr x.a.m1 (nth ss x.i).str, x.a.m2, x.a.m3, wr x.a.l0 (nth ss x.i).shr, x.a.l1, x.a.l2, x.a.l3⟩, by show _ = accS (accN ss x.i) (nth ss x.i); rw [← x.is]; simp [accS, hso, hho]⟩ (by show ss.length - (x.i + 1) < ss.length - x.i; omega)) kR kR kR (by unfold Known; kernel_rfl) kR kR
  ·refine g_rw 21 (.agg #[.int .i64 (nth ss x.i).nat, .int .i64 (nth ss x.i).str, .int .i64 (nth ss x.i).shr, .int .i64 (nth ss x.i).so, .int .i64 (nth ss x.i).sho]) (.agg #[.int .i64 (nth ss x.i).nat, .int .i64 (nth ss x.i).str, .int .i64 (nth ss x.i).shr, .int .i64 1, .int .i64 1]) kR (by rw [hso, hho]) ?_
   refine gN fun b4 hb4 => ?_
   refine gA (List.replicate 6 4) 0 ?_
   refine gD 8 ?_
   refine lA ([4] ++ [2] ++ [4]) 0 ?_
   refine lE ?_
   refine gA ([2]) 0 ?_
   refine gD 8 ?_
   refine lA ([4] ++ [3] ++ [4]) 0 ?_
   refine lE ?_
   refine gA ([3]) 0 ?_
   refine g_rw 18 (.int .i64 (IntKind.i64.wrap ((↑x.i : Int) + 1))) (.int .i64 ((x.i + 1 : Nat) : Int)) kR (congrArg (Value.int .i64) (IntWalk.i64_in _ (by omega))) ?_
   refine g_take 4 ?_
   exact g_hook (hN ⟨x.i + 1, hlt, ⟨wr x.a.nat (nth ss x.i).nat, x.a.m0, wr x.a.m1 (nth ss x.i).str, x.a.m2, x.a.m3, x.a.l0, wr x.a.l1 (nth ss x.i).shr, x.a.l2, x.a.l3⟩, by show _ = accS (accN ss x.i) (nth ss x.i); rw [← x.is]; simp [accS, hso, hho]⟩ (by show ss.length - (x.i + 1) < ss.length - x.i; omega)) kR kR kR (by unfold Known; kernel_rfl) kR kR
  ·refine g_rw 21 (.agg #[.int .i64 (nth ss x.i).nat, .int .i64 (nth ss x.i).str, .int .i64 (nth ss x.i).shr, .int .i64 (nth ss x.i).so, .int .i64 (nth ss x.i).sho]) (.agg #[.int .i64 (nth ss x.i).nat, .int .i64 (nth ss x.i).str, .int .i64 (nth ss x.i).shr, .int .i64 1, .int .i64 2]) kR (by rw [hso, hho]) ?_
   refine gN fun b4 hb4 => ?_
   refine gA (List.replicate 6 4) 0 ?_
   refine gD 8 ?_
   refine lA ([4] ++ [2] ++ [4]) 0 ?_
   refine lE ?_
   refine gA ([2]) 0 ?_
   refine gD 8 ?_
   refine lA ([4] ++ [3] ++ [4]) 0 ?_
   refine lE ?_
   refine gA ([3]) 0 ?_
   refine g_rw 18 (.int .i64 (IntKind.i64.wrap ((↑x.i : Int) + 1))) (.int .i64 ((x.i + 1 : Nat) : Int)) kR (congrArg (Value.int .i64) (IntWalk.i64_in _ (by omega))) ?_
   refine g_take 4 ?_
   exact g_hook (hN ⟨x.i + 1, hlt, ⟨wr x.a.nat (nth ss x.i).nat, x.a.m0, wr x.a.m1 (nth ss x.i).str, x.a.m2, x.a.m3, x.a.l0, x.a.l1, wr x.a.l2 (nth ss x.i).shr, x.a.l3⟩, by show _ = accS (accN ss x.i) (nth ss x.i); rw [← x.is]; simp [accS, hso, hho]⟩ (by show ss.length - (x.i + 1) < ss.length - x.i; omega)) kR kR kR (by unfold Known; kernel_rfl) kR kR
  ·refine g_rw 21 (.agg #[.int .i64 (nth ss x.i).nat, .int .i64 (nth ss x.i).str, .int .i64 (nth ss x.i).shr, .int .i64 (nth ss x.i).so, .int .i64 (nth ss x.i).sho]) (.agg #[.int .i64 (nth ss x.i).nat, .int .i64 (nth ss x.i).str, .int .i64 (nth ss x.i).shr, .int .i64 1, .int .i64 3]) kR (by rw [hso, hho]) ?_
   refine gN fun b4 hb4 => ?_
   refine gA (List.replicate 6 4) 0 ?_
   refine gD 8 ?_
   refine lA ([4] ++ [2] ++ [4]) 0 ?_
   refine lE ?_
   refine gA ([2]) 0 ?_
   refine gD 8 ?_
   refine lA ([4] ++ [3] ++ [4]) 0 ?_
   refine lE ?_
   refine gA ([3]) 0 ?_
   refine g_rw 18 (.int .i64 (IntKind.i64.wrap ((↑x.i : Int) + 1))) (.int .i64 ((x.i + 1 : Nat) : Int)) kR (congrArg (Value.int .i64) (IntWalk.i64_in _ (by omega))) ?_
   refine g_take 4 ?_
   exact g_hook (hN ⟨x.i + 1, hlt, ⟨wr x.a.nat (nth ss x.i).nat, x.a.m0, wr x.a.m1 (nth ss x.i).str, x.a.m2, x.a.m3, x.a.l0, x.a.l1, x.a.l2, wr x.a.l3 (nth ss x.i).shr⟩, by show _ = accS (accN ss x.i) (nth ss x.i); rw [← x.is]; simp [accS, hso, hho]⟩ (by show ss.length - (x.i + 1) < ss.length - x.i; omega)) kR kR kR (by unfold Known; kernel_rfl) kR kR
  ·refine g_rw 21 (.agg #[.int .i64 (nth ss x.i).nat, .int .i64 (nth ss x.i).str, .int .i64 (nth ss x.i).shr, .int .i64 (nth ss x.i).so, .int .i64 (nth ss x.i).sho]) (.agg #[.int .i64 (nth ss x.i).nat, .int .i64 (nth ss x.i).str, .int .i64 (nth ss x.i).shr, .int .i64 2, .int .i64 0]) kR (by rw [hso, hho]) ?_
   refine gN fun b4 hb4 => ?_
   refine gA (List.replicate 6 4) 0 ?_
   refine gD 8 ?_
   refine lA ([4] ++ [2] ++ [4]) 0 ?_
   refine lE ?_
   refine gA ([2]) 0 ?_
   refine gD 8 ?_
   refine lA ([4] ++ [3] ++ [4]) 0 ?_
   refine lE ?_
   refine gA ([3]) 0 ?_
   refine g_rw 18 (.int .i64 (IntKind.i64.wrap ((↑x.i : Int) + 1))) (.int .i64 ((x.i + 1 : Nat) : Int)) kR (congrArg (Value.int .i64) (IntWalk.i64_in _ (by omega))) ?_
   refine g_take 4 ?_
   exact g_hook (hN ⟨x.i + 1, hlt, ⟨wr x.a.nat (nth ss x.i).nat, x.a.m0, x.a.m1, wr x.a.m2 (nth ss x.i).str, x.a.m3, wr x.a.l0 (nth ss x.i).shr, x.a.l1, x.a.l2, x.a.l3⟩, by show _ = accS (accN ss x.i) (nth ss x.i); rw [← x.is]; simp [accS, hso, hho]⟩ (by show ss.length - (x.i + 1) < ss.length - x.i; omega)) kR kR kR (by unfold Known; kernel_rfl) kR kR
  ·refine g_rw 21 (.agg #[.int .i64 (nth ss x.i).nat, .int .i64 (nth ss x.i).str, .int .i64 (nth ss x.i).shr, .int .i64 (nth ss x.i).so, .int .i64 (nth ss x.i).sho]) (.agg #[.int .i64 (nth ss x.i).nat, .int .i64 (nth ss x.i).str, .int .i64 (nth ss x.i).shr, .int .i64 2, .int .i64 1]) kR (by rw [hso, hho]) ?_
   refine gN fun b4 hb4 => ?_
   refine gA (List.replicate 6 4) 0 ?_
   refine gD 8 ?_
   refine lA ([4] ++ [2] ++ [4]) 0 ?_
   refine lE ?_
   refine gA ([2]) 0 ?_
   refine gD 8 ?_
   refine lA ([4] ++ [3] ++ [4]) 0 ?_
   refine lE ?_
   refine gA ([3]) 0 ?_
   refine g_rw 18 (.int .i64 (IntKind.i64.wrap ((↑x.i : Int) + 1))) (.int .i64 ((x.i + 1 : Nat) : Int)) kR (congrArg (Value.int .i64) (IntWalk.i64_in _ (by omega))) ?_
   refine g_take 4 ?_
   exact g_hook (hN ⟨x.i + 1, hlt, ⟨wr x.a.nat (nth ss x.i).nat, x.a.m0, x.a.m1, wr x.a.m2 (nth ss x.i).str, x.a.m3, x.a.l0, wr x.a.l1 (nth ss x.i).shr, x.a.l2, x.a.l3⟩, by show _ = accS (accN ss x.i) (nth ss x.i); rw [← x.is]; simp [accS, hso, hho]⟩ (by show ss.length - (x.i + 1) < ss.length - x.i; omega)) kR kR kR (by unfold Known; kernel_rfl) kR kR
  ·refine g_rw 21 (.agg #[.int .i64 (nth ss x.i).nat, .int .i64 (nth ss x.i).str, .int .i64 (nth ss x.i).shr, .int .i64 (nth ss x.i).so, .int .i64 (nth ss x.i).sho]) (.agg #[.int .i64 (nth ss x.i).nat, .int .i64 (nth ss x.i).str, .int .i64 (nth ss x.i).shr, .int .i64 2, .int .i64 2]) kR (by rw [hso, hho]) ?_
   refine gN fun b4 hb4 => ?_
   refine gA (List.replicate 6 4) 0 ?_
   refine gD 8 ?_
   refine lA ([4] ++ [2] ++ [4]) 0 ?_
   refine lE ?_
   refine gA ([2]) 0 ?_
   refine gD 8 ?_
   refine lA ([4] ++ [3] ++ [4]) 0 ?_
   refine lE ?_
   refine gA ([3]) 0 ?_
   refine g_rw 18 (.int .i64 (IntKind.i64.wrap ((↑x.i : Int) + 1))) (.int .i64 ((x.i + 1 : Nat) : Int)) kR (congrArg (Value.int .i64) (IntWalk.i64_in _ (by omega))) ?_
   refine g_take 4 ?_
   exact g_hook (hN ⟨x.i + 1, hlt, ⟨wr x.a.nat (nth ss x.i).nat, x.a.m0, x.a.m1, wr x.a.m2 (nth ss x.i).str, x.a.m3, x.a.l0, x.a.l1, wr x.a.l2 (nth ss x.i).shr, x.a.l3⟩, by show _ = accS (accN ss x.i) (nth ss x.i); rw [← x.is]; simp [accS, hso, hho]⟩ (by show ss.length - (x.i + 1) < ss.length - x.i; omega)) kR kR kR (by unfold Known; kernel_rfl) kR kR
  ·refine g_rw 21 (.agg #[.int .i64 (nth ss x.i).nat, .int .i64 (nth ss x.i).str, .int .i64 (nth ss x.i).shr, .int .i64 (nth ss x.i).so, .int .i64 (nth ss x.i).sho]) (.agg #[.int .i64 (nth ss x.i).nat, .int .i64 (nth ss x.i).str, .int .i64 (nth ss x.i).shr, .int .i64 2, .int .i64 3]) kR (by rw [hso, hho]) ?_
   refine gN fun b4 hb4 => ?_
   refine gA (List.replicate 6 4) 0 ?_
   refine gD 8 ?_
   refine lA ([4] ++ [2] ++ [4]) 0 ?_
   refine lE ?_
   refine gA ([2]) 0 ?_
   refine gD 8 ?_
   refine lA ([4] ++ [3] ++ [4]) 0 ?_
   refine lE ?_
   refine gA ([3]) 0 ?_
   refine g_rw 18 (.int .i64 (IntKind.i64.wrap ((↑x.i : Int) + 1))) (.int .i64 ((x.i + 1 : Nat) : Int)) kR (congrArg (Value.int .i64) (IntWalk.i64_in _ (by omega))) ?_
   refine g_take 4 ?_
   exact g_hook (hN ⟨x.i + 1, hlt, ⟨wr x.a.nat (nth ss x.i).nat, x.a.m0, x.a.m1, wr x.a.m2 (nth ss x.i).str, x.a.m3, x.a.l0, x.a.l1, x.a.l2, wr x.a.l3 (nth ss x.i).shr⟩, by show _ = accS (accN ss x.i) (nth ss x.i); rw [← x.is]; simp [accS, hso, hho]⟩ (by show ss.length - (x.i + 1) < ss.length - x.i; omega)) kR kR kR (by unfold Known; kernel_rfl) kR kR
  ·refine g_rw 21 (.agg #[.int .i64 (nth ss x.i).nat, .int .i64 (nth ss x.i).str, .int .i64 (nth ss x.i).shr, .int .i64 (nth ss x.i).so, .int .i64 (nth ss x.i).sho]) (.agg #[.int .i64 (nth ss x.i).nat, .int .i64 (nth ss x.i).str, .int .i64 (nth ss x.i).shr, .int .i64 3, .int .i64 0]) kR (by rw [hso, hho]) ?_
   refine gN fun b4 hb4 => ?_
   refine gA (List.replicate 6 4) 0 ?_
   refine gD 8 ?_
   refine lA ([4] ++ [2] ++ [4]) 0 ?_
   refine lE ?_
   refine gA ([2]) 0 ?_
   refine gD 8 ?_
   refine lA ([4] ++ [3] ++ [4]) 0 ?_
   refine lE ?_
   refine gA ([3]) 0 ?_
   refine g_rw 18 (.int .i64 (IntKind.i64.wrap ((↑x.i : Int) + 1))) (.int .i64 ((x.i + 1 : Nat) : Int)) kR (congrArg (Value.int .i64) (IntWalk.i64_in _ (by omega))) ?_
   refine g_take 4 ?_
   exact g_hook (hN ⟨x.i + 1, hlt, ⟨wr x.a.nat (nth ss x.i).nat, x.a.m0, x.a.m1, x.a.m2, wr x.a.m3 (nth ss x.i).str, wr x.a.l0 (nth ss x.i).shr, x.a.l1, x.a.l2, x.a.l3⟩, by show _ = accS (accN ss x.i) (nth ss x.i); rw [← x.is]; simp [accS, hso, hho]⟩ (by show ss.length - (x.i + 1) < ss.length - x.i; omega)) kR kR kR (by unfold Known; kernel_rfl) kR kR
  ·refine g_rw 21 (.agg #[.int .i64 (nth ss x.i).nat, .int .i64 (nth ss x.i).str, .int .i64 (nth ss x.i).shr, .int .i64 (nth ss x.i).so, .int .i64 (nth ss x.i).sho]) (.agg #[.int .i64 (nth ss x.i).nat, .int .i64 (nth ss x.i).str, .int .i64 (nth ss x.i).shr, .int .i64 3, .int .i64 1]) kR (by rw [hso, hho]) ?_
   refine gN fun b4 hb4 => ?_
   refine gA (List.replicate 6 4) 0 ?_
   refine gD 8 ?_
   refine lA ([4] ++ [2] ++ [4]) 0 ?_
   refine lE ?_
   refine gA ([2]) 0 ?_
   refine gD 8 ?_
   refine lA ([4] ++ [3] ++ [4]) 0 ?_
   refine lE ?_
   refine gA ([3]) 0 ?_
   refine g_rw 18 (.int .i64 (IntKind.i64.wrap ((↑x.i : Int) + 1))) (.int .i64 ((x.i + 1 : Nat) : Int)) kR (congrArg (Value.int .i64) (IntWalk.i64_in _ (by omega))) ?_
   refine g_take 4 ?_
   exact g_hook (hN ⟨x.i + 1, hlt, ⟨wr x.a.nat (nth ss x.i).nat, x.a.m0, x.a.m1, x.a.m2, wr x.a.m3 (nth ss x.i).str, x.a.l0, wr x.a.l1 (nth ss x.i).shr, x.a.l2, x.a.l3⟩, by show _ = accS (accN ss x.i) (nth ss x.i); rw [← x.is]; simp [accS, hso, hho]⟩ (by show ss.length - (x.i + 1) < ss.length - x.i; omega)) kR kR kR (by unfold Known; kernel_rfl) kR kR
  ·refine g_rw 21 (.agg #[.int .i64 (nth ss x.i).nat, .int .i64 (nth ss x.i).str, .int .i64 (nth ss x.i).shr, .int .i64 (nth ss x.i).so, .int .i64 (nth ss x.i).sho]) (.agg #[.int .i64 (nth ss x.i).nat, .int .i64 (nth ss x.i).str, .int .i64 (nth ss x.i).shr, .int .i64 3, .int .i64 2]) kR (by rw [hso, hho]) ?_
   refine gN fun b4 hb4 => ?_
   refine gA (List.replicate 6 4) 0 ?_
   refine gD 8 ?_
   refine lA ([4] ++ [2] ++ [4]) 0 ?_
   refine lE ?_
   refine gA ([2]) 0 ?_
   refine gD 8 ?_
   refine lA ([4] ++ [3] ++ [4]) 0 ?_
   refine lE ?_
   refine gA ([3]) 0 ?_
   refine g_rw 18 (.int .i64 (IntKind.i64.wrap ((↑x.i : Int) + 1))) (.int .i64 ((x.i + 1 : Nat) : Int)) kR (congrArg (Value.int .i64) (IntWalk.i64_in _ (by omega))) ?_
   refine g_take 4 ?_
   exact g_hook (hN ⟨x.i + 1, hlt, ⟨wr x.a.nat (nth ss x.i).nat, x.a.m0, x.a.m1, x.a.m2, wr x.a.m3 (nth ss x.i).str, x.a.l0, x.a.l1, wr x.a.l2 (nth ss x.i).shr, x.a.l3⟩, by show _ = accS (accN ss x.i) (nth ss x.i); rw [← x.is]; simp [accS, hso, hho]⟩ (by show ss.length - (x.i + 1) < ss.length - x.i; omega)) kR kR kR (by unfold Known; kernel_rfl) kR kR
  refine g_rw 21 (.agg #[.int .i64 (nth ss x.i).nat, .int .i64 (nth ss x.i).str, .int .i64 (nth ss x.i).shr, .int .i64 (nth ss x.i).so, .int .i64 (nth ss x.i).sho]) (.agg #[.int .i64 (nth ss x.i).nat, .int .i64 (nth ss x.i).str, .int .i64 (nth ss x.i).shr, .int .i64 3, .int .i64 3]) kR (by rw [hso, hho]) ?_
  refine gN fun b4 hb4 => ?_
  refine gA (List.replicate 6 4) 0 ?_
  refine gD 8 ?_
  refine lA ([4] ++ [2] ++ [4]) 0 ?_
  refine lE ?_
  refine gA ([2]) 0 ?_
  refine gD 8 ?_
  refine lA ([4] ++ [3] ++ [4]) 0 ?_
  refine lE ?_
  refine gA ([3]) 0 ?_
  refine g_rw 18 (.int .i64 (IntKind.i64.wrap ((↑x.i : Int) + 1))) (.int .i64 ((x.i + 1 : Nat) : Int)) kR (congrArg (Value.int .i64) (IntWalk.i64_in _ (by omega))) ?_
  refine g_take 4 ?_
  exact g_hook (hN ⟨x.i + 1, hlt, ⟨wr x.a.nat (nth ss x.i).nat, x.a.m0, x.a.m1, x.a.m2, wr x.a.m3 (nth ss x.i).str, x.a.l0, x.a.l1, x.a.l2, wr x.a.l3 (nth ss x.i).shr⟩, by show _ = accS (accN ss x.i) (nth ss x.i); rw [← x.is]; simp [accS, hso, hho]⟩ (by show ss.length - (x.i + 1) < ss.length - x.i; omega)) kR kR kR (by unfold Known; kernel_rfl) kR kR
 have hge : ¬ x.i < ss.length := by clear hN hq; simpa using h19
 have hxe : accN ss ss.length = x.a := by rw [x.is, show x.i = ss.length by omega]
 refine gA (List.replicate 4 2 ++ List.replicate 4 3 ++ List.replicate 9 1) 1 ?_
 refine g_ret (List.replicate 9 1) (.tuple #[totV x.a, .int .i64 0]) kR kR kR fun w' hs => ?_
 exact ⟨by rw [hxe], hs.kk⟩
end Go.Proofs.Ytcncfmjfgdbfeaa
