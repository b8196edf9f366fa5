/- the document's Sum: a right list's totals. -/
import Derived.Test.YtcncfmjfgdbfeaaM44
namespace Go.Proofs.Ytcncfmjfgdbfeaa
set_option maxRecDepth 100000
set_option maxHeartbeats 40000000
open Go.RowKit
def totC (a : Acc) : List Value := [.int .i64 a.nat, .int .i64 a.m0, .int .i64 a.m1, .int .i64 a.m2, .int .i64 a.m3, .int .i64 a.l0, .int .i64 a.l1, .int .i64 a.l2, .int .i64 a.l3]
def sumS (l : List Nod) (v : Nat → Int) (a : Acc) (p : Nat) : Acc :=
 if (nth l p).kind = 7 then ⟨wr a.nat (v p), if (nth l p).so = 0 then wr a.m0 (nth l p).str else a.m0, if (nth l p).so = 1 then wr a.m1 (nth l p).str else a.m1, if (nth l p).so = 2 then wr a.m2 (nth l p).str else a.m2, if (nth l p).so = 3 then wr a.m3 (nth l p).str else a.m3,
  if (nth l p).sho = 0 then wr a.l0 (nth l p).shr else a.l0, if (nth l p).sho = 1 then wr a.l1 (nth l p).shr else a.l1, if (nth l p).sho = 2 then wr a.l2 (nth l p).shr else a.l2, if (nth l p).sho = 3 then wr a.l3 (nth l p).shr else a.l3⟩
 else { a with nat := wr a.nat (v p) }
def downV (l : List Nod) (p : Nat) : Int := rAlongV (nth l p)
def besideV (l : List Nod) (sa : Nat → Acc) (p : Nat) : Int := if (nth l p).kind = 10 then (sa p).nat else rAcrossV (nth l p)
structure SMX (ss : List Nat) (f : Acc → Nat → Acc) (T : Acc) where
 i : Nat
 a : Acc
 le : i ≤ ss.length
 is : (ss.drop i).foldl f a = T
def SMX.next {ss : List Nat} {f : Acc → Nat → Acc} {T : Acc} (x : SMX ss f T) (h : x.i < ss.length) (a : Acc) (ha : f x.a (ss.getD x.i 0) = a) : SMX ss f T :=
 ⟨x.i + 1, a, h, by
  have := x.is
  rw [drop_cons h, List.foldl_cons, ha] at this
  exact this⟩
theorem SMX.done {ss : List Nat} {f : Acc → Nat → Acc} {T : Acc} (x : SMX ss f T) (h : ¬ x.i < ss.length) : x.a = T := by
 have h1 := x.is
 rw [List.drop_eq_nil_of_le (by omega)] at h1
 exact h1
theorem sum_ret {a T : Acc} (h : a = T) : Ending.returned (totV a) = Ending.returned (totV T) := by rw [h]
theorem sumS_no {l : List Nod} {v : Nat → Int} {a : Acc} {p : Nat} {r : Int} (h : (nth l p).kind ≠ 7) (hv : v p = r) : sumS l v a p = { a with nat := wr a.nat r } := by unfold sumS; rw [if_neg h, hv]
theorem sum_lit {n : Nod} {i j : Int} (h : n.kind = 7) (hs : n.so = i) (ht : n.sho = j) : nodV n = nodV { n with kind := 7, so := i, sho := j } := by
 subst hs; subst ht
 rw [show ({ n with kind := 7, so := n.so, sho := n.sho } : Nod) = { n with kind := 7 } from rfl, ← h]
theorem ten_lit {n : Nod} (h : n.kind = 10) : nodV n = nodV { n with kind := 10 } := by rw [← h]
theorem racross_7 (n : Nod) (i j : Int) (w : World) : Calls Try.prog 133 #[nodV { n with kind := 7, so := i, sho := j }] w fun e w' => e = .returned (.int .i64 n.nat) ∧ Kept w w' := racross_any { n with kind := 7, so := i, sho := j } w
theorem ralong_7 (n : Nod) (i j : Int) (w : World) : Calls Try.prog 132 #[nodV { n with kind := 7, so := i, sho := j }] w fun e w' => e = .returned (.int .i64 n.nat) ∧ Kept w w' := ralong_any { n with kind := 7, so := i, sho := j } w
theorem row_keep {w w' : World} {b o sz n : Nat} {f : Nat → List Value} (h : Sat w [] [.row b o sz n f] w) (k : Kept w w') : Sat w' [] [.row b o sz n f] w' := by
 have h1 := h.holds _ (List.mem_singleton.2 rfl)
 refine row_sat fun hn => ?_
 obtain ⟨h2, h3⟩ := h1 hn
 exact ⟨Nat.lt_of_lt_of_le h2 k.size, fun q hq j v hv => (k.cell h2).trans (h3 q hq j v hv)⟩
theorem row_self {w w' : World} {b o sz n : Nat} {f : Nat → List Value} (h : Sat w [] [.row b o sz n f] w') : Sat w' [] [.row b o sz n f] w' := by
 have h1 := h.holds _ (List.mem_singleton.2 rfl)
 exact row_sat fun hn => h1 hn
def ListIs (y : List Nod) (v : Value) (w : World) : Prop := ∃ A c b, v = .slice A y.length c ∧ (y.length = 0 ∨ A = some ⟨b, 0, none⟩) ∧ (A = none → y = [] ∧ c = 0) ∧ Sat w [] [.row b 0 19 y.length (rowOf y)] w
theorem ListIs.kept {y : List Nod} {v : Value} {w w' : World} (h : ListIs y v w) (k : Kept w w') : ListIs y v w' := by
 obtain ⟨A, c, b, h1, h2, h3, h4⟩ := h
 exact ⟨A, c, b, h1, h2, h3, row_keep h4 k⟩
def ThreeIs (y : List Nod) (v : Value) (w : World) : Prop := ∃ v0 v1 v2, v = .agg #[v0, v1, v2] ∧ ListIs y v2 w
theorem ThreeIs.kept {y : List Nod} {v : Value} {w w' : World} (h : ThreeIs y v w) (k : Kept w w') : ThreeIs y v w' := by
 obtain ⟨a, b, c, h1, h2⟩ := h
 exact ⟨a, b, c, h1, h2.kept k⟩
def SumRec (P : Program) (F : FuncId) (l : List Nod) (W : Wk) (sa : Nat → Acc) : Prop := ∀ p, p ∈ startsN l W → ∀ s1 s2 e, Dsc l W p s1 s2 e → ∀ y, seg l (s2 + 1) e = y → ∀ (w1 : World) (A : Option Addr) (c b : Nat), (y.length = 0 ∨ A = some ⟨b, 0, none⟩) → (A = none → y = [] ∧ c = 0) → Sat w1 [] [.row b 0 19 y.length (rowOf y)] w1 →
 Calls P F #[.slice A y.length c, .bool false] w1 fun e w' => e = .returned (totV (sa p)) ∧ Kept w1 w'
def WSum (y : List Nod) (bl ol ln cl b5 : Nat) (nat : Int) (A : Option Addr) (n c b i p : Nat) (S : Acc) : VP := fun s v w => match s with
 | 42 => v = .pointer (some ⟨b5, 0, none⟩)
 | 43 => v = .int .i64 nat
 | 44 => v = .slice (some ⟨bl, ol, none⟩) ln cl
 | 45 => v = .slice A n c
 | 46 => v = .int .i64 (i : Int)
 | 47 => v = .pointer (some ⟨b, 0 + i * 1, none⟩)
 | 48 => v = .int .i64 (p : Int)
 | 49 => ThreeIs y v w
 | 50 => ListIs y v w
 | 51 => v = totV S
 | 52 => v = .int .i64 S.nat
 | 53 => v = .int .i64 (wr nat S.nat)
 | 54 => v = .pointer (some ⟨b5, 0, none⟩)
 | _ => True
theorem WSum_kept {y : List Nod} {bl ol ln cl b5 : Nat} {nat : Int} {A : Option Addr} {n c b i p : Nat} {S : Acc} : ∀ s v w w', WSum y bl ol ln cl b5 nat A n c b i p S s v w → Kept w w' → WSum y bl ol ln cl b5 nat A n c b i p S s v w' := by
 intro s v w w' h k
 revert h
 unfold WSum
 split <;> intro h <;> first | exact h | exact ThreeIs.kept h k | exact ListIs.kept h k
theorem down7 {l : List Nod} {p : Nat} (h : (nth l p).kind = 7) : downV l p = (nth l p).nat := by unfold downV rAlongV; simp [h]
theorem beside7 {l : List Nod} {sa : Nat → Acc} {p : Nat} (h : (nth l p).kind = 7) : besideV l sa p = (nth l p).nat := by unfold besideV rAcrossV; simp [h]
theorem Or.elim4 {a b c d e : Prop} (h : a ∨ b ∨ c ∨ d) (h1 : a → e) (h2 : b → e) (h3 : c → e) (h4 : d → e) : e := h.elim h1 fun h => h.elim h2 fun h => h.elim h3 h4
theorem glued_of {l : List Nod} {W : Wk} (hG : Good l W) {p : Nat} (hz : W.beh.getD p 0 ≠ 0) : (nth l p).kind = 7 → ((nth l p).so = 0 ∨ (nth l p).so = 1 ∨ (nth l p).so = 2 ∨ (nth l p).so = 3) ∧ ((nth l p).sho = 0 ∨ (nth l p).sho = 1 ∨ (nth l p).sho = 2 ∨ (nth l p).sho = 3) := fun h7 => ord4 (skip_glued (hG.items p hz).right h7)
theorem three_is (l : List Nod) (bl ol cl : Nat) (W : Wk) (p s1 s2 e : Nat) (d : Dsc l W p s1 s2 e) (hcl : l.length ≤ cl) (y2 : List Nod) (h2 : seg l (s2 + 1) e = y2) {w1 : World} (hq : Sat w1 [] [.row bl ol 19 l.length (rowOf l)] w1) :
  Calls Try.prog 74 #[.slice (some ⟨bl, ol, none⟩) l.length cl, .int .i64 (p : Int)] w1 fun e w' => ∃ v, e = .returned v ∧ Kept w1 w' ∧ ThreeIs y2 v w' :=
 (rthreeD_any l bl ol cl W p s1 s2 e d hcl _ _ y2 rfl rfl h2 _ _ _ rfl rfl rfl w1 hq).mono fun _ _ ⟨_, _, q2, h, _, _, h3⟩ => ⟨_, h, h3.kept.kept, _, _, _, rfl, q2.A, q2.c, q2.b, rfl, q2.ax, q2.nil, row_self h3⟩
theorem rsum_down (l : List Nod) (bl ol cl : Nat) (W : Wk) (hG : Good l W) (T : Acc) (hT : (startsN l W).foldl (sumS l (downV l)) acc0 = T) (w : World) (hq : Sat w [] [.row bl ol 19 l.length (rowOf l)] w) :
  Calls Try.prog 88 #[.slice (some ⟨bl, ol, none⟩) l.length cl, .bool true] w fun e w' => e = .returned (totV T) ∧ Kept w w' := by
 have hgl := hG.le
 refine Exists.elim (show ∃ n, (startsN l W).length = n from ⟨_, rfl⟩) fun n hn => ?_
 have hnl : n ≤ l.length := by rw [← hn]; exact items_le
 have hbe : ∀ k, k < n → (startsN l W).getD k 0 < l.length := fun k hk => starts_mem hG (by omega)
 have hnz : ∀ k, k < n → W.beh.getD ((startsN l W).getD k 0) 0 ≠ 0 := fun k hk => starts_nz hG (by omega)
 refine Exists.elim (show ∃ ss, startsN l W = ss from ⟨_, rfl⟩) fun ss hss => ?_
 rw [hss] at hT hn hbe hnz
 refine g_enter (args := [.slice (some ⟨bl, ol, none⟩) l.length cl, .bool true]) [] [.row bl ol 19 l.length (rowOf l)] Try.func88 rfl Try.ntmps88 kL hq ?_
 refine g0 ?_
 refine gN fun b4 hb4 => ?_
 refine g0 ?_
 refine gN fun b5 hb5 => ?_
 refine g0 ?_
 refine g_call (X := NewI w ss) _ _ ?_ (fun q => .slice q.A n q.c) (fun q => [.row bl ol 19 l.length (rowOf l), .obj true b4 (totC acc0) 81, .obj true b5 (totC acc0) 81] ++ [.row q.b 0 1 n (intR ss)])
  (fun w1 hs => (hss ▸ rstarts_row l bl ol cl W hG hgl n (hss ▸ hn) w1 (hs.read [0] [.row bl ol 19 l.length (rowOf l)] kR) : Calls Try.prog 131 #[.slice (some ⟨bl, ol, none⟩) l.length cl] w1 fun e w' => ∃ q : NewI w1 ss, e = .returned (.slice q.A n q.c) ∧ Sat w1 [] [.row q.b 0 1 n (intR ss)] w').mono fun e w2 ⟨q, h1, h2⟩ => ⟨⟨q.A, q.c, q.b, q.ax, fun h => Nat.le_trans hs.kept.size (q.new h)⟩, h1, (hs.at kR).moreRow h2 (fun h => q.new (hn ▸ h))⟩) (fun q => ?_)
 ·kernel_rfl
 refine g0 ?_
 refine g_loopN (X := SMX ss (sumS l (downV l)) T) (fun x => [(7, .int .i64 (x.i : Int))]) (fun x => [.row bl ol 19 l.length (rowOf l), .obj true b4 (totC acc0) 81, .obj true b5 (totC x.a) 81, .row q.b 0 1 n (intR ss)]) (fun x => n - x.i) ⟨0, acc0, Nat.zero_le _, hT⟩ kR (by unfold Known; kernel_rfl) kR fun x N hN => ?_
 refine g0 ?_
 refine g_dec 14 (decide ((x.i : Int) < (n : Int))) kR (fun hd => ?_) (fun hd => ?_)
 ·have hx : x.i < n := Int.ofNat_lt.1 (of_decide_eq_true hd)
  have hxs : x.i < ss.length := hn.symm ▸ hx
  have hp : ss.getD x.i 0 < l.length := hbe x.i hx
  have hz := hnz x.i hx
  have hgd := glued_of hG hz
  have hqa : q.A = some ⟨q.b, 0, none⟩ := q.ax.resolve_left (by omega)
  have hq6 : Value.slice q.A n q.c = .slice (some ⟨q.b, 0, none⟩) n q.c := by rw [hqa]
  have hms : n - (x.i + 1) < n - x.i := Nat.sub_lt_sub_left hx (Nat.lt_succ_self _)
  refine gU 20 [] 1 ?_
  refine g_rw 18 (.slice q.A n q.c) (.slice (some ⟨q.b, 0, none⟩) n q.c) kR hq6 ?_
  refine g_val _ _ ?_ (fun w _hs => idx_run (P := Try.prog) (T := 25) (E := 3) (b := q.b) (o := 0) (n := n) (c := q.c) (k := x.i) (sz := 1) (kk := .i64) w kR kR hx) ?_
  ·kernel_rfl
  refine g_val _ _ ?_ (fun w _hs => intLoad (ss := ss) (b := q.b) (k := x.i) (n := n) (j := 3) _hs kR hx) ?_
  ·kernel_rfl
  refine g_val _ _ ?_ (fun w _hs => idx_run (P := Try.prog) (T := 59) (E := 63) (b := bl) (o := ol) (n := l.length) (c := cl) (k := ss.getD x.i 0) (sz := 19) (kk := .i64) w kR kR hp) ?_
  ·kernel_rfl
  refine g_val _ _ ?_ (fun w _hs => nodeLoad (l := l) (bl := bl) (ol := ol) (k := ss.getD x.i 0) (j := 0) _hs kR hp) ?_
  ·kernel_rfl
  refine Decidable.byCases (fun h7 : (nth l (ss.getD x.i 0)).kind = 7 => ?seven) (fun h7 : (nth l (ss.getD x.i 0)).kind ≠ 7 => ?other)
  case seven =>
   refine Or.elim4 (hgd h7).1 (fun hso => ?s0) (fun hso => ?s1) (fun hso => ?s2) (fun hso => ?s3)
   case s0 =>
    refine Or.elim4 (hgd h7).2 (fun hsh => ?t0) (fun hsh => ?t1) (fun hsh => ?t2) (fun hsh => ?t3)
    case t0 =>
     refine g_rw 23 (nodV (nth l (ss.getD x.i 0))) (nodV { (nth l (ss.getD x.i 0)) with kind := 7, so := 0, sho := 0 }) kR (sum_lit h7 hso hsh) ?_
     refine gN fun b4 hb4 => ?_
     refine gA (List.replicate 19 4) 1 ?_
     refine gD 6 ?_
     refine lA ([2] ++ List.replicate 19 4) 0 ?_
     refine l_callq _ _ _ ?_ (fun w hs => ralong_7 (nth l (ss.getD x.i 0)) 0 0 w) ?_
     ·kernel_rfl
     refine l0 ?_
     refine lE ?_
     refine gA ([2] ++ [4]) 1 ?_
     refine gD 15 ?_
     refine lA ([4, 4] ++ [2] ++ [4]) 0 ?_
     refine lE ?_
     refine gA ([2]) 0 ?_
     refine gD 15 ?_
     refine lA ([4, 4] ++ [2] ++ [4]) 0 ?_
     refine lE ?_
     refine gU 16 ([2]) 0 ?_
     refine g_val _ _ ?_ (fun w _hs => nat_succ (P := Try.prog) (t := 3) (x := .tmp 15) (y := .const (.int .i64 1)) (m := x.i) (w := w) kR (by omega)) ?_
     ·kernel_rfl
     refine g0 ?_
     refine g_take 4 ?_
     refine g_hook (hN (x.next hxs ⟨wr x.a.nat (nth l (ss.getD x.i 0)).nat, (wr x.a.m0 (nth l (ss.getD x.i 0)).str), x.a.m1, x.a.m2, x.a.m3, (wr x.a.l0 (nth l (ss.getD x.i 0)).shr), x.a.l1, x.a.l2, x.a.l3⟩ (by unfold sumS; rw [if_pos h7, hso, hsh, down7 h7]; rfl)) hms) kR kR kR (by unfold Known; kernel_rfl) kR kR
    case t1 =>
     refine g_rw 23 (nodV (nth l (ss.getD x.i 0))) (nodV { (nth l (ss.getD x.i 0)) with kind := 7, so := 0, sho := 1 }) kR (sum_lit h7 hso hsh) ?_
     refine gN fun b4 hb4 => ?_
     refine gA (List.replicate 19 4) 1 ?_
     refine gD 6 ?_
     refine lA ([2] ++ List.replicate 19 4) 0 ?_
     refine l_callq _ _ _ ?_ (fun w hs => ralong_7 (nth l (ss.getD x.i 0)) 0 1 w) ?_
     ·kernel_rfl
     refine l0 ?_
     refine lE ?_
     refine gA ([2] ++ [4]) 1 ?_
     refine gD 15 ?_
     refine lA ([4, 4] ++ [2] ++ [4]) 0 ?_
     refine lE ?_
     refine gA ([2]) 0 ?_
     refine gD 15 ?_
     refine lA ([4, 4] ++ [2] ++ [4]) 0 ?_
     refine lE ?_
     refine gU 16 ([2]) 0 ?_
     refine g_val _ _ ?_ (fun w _hs => nat_succ (P := Try.prog) (t := 3) (x := .tmp 15) (y := .const (.int .i64 1)) (m := x.i) (w := w) kR (by omega)) ?_
     ·kernel_rfl
     refine g0 ?_
     refine g_take 4 ?_
     refine g_hook (hN (x.next hxs ⟨wr x.a.nat (nth l (ss.getD x.i 0)).nat, (wr x.a.m0 (nth l (ss.getD x.i 0)).str), x.a.m1, x.a.m2, x.a.m3, x.a.l0, (wr x.a.l1 (nth l (ss.getD x.i 0)).shr), x.a.l2, x.a.l3⟩ (by unfold sumS; rw [if_pos h7, hso, hsh, down7 h7]; rfl)) hms) kR kR kR (by unfold Known; kernel_rfl) kR kR
    case t2 =>
     refine g_rw 23 (nodV (nth l (ss.getD x.i 0))) (nodV { (nth l (ss.getD x.i 0)) with kind := 7, so := 0, sho := 2 }) kR (sum_lit h7 hso hsh) ?_
     refine gN fun b4 hb4 => ?_
     refine gA (List.replicate 19 4) 1 ?_
     refine gD 6 ?_
     refine lA ([2] ++ List.replicate 19 4) 0 ?_
     refine l_callq _ _ _ ?_ (fun w hs => ralong_7 (nth l (ss.getD x.i 0)) 0 2 w) ?_
     ·kernel_rfl
     refine l0 ?_
     refine lE ?_
     refine gA ([2] ++ [4]) 1 ?_
     refine gD 15 ?_
     refine lA ([4, 4] ++ [2] ++ [4]) 0 ?_
     refine lE ?_
     refine gA ([2]) 0 ?_
     refine gD 15 ?_
     refine lA ([4, 4] ++ [2] ++ [4]) 0 ?_
     refine lE ?_
     refine gU 16 ([2]) 0 ?_
     refine g_val _ _ ?_ (fun w _hs => nat_succ (P := Try.prog) (t := 3) (x := .tmp 15) (y := .const (.int .i64 1)) (m := x.i) (w := w) kR (by omega)) ?_
     ·kernel_rfl
     refine g0 ?_
     refine g_take 4 ?_
     refine g_hook (hN (x.next hxs ⟨wr x.a.nat (nth l (ss.getD x.i 0)).nat, (wr x.a.m0 (nth l (ss.getD x.i 0)).str), x.a.m1, x.a.m2, x.a.m3, x.a.l0, x.a.l1, (wr x.a.l2 (nth l (ss.getD x.i 0)).shr), x.a.l3⟩ (by unfold sumS; rw [if_pos h7, hso, hsh, down7 h7]; rfl)) hms) kR kR kR (by unfold Known; kernel_rfl) kR kR
    case t3 =>
     refine g_rw 23 (nodV (nth l (ss.getD x.i 0))) (nodV { (nth l (ss.getD x.i 0)) with kind := 7, so := 0, sho := 3 }) kR (sum_lit h7 hso hsh) ?_
     refine gN fun b4 hb4 => ?_
     refine gA (List.replicate 19 4) 1 ?_
     refine gD 6 ?_
     refine lA ([2] ++ List.replicate 19 4) 0 ?_
     refine l_callq _ _ _ ?_ (fun w hs => ralong_7 (nth l (ss.getD x.i 0)) 0 3 w) ?_
     ·kernel_rfl
     refine l0 ?_
     refine lE ?_
     refine gA ([2] ++ [4]) 1 ?_
     refine gD 15 ?_
     refine lA ([4, 4] ++ [2] ++ [4]) 0 ?_
     refine lE ?_
     refine gA ([2]) 0 ?_
     refine gD 15 ?_
     refine lA ([4, 4] ++ [2] ++ [4]) 0 ?_
     refine lE ?_
     refine gU 16 ([2]) 0 ?_
     refine g_val _ _ ?_ (fun w _hs => nat_succ (P := Try.prog) (t := 3) (x := .tmp 15) (y := .const (.int .i64 1)) (m := x.i) (w := w) kR (by omega)) ?_
     ·kernel_rfl
     refine g0 ?_
     refine g_take 4 ?_
     refine g_hook (hN (x.next hxs ⟨wr x.a.nat (nth l (ss.getD x.i 0)).nat, (wr x.a.m0 (nth l (ss.getD x.i 0)).str), x.a.m1, x.a.m2, x.a.m3, x.a.l0, x.a.l1, x.a.l2, (wr x.a.l3 (nth l (ss.getD x.i 0)).shr)⟩ (by unfold sumS; rw [if_pos h7, hso, hsh, down7 h7]; rfl)) hms) kR kR kR (by unfold Known; kernel_rfl) kR kR
   case s1 =>
    refine Or.elim4 (hgd h7).2 (fun hsh => ?t0) (fun hsh => ?t1) (fun hsh => ?t2) (fun hsh => ?t3)
    case t0 =>
     refine g_rw 23 (nodV (nth l (ss.getD x.i 0))) (nodV { (nth l (ss.getD x.i 0)) with kind := 7, so := 1, sho := 0 }) kR (sum_lit h7 hso hsh) ?_
     refine gN fun b4 hb4 => ?_
     refine gA (List.replicate 19 4) 1 ?_
     refine gD 6 ?_
     refine lA ([2] ++ List.replicate 19 4) 0 ?_
     refine l_callq _ _ _ ?_ (fun w hs => ralong_7 (nth l (ss.getD x.i 0)) 1 0 w) ?_
     ·kernel_rfl
     refine l0 ?_
     refine lE ?_
     refine gA ([2] ++ [4]) 1 ?_
     refine gD 15 ?_
     refine lA ([4, 4] ++ [2] ++ [4]) 0 ?_
     refine lE ?_
     refine gA ([2]) 0 ?_
     refine gD 15 ?_
     refine lA ([4, 4] ++ [2] ++ [4]) 0 ?_
     refine lE ?_
     refine gU 16 ([2]) 0 ?_
     refine g_val _ _ ?_ (fun w _hs => nat_succ (P := Try.prog) (t := 3) (x := .tmp 15) (y := .const (.int .i64 1)) (m := x.i) (w := w) kR (by omega)) ?_
     ·kernel_rfl
     refine g0 ?_
     refine g_take 4 ?_
     refine g_hook (hN (x.next hxs ⟨wr x.a.nat (nth l (ss.getD x.i 0)).nat, x.a.m0, (wr x.a.m1 (nth l (ss.getD x.i 0)).str), x.a.m2, x.a.m3, (wr x.a.l0 (nth l (ss.getD x.i 0)).shr), x.a.l1, x.a.l2, x.a.l3⟩ (by unfold sumS; rw [if_pos h7, hso, hsh, down7 h7]; rfl)) hms) kR kR kR (by unfold Known; kernel_rfl) kR kR
    case t1 =>
     refine g_rw 23 (nodV (nth l (ss.getD x.i 0))) (nodV { (nth l (ss.getD x.i 0)) with kind := 7, so := 1, sho := 1 }) kR (sum_lit h7 hso hsh) ?_
     refine gN fun b4 hb4 => ?_
     refine gA (List.replicate 19 4) 1 ?_
     refine gD 6 ?_
     refine lA ([2] ++ List.replicate 19 4) 0 ?_
     refine l_callq _ _ _ ?_ (fun w hs => ralong_7 (nth l (ss.getD x.i 0)) 1 1 w) ?_
     ·kernel_rfl
     refine l0 ?_
     refine lE ?_
     refine gA ([2] ++ [4]) 1 ?_
     refine gD 15 ?_
     refine lA ([4, 4] ++ [2] ++ [4]) 0 ?_
     refine lE ?_
     refine gA ([2]) 0 ?_
     refine gD 15 ?_
     refine lA ([4, 4] ++ [2] ++ [4]) 0 ?_
     refine lE ?_
     refine gU 16 ([2]) 0 ?_
     refine g_val _ _ ?_ (fun w _hs => nat_succ (P := Try.prog) (t := 3) (x := .tmp 15) (y := .const (.int .i64 1)) (m := x.i) (w := w) kR (by omega)) ?_
     ·kernel_rfl
     refine g0 ?_
     refine g_take 4 ?_
     refine g_hook (hN (x.next hxs ⟨wr x.a.nat (nth l (ss.getD x.i 0)).nat, x.a.m0, (wr x.a.m1 (nth l (ss.getD x.i 0)).str), x.a.m2, x.a.m3, x.a.l0, (wr x.a.l1 (nth l (ss.getD x.i 0)).shr), x.a.l2, x.a.l3⟩ (by unfold sumS; rw [if_pos h7, hso, hsh, down7 h7]; rfl)) hms) kR kR kR (by unfold Known; kernel_rfl) kR kR
    case t2 =>
     refine g_rw 23 (nodV (nth l (ss.getD x.i 0))) (nodV { (nth l (ss.getD x.i 0)) with kind := 7, so := 1, sho := 2 }) kR (sum_lit h7 hso hsh) ?_
     refine gN fun b4 hb4 => ?_
     refine gA (List.replicate 19 4) 1 ?_
     refine gD 6 ?_
     refine lA ([2] ++ List.replicate 19 4) 0 ?_
     refine l_callq _ _ _ ?_ (fun w hs => ralong_7 (nth l (ss.getD x.i 0)) 1 2 w) ?_
     ·kernel_rfl
     refine l0 ?_
     refine lE ?_
     refine gA ([2] ++ [4]) 1 ?_
     refine gD 15 ?_
     refine lA ([4, 4] ++ [2] ++ [4]) 0 ?_
     refine lE ?_
     refine gA ([2]) 0 ?_
     refine gD 15 ?_
     refine lA ([4, 4] ++ [2] ++ [4]) 0 ?_
     refine lE ?_
     refine gU 16 ([2]) 0 ?_
     refine g_val _ _ ?_ (fun w _hs => nat_succ (P := Try.prog) (t := 3) (x := .tmp 15) (y := .const (.int .i64 1)) (m := x.i) (w := w) kR (by omega)) ?_
     ·kernel_rfl
     refine g0 ?_
     refine g_take 4 ?_
     refine g_hook (hN (x.next hxs ⟨wr x.a.nat (nth l (ss.getD x.i 0)).nat, x.a.m0, (wr x.a.m1 (nth l (ss.getD x.i 0)).str), x.a.m2, x.a.m3, x.a.l0, x.a.l1, (wr x.a.l2 (nth l (ss.getD x.i 0)).shr), x.a.l3⟩ (by unfold sumS; rw [if_pos h7, hso, hsh, down7 h7]; rfl)) hms) kR kR kR (by unfold Known; kernel_rfl) kR kR
    case t3 =>
     refine g_rw 23 (nodV (nth l (ss.getD x.i 0))) (nodV { (nth l (ss.getD x.i 0)) with kind := 7, so := 1, sho := 3 }) kR (sum_lit h7 hso hsh) ?_
     refine gN fun b4 hb4 => ?_
     refine gA (List.replicate 19 4) 1 ?_
     refine gD 6 ?_
     refine lA ([2] ++ List.replicate 19 4) 0 ?_
     refine l_callq _ _ _ ?_ (fun w hs => ralong_7 (nth l (ss.getD x.i 0)) 1 3 w) ?_
     ·kernel_rfl
     refine l0 ?_
     refine lE ?_
     refine gA ([2] ++ [4]) 1 ?_
     refine gD 15 ?_
     refine lA ([4, 4] ++ [2] ++ [4]) 0 ?_
     refine lE ?_
     refine gA ([2]) 0 ?_
     refine gD 15 ?_
     refine lA ([4, 4] ++ [2] ++ [4]) 0 ?_
     refine lE ?_
     refine gU 16 ([2]) 0 ?_
     refine g_val _ _ ?_ (fun w _hs => nat_succ (P := Try.prog) (t := 3) (x := .tmp 15) (y := .const (.int .i64 1)) (m := x.i) (w := w) kR (by omega)) ?_
     ·kernel_rfl
     refine g0 ?_
     refine g_take 4 ?_
     refine g_hook (hN (x.next hxs ⟨wr x.a.nat (nth l (ss.getD x.i 0)).nat, x.a.m0, (wr x.a.m1 (nth l (ss.getD x.i 0)).str), x.a.m2, x.a.m3, x.a.l0, x.a.l1, x.a.l2, (wr x.a.l3 (nth l (ss.getD x.i 0)).shr)⟩ (by unfold sumS; rw [if_pos h7, hso, hsh, down7 h7]; rfl)) hms) kR kR kR (by unfold Known; kernel_rfl) kR kR
   case s2 =>
    refine Or.elim4 (hgd h7).2 (fun hsh => ?t0) (fun hsh => ?t1) (fun hsh => ?t2) (fun hsh => ?t3)
    case t0 =>
     refine g_rw 23 (nodV (nth l (ss.getD x.i 0))) (nodV { (nth l (ss.getD x.i 0)) with kind := 7, so := 2, sho := 0 }) kR (sum_lit h7 hso hsh) ?_
     refine gN fun b4 hb4 => ?_
     refine gA (List.replicate 19 4) 1 ?_
     refine gD 6 ?_
     refine lA ([2] ++ List.replicate 19 4) 0 ?_
     refine l_callq _ _ _ ?_ (fun w hs => ralong_7 (nth l (ss.getD x.i 0)) 2 0 w) ?_
     ·kernel_rfl
     refine l0 ?_
     refine lE ?_
     refine gA ([2] ++ [4]) 1 ?_
     refine gD 15 ?_
     refine lA ([4, 4] ++ [2] ++ [4]) 0 ?_
     refine lE ?_
     refine gA ([2]) 0 ?_
     refine gD 15 ?_
     refine lA ([4, 4] ++ [2] ++ [4]) 0 ?_
     refine lE ?_
     refine gU 16 ([2]) 0 ?_
     refine g_val _ _ ?_ (fun w _hs => nat_succ (P := Try.prog) (t := 3) (x := .tmp 15) (y := .const (.int .i64 1)) (m := x.i) (w := w) kR (by omega)) ?_
     ·kernel_rfl
     refine g0 ?_
     refine g_take 4 ?_
     refine g_hook (hN (x.next hxs ⟨wr x.a.nat (nth l (ss.getD x.i 0)).nat, x.a.m0, x.a.m1, (wr x.a.m2 (nth l (ss.getD x.i 0)).str), x.a.m3, (wr x.a.l0 (nth l (ss.getD x.i 0)).shr), x.a.l1, x.a.l2, x.a.l3⟩ (by unfold sumS; rw [if_pos h7, hso, hsh, down7 h7]; rfl)) hms) kR kR kR (by unfold Known; kernel_rfl) kR kR
    case t1 =>
     refine g_rw 23 (nodV (nth l (ss.getD x.i 0))) (nodV { (nth l (ss.getD x.i 0)) with kind := 7, so := 2, sho := 1 }) kR (sum_lit h7 hso hsh) ?_
     refine gN fun b4 hb4 => ?_
     refine gA (List.replicate 19 4) 1 ?_
     refine gD 6 ?_
     refine lA ([2] ++ List.replicate 19 4) 0 ?_
     refine l_callq _ _ _ ?_ (fun w hs => ralong_7 (nth l (ss.getD x.i 0)) 2 1 w) ?_
     ·kernel_rfl
     refine l0 ?_
     refine lE ?_
     refine gA ([2] ++ [4]) 1 ?_
     refine gD 15 ?_
     refine lA ([4, 4] ++ [2] ++ [4]) 0 ?_
     refine lE ?_
     refine gA ([2]) 0 ?_
     refine gD 15 ?_
     refine lA ([4, 4] ++ [2] ++ [4]) 0 ?_
     refine lE ?_
     refine gU 16 ([2]) 0 ?_
     refine g_val _ _ ?_ (fun w _hs => nat_succ (P := Try.prog) (t := 3) (x := .tmp 15) (y := .const (.int .i64 1)) (m := x.i) (w := w) kR (by omega)) ?_
     ·kernel_rfl
     refine g0 ?_
     refine g_take 4 ?_
     refine g_hook (hN (x.next hxs ⟨wr x.a.nat (nth l (ss.getD x.i 0)).nat, x.a.m0, x.a.m1, (wr x.a.m2 (nth l (ss.getD x.i 0)).str), x.a.m3, x.a.l0, (wr x.a.l1 (nth l (ss.getD x.i 0)).shr), x.a.l2, x.a.l3⟩ (by unfold sumS; rw [if_pos h7, hso, hsh, down7 h7]; rfl)) hms) kR kR kR (by unfold Known; kernel_rfl) kR kR
    case t2 =>
     refine g_rw 23 (nodV (nth l (ss.getD x.i 0))) (nodV { (nth l (ss.getD x.i 0)) with kind := 7, so := 2, sho := 2 }) kR (sum_lit h7 hso hsh) ?_
     refine gN fun b4 hb4 => ?_
     refine gA (List.replicate 19 4) 1 ?_
     refine gD 6 ?_
     refine lA ([2] ++ List.replicate 19 4) 0 ?_
     refine l_callq _ _ _ ?_ (fun w hs => ralong_7 (nth l (ss.getD x.i 0)) 2 2 w) ?_
     ·kernel_rfl
     refine l0 ?_
     refine lE ?_
     refine gA ([2] ++ [4]) 1 ?_
     refine gD 15 ?_
     refine lA ([4, 4] ++ [2] ++ [4]) 0 ?_
     refine lE ?_
     refine gA ([2]) 0 ?_
     refine gD 15 ?_
     refine lA ([4, 4] ++ [2] ++ [4]) 0 ?_
     refine lE ?_
     refine gU 16 ([2]) 0 ?_
     refine g_val _ _ ?_ (fun w _hs => nat_succ (P := Try.prog) (t := 3) (x := .tmp 15) (y := .const (.int .i64 1)) (m := x.i) (w := w) kR (by omega)) ?_
     ·kernel_rfl
     refine g0 ?_
     refine g_take 4 ?_
     refine g_hook (hN (x.next hxs ⟨wr x.a.nat (nth l (ss.getD x.i 0)).nat, x.a.m0, x.a.m1, (wr x.a.m2 (nth l (ss.getD x.i 0)).str), x.a.m3, x.a.l0, x.a.l1, (wr x.a.l2 (nth l (ss.getD x.i 0)).shr), x.a.l3⟩ (by unfold sumS; rw [if_pos h7, hso, hsh, down7 h7]; rfl)) hms) kR kR kR (by unfold Known; kernel_rfl) kR kR
    case t3 =>
     refine g_rw 23 (nodV (nth l (ss.getD x.i 0))) (nodV { (nth l (ss.getD x.i 0)) with kind := 7, so := 2, sho := 3 }) kR (sum_lit h7 hso hsh) ?_
     refine gN fun b4 hb4 => ?_
     refine gA (List.replicate 19 4) 1 ?_
     refine gD 6 ?_
     refine lA ([2] ++ List.replicate 19 4) 0 ?_
     refine l_callq _ _ _ ?_ (fun w hs => ralong_7 (nth l (ss.getD x.i 0)) 2 3 w) ?_
     ·kernel_rfl
     refine l0 ?_
     refine lE ?_
     refine gA ([2] ++ [4]) 1 ?_
     refine gD 15 ?_
     refine lA ([4, 4] ++ [2] ++ [4]) 0 ?_
     refine lE ?_
     refine gA ([2]) 0 ?_
     refine gD 15 ?_
     refine lA ([4, 4] ++ [2] ++ [4]) 0 ?_
     refine lE ?_
     refine gU 16 ([2]) 0 ?_
     refine g_val _ _ ?_ (fun w _hs => nat_succ (P := Try.prog) (t := 3) (x := .tmp 15) (y := .const (.int .i64 1)) (m := x.i) (w := w) kR (by omega)) ?_
     ·kernel_rfl
     refine g0 ?_
     refine g_take 4 ?_
     refine g_hook (hN (x.next hxs ⟨wr x.a.nat (nth l (ss.getD x.i 0)).nat, x.a.m0, x.a.m1, (wr x.a.m2 (nth l (ss.getD x.i 0)).str), x.a.m3, x.a.l0, x.a.l1, x.a.l2, (wr x.a.l3 (nth l (ss.getD x.i 0)).shr)⟩ (by unfold sumS; rw [if_pos h7, hso, hsh, down7 h7]; rfl)) hms) kR kR kR (by unfold Known; kernel_rfl) kR kR
   case s3 =>
    refine Or.elim4 (hgd h7).2 (fun hsh => ?t0) (fun hsh => ?t1) (fun hsh => ?t2) (fun hsh => ?t3)
    case t0 =>
     refine g_rw 23 (nodV (nth l (ss.getD x.i 0))) (nodV { (nth l (ss.getD x.i 0)) with kind := 7, so := 3, sho := 0 }) kR (sum_lit h7 hso hsh) ?_
     refine gN fun b4 hb4 => ?_
     refine gA (List.replicate 19 4) 1 ?_
     refine gD 6 ?_
     refine lA ([2] ++ List.replicate 19 4) 0 ?_
     refine l_callq _ _ _ ?_ (fun w hs => ralong_7 (nth l (ss.getD x.i 0)) 3 0 w) ?_
     ·kernel_rfl
     refine l0 ?_
     refine lE ?_
     refine gA ([2] ++ [4]) 1 ?_
     refine gD 15 ?_
     refine lA ([4, 4] ++ [2] ++ [4]) 0 ?_
     refine lE ?_
     refine gA ([2]) 0 ?_
     refine gD 15 ?_
     refine lA ([4, 4] ++ [2] ++ [4]) 0 ?_
     refine lE ?_
     refine gU 16 ([2]) 0 ?_
     refine g_val _ _ ?_ (fun w _hs => nat_succ (P := Try.prog) (t := 3) (x := .tmp 15) (y := .const (.int .i64 1)) (m := x.i) (w := w) kR (by omega)) ?_
     ·kernel_rfl
     refine g0 ?_
     refine g_take 4 ?_
     refine g_hook (hN (x.next hxs ⟨wr x.a.nat (nth l (ss.getD x.i 0)).nat, x.a.m0, x.a.m1, x.a.m2, (wr x.a.m3 (nth l (ss.getD x.i 0)).str), (wr x.a.l0 (nth l (ss.getD x.i 0)).shr), x.a.l1, x.a.l2, x.a.l3⟩ (by unfold sumS; rw [if_pos h7, hso, hsh, down7 h7]; rfl)) hms) kR kR kR (by unfold Known; kernel_rfl) kR kR
    case t1 =>
     refine g_rw 23 (nodV (nth l (ss.getD x.i 0))) (nodV { (nth l (ss.getD x.i 0)) with kind := 7, so := 3, sho := 1 }) kR (sum_lit h7 hso hsh) ?_
     refine gN fun b4 hb4 => ?_
     refine gA (List.replicate 19 4) 1 ?_
     refine gD 6 ?_
     refine lA ([2] ++ List.replicate 19 4) 0 ?_
     refine l_callq _ _ _ ?_ (fun w hs => ralong_7 (nth l (ss.getD x.i 0)) 3 1 w) ?_
     ·kernel_rfl
     refine l0 ?_
     refine lE ?_
     refine gA ([2] ++ [4]) 1 ?_
     refine gD 15 ?_
     refine lA ([4, 4] ++ [2] ++ [4]) 0 ?_
     refine lE ?_
     refine gA ([2]) 0 ?_
     refine gD 15 ?_
     refine lA ([4, 4] ++ [2] ++ [4]) 0 ?_
     refine lE ?_
     refine gU 16 ([2]) 0 ?_
     refine g_val _ _ ?_ (fun w _hs => nat_succ (P := Try.prog) (t := 3) (x := .tmp 15) (y := .const (.int .i64 1)) (m := x.i) (w := w) kR (by omega)) ?_
     ·kernel_rfl
     refine g0 ?_
     refine g_take 4 ?_
     refine g_hook (hN (x.next hxs ⟨wr x.a.nat (nth l (ss.getD x.i 0)).nat, x.a.m0, x.a.m1, x.a.m2, (wr x.a.m3 (nth l (ss.getD x.i 0)).str), x.a.l0, (wr x.a.l1 (nth l (ss.getD x.i 0)).shr), x.a.l2, x.a.l3⟩ (by unfold sumS; rw [if_pos h7, hso, hsh, down7 h7]; rfl)) hms) kR kR kR (by unfold Known; kernel_rfl) kR kR
    case t2 =>
     refine g_rw 23 (nodV (nth l (ss.getD x.i 0))) (nodV { (nth l (ss.getD x.i 0)) with kind := 7, so := 3, sho := 2 }) kR (sum_lit h7 hso hsh) ?_
     refine gN fun b4 hb4 => ?_
     refine gA (List.replicate 19 4) 1 ?_
     refine gD 6 ?_
     refine lA ([2] ++ List.replicate 19 4) 0 ?_
     refine l_callq _ _ _ ?_ (fun w hs => ralong_7 (nth l (ss.getD x.i 0)) 3 2 w) ?_
     ·kernel_rfl
     refine l0 ?_
     refine lE ?_
     refine gA ([2] ++ [4]) 1 ?_
     refine gD 15 ?_
     refine lA ([4, 4] ++ [2] ++ [4]) 0 ?_
     refine lE ?_
     refine gA ([2]) 0 ?_
     refine gD 15 ?_
     refine lA ([4, 4] ++ [2] ++ [4]) 0 ?_
     refine lE ?_
     refine gU 16 ([2]) 0 ?_
     refine g_val _ _ ?_ (fun w _hs => nat_succ (P := Try.prog) (t := 3) (x := .tmp 15) (y := .const (.int .i64 1)) (m := x.i) (w := w) kR (by omega)) ?_
     ·kernel_rfl
     refine g0 ?_
     refine g_take 4 ?_
     refine g_hook (hN (x.next hxs ⟨wr x.a.nat (nth l (ss.getD x.i 0)).nat, x.a.m0, x.a.m1, x.a.m2, (wr x.a.m3 (nth l (ss.getD x.i 0)).str), x.a.l0, x.a.l1, (wr x.a.l2 (nth l (ss.getD x.i 0)).shr), x.a.l3⟩ (by unfold sumS; rw [if_pos h7, hso, hsh, down7 h7]; rfl)) hms) kR kR kR (by unfold Known; kernel_rfl) kR kR
    case t3 =>
     refine g_rw 23 (nodV (nth l (ss.getD x.i 0))) (nodV { (nth l (ss.getD x.i 0)) with kind := 7, so := 3, sho := 3 }) kR (sum_lit h7 hso hsh) ?_
     refine gN fun b4 hb4 => ?_
     refine gA (List.replicate 19 4) 1 ?_
     refine gD 6 ?_
     refine lA ([2] ++ List.replicate 19 4) 0 ?_
     refine l_callq _ _ _ ?_ (fun w hs => ralong_7 (nth l (ss.getD x.i 0)) 3 3 w) ?_
     ·kernel_rfl
     refine l0 ?_
     refine lE ?_
     refine gA ([2] ++ [4]) 1 ?_
     refine gD 15 ?_
     refine lA ([4, 4] ++ [2] ++ [4]) 0 ?_
     refine lE ?_
     refine gA ([2]) 0 ?_
     refine gD 15 ?_
     refine lA ([4, 4] ++ [2] ++ [4]) 0 ?_
     refine lE ?_
     refine gU 16 ([2]) 0 ?_
     refine g_val _ _ ?_ (fun w _hs => nat_succ (P := Try.prog) (t := 3) (x := .tmp 15) (y := .const (.int .i64 1)) (m := x.i) (w := w) kR (by omega)) ?_
     ·kernel_rfl
     refine g0 ?_
     refine g_take 4 ?_
     refine g_hook (hN (x.next hxs ⟨wr x.a.nat (nth l (ss.getD x.i 0)).nat, x.a.m0, x.a.m1, x.a.m2, (wr x.a.m3 (nth l (ss.getD x.i 0)).str), x.a.l0, x.a.l1, x.a.l2, (wr x.a.l3 (nth l (ss.getD x.i 0)).shr)⟩ (by unfold sumS; rw [if_pos h7, hso, hsh, down7 h7]; rfl)) hms) kR kR kR (by unfold Known; kernel_rfl) kR kR
  case other =>
   refine gN fun b4 hb4 => ?_
   refine gA (List.replicate 19 4) 1 ?_
   refine gD 6 ?_
   refine lA ([2] ++ List.replicate 19 4) 0 ?_
   refine l_callq _ _ _ ?_ (fun w hs => ralong_any (nth l (ss.getD x.i 0)) w) ?_
   ·kernel_rfl
   refine l0 ?_
   refine lE ?_
   refine gA ([2] ++ [4]) 0 ?_
   refine g_dec 57 ((nth l (ss.getD x.i 0)).kind == 7) kR (fun h57 => ?_) (fun h57 => ?_)
   ·exact absurd h57 (by clear hN; intro hx; exact absurd (eq_of_beq hx) h7)
   refine gU 16 [] 1 ?_
   refine g_val _ _ ?_ (fun w _hs => nat_succ (P := Try.prog) (t := 3) (x := .tmp 15) (y := .const (.int .i64 1)) (m := x.i) (w := w) kR (by omega)) ?_
   ·kernel_rfl
   refine g0 ?_
   refine g_take 4 ?_
   refine g_hook (hN (x.next hxs { x.a with nat := wr x.a.nat (rAlongV (nth l (ss.getD x.i 0))) } (sumS_no h7 rfl)) hms) kR kR kR (by unfold Known; kernel_rfl) kR kR
 have hx : ¬ x.i < ss.length := fun hx => of_decide_eq_false hd (Int.ofNat_lt.2 (hn ▸ hx))
 refine gA (List.replicate 9 2 ++ List.replicate 9 1) 1 ?_
 refine g_ret (List.replicate 9 1) (Value.agg (Array.mk [Value.int IntKind.i64 x.a.nat, Value.int IntKind.i64 x.a.m0, Value.int IntKind.i64 x.a.m1, Value.int IntKind.i64 x.a.m2, Value.int IntKind.i64 x.a.m3, Value.int IntKind.i64 x.a.l0, Value.int IntKind.i64 x.a.l1, Value.int IntKind.i64 x.a.l2, Value.int IntKind.i64 x.a.l3])) kR kR kR fun w' hs => ?_
 exact ⟨sum_ret (x.done hx), hs.kk⟩
theorem rsum_gen (l : List Nod) (bl ol cl : Nat) (W : Wk) (hG : Good l W) (hcl : ∀ p, p ∈ startsN l W → (nth l p).kind = 10 → l.length ≤ cl) (sa : Nat → Acc) (hrec : SumRec Try.prog 88 l W sa) (T : Acc) (hT : (startsN l W).foldl (sumS l (besideV l sa)) acc0 = T) (w : World) (hq : Sat w [] [.row bl ol 19 l.length (rowOf l)] w) :
  Calls Try.prog 88 #[.slice (some ⟨bl, ol, none⟩) l.length cl, .bool false] w fun e w' => e = .returned (totV T) ∧ Kept w w' := by
 have hgl := hG.le
 refine Exists.elim (show ∃ n, (startsN l W).length = n from ⟨_, rfl⟩) fun n hn => ?_
 have hnl : n ≤ l.length := by rw [← hn]; exact items_le
 have hbe : ∀ k, k < n → (startsN l W).getD k 0 < l.length := fun k hk => starts_mem hG (by omega)
 have hnz : ∀ k, k < n → W.beh.getD ((startsN l W).getD k 0) 0 ≠ 0 := fun k hk => starts_nz hG (by omega)
 refine Exists.elim (show ∃ ss, startsN l W = ss from ⟨_, rfl⟩) fun ss hss => ?_
 rw [hss] at hT hn hbe hnz
 refine g_enter (args := [.slice (some ⟨bl, ol, none⟩) l.length cl, .bool false]) [] [.row bl ol 19 l.length (rowOf l)] Try.func88 rfl Try.ntmps88 kL hq ?_
 refine g0 ?_
 refine gN fun b4 hb4 => ?_
 refine g0 ?_
 refine gN fun b5 hb5 => ?_
 refine g0 ?_
 refine g_call (X := NewI w ss) _ _ ?_ (fun q => .slice q.A n q.c) (fun q => [.row bl ol 19 l.length (rowOf l), .obj true b4 (totC acc0) 81, .obj true b5 (totC acc0) 81] ++ [.row q.b 0 1 n (intR ss)])
  (fun w1 hs => (hss ▸ rstarts_row l bl ol cl W hG hgl n (hss ▸ hn) w1 (hs.read [0] [.row bl ol 19 l.length (rowOf l)] kR) : Calls Try.prog 131 #[.slice (some ⟨bl, ol, none⟩) l.length cl] w1 fun e w' => ∃ q : NewI w1 ss, e = .returned (.slice q.A n q.c) ∧ Sat w1 [] [.row q.b 0 1 n (intR ss)] w').mono fun e w2 ⟨q, h1, h2⟩ => ⟨⟨q.A, q.c, q.b, q.ax, fun h => Nat.le_trans hs.kept.size (q.new h)⟩, h1, (hs.at kR).moreRow h2 (fun h => q.new (hn ▸ h))⟩) (fun q => ?_)
 ·kernel_rfl
 refine g0 ?_
 refine g_loopN (X := SMX ss (sumS l (besideV l sa)) T) (fun x => [(7, .int .i64 (x.i : Int))]) (fun x => [.row bl ol 19 l.length (rowOf l), .obj true b4 (totC acc0) 81, .obj true b5 (totC x.a) 81, .row q.b 0 1 n (intR ss)]) (fun x => n - x.i) ⟨0, acc0, Nat.zero_le _, hT⟩ kR (by unfold Known; kernel_rfl) kR fun x N hN => ?_
 refine g0 ?_
 refine g_dec 14 (decide ((x.i : Int) < (n : Int))) kR (fun hd => ?_) (fun hd => ?_)
 ·have hx : x.i < n := Int.ofNat_lt.1 (of_decide_eq_true hd)
  have hxs : x.i < ss.length := hn.symm ▸ hx
  have hp : ss.getD x.i 0 < l.length := hbe x.i hx
  have hz := hnz x.i hx
  have hgd := glued_of hG hz
  have hqa : q.A = some ⟨q.b, 0, none⟩ := q.ax.resolve_left (by omega)
  have hq6 : Value.slice q.A n q.c = .slice (some ⟨q.b, 0, none⟩) n q.c := by rw [hqa]
  have hms : n - (x.i + 1) < n - x.i := Nat.sub_lt_sub_left hx (Nat.lt_succ_self _)
  refine gU 20 [] 1 ?_
  refine g_rw 18 (.slice q.A n q.c) (.slice (some ⟨q.b, 0, none⟩) n q.c) kR hq6 ?_
  refine g_val _ _ ?_ (fun w _hs => idx_run (P := Try.prog) (T := 25) (E := 3) (b := q.b) (o := 0) (n := n) (c := q.c) (k := x.i) (sz := 1) (kk := .i64) w kR kR hx) ?_
  ·kernel_rfl
  refine g_val _ _ ?_ (fun w _hs => intLoad (ss := ss) (b := q.b) (k := x.i) (n := n) (j := 3) _hs kR hx) ?_
  ·kernel_rfl
  refine g_val _ _ ?_ (fun w _hs => idx_run (P := Try.prog) (T := 59) (E := 63) (b := bl) (o := ol) (n := l.length) (c := cl) (k := ss.getD x.i 0) (sz := 19) (kk := .i64) w kR kR hp) ?_
  ·kernel_rfl
  refine g_val _ _ ?_ (fun w _hs => nodeLoad (l := l) (bl := bl) (ol := ol) (k := ss.getD x.i 0) (j := 0) _hs kR hp) ?_
  ·kernel_rfl
  refine Decidable.byCases (fun h7 : (nth l (ss.getD x.i 0)).kind = 7 => ?seven) (fun h7 : (nth l (ss.getD x.i 0)).kind ≠ 7 => ?other)
  case seven =>
   refine Or.elim4 (hgd h7).1 (fun hso => ?s0) (fun hso => ?s1) (fun hso => ?s2) (fun hso => ?s3)
   case s0 =>
    refine Or.elim4 (hgd h7).2 (fun hsh => ?t0) (fun hsh => ?t1) (fun hsh => ?t2) (fun hsh => ?t3)
    case t0 =>
     refine g_rw 23 (nodV (nth l (ss.getD x.i 0))) (nodV { (nth l (ss.getD x.i 0)) with kind := 7, so := 0, sho := 0 }) kR (sum_lit h7 hso hsh) ?_
     refine gN fun b4 hb4 => ?_
     refine gA (List.replicate 20 4) 2 ?_
     refine gD 6 ?_
     refine lA ([2] ++ List.replicate 19 4) 0 ?_
     refine l_callq _ _ _ ?_ (fun w hs => racross_7 (nth l (ss.getD x.i 0)) 0 0 w) ?_
     ·kernel_rfl
     refine l0 ?_
     refine lE ?_
     refine gA ([2] ++ [4]) 1 ?_
     refine gD 15 ?_
     refine lA ([4, 4] ++ [2] ++ [4]) 0 ?_
     refine lE ?_
     refine gA ([2]) 0 ?_
     refine gD 15 ?_
     refine lA ([4, 4] ++ [2] ++ [4]) 0 ?_
     refine lE ?_
     refine gU 16 ([2]) 0 ?_
     refine g_val _ _ ?_ (fun w _hs => nat_succ (P := Try.prog) (t := 3) (x := .tmp 15) (y := .const (.int .i64 1)) (m := x.i) (w := w) kR (by omega)) ?_
     ·kernel_rfl
     refine g0 ?_
     refine g_take 4 ?_
     refine g_hook (hN (x.next hxs ⟨wr x.a.nat (nth l (ss.getD x.i 0)).nat, (wr x.a.m0 (nth l (ss.getD x.i 0)).str), x.a.m1, x.a.m2, x.a.m3, (wr x.a.l0 (nth l (ss.getD x.i 0)).shr), x.a.l1, x.a.l2, x.a.l3⟩ (by unfold sumS; rw [if_pos h7, hso, hsh, beside7 h7]; rfl)) hms) kR kR kR (by unfold Known; kernel_rfl) kR kR
    case t1 =>
     refine g_rw 23 (nodV (nth l (ss.getD x.i 0))) (nodV { (nth l (ss.getD x.i 0)) with kind := 7, so := 0, sho := 1 }) kR (sum_lit h7 hso hsh) ?_
     refine gN fun b4 hb4 => ?_
     refine gA (List.replicate 20 4) 2 ?_
     refine gD 6 ?_
     refine lA ([2] ++ List.replicate 19 4) 0 ?_
     refine l_callq _ _ _ ?_ (fun w hs => racross_7 (nth l (ss.getD x.i 0)) 0 1 w) ?_
     ·kernel_rfl
     refine l0 ?_
     refine lE ?_
     refine gA ([2] ++ [4]) 1 ?_
     refine gD 15 ?_
     refine lA ([4, 4] ++ [2] ++ [4]) 0 ?_
     refine lE ?_
     refine gA ([2]) 0 ?_
     refine gD 15 ?_
     refine lA ([4, 4] ++ [2] ++ [4]) 0 ?_
     refine lE ?_
     refine gU 16 ([2]) 0 ?_
     refine g_val _ _ ?_ (fun w _hs => nat_succ (P := Try.prog) (t := 3) (x := .tmp 15) (y := .const (.int .i64 1)) (m := x.i) (w := w) kR (by omega)) ?_
     ·kernel_rfl
     refine g0 ?_
     refine g_take 4 ?_
     refine g_hook (hN (x.next hxs ⟨wr x.a.nat (nth l (ss.getD x.i 0)).nat, (wr x.a.m0 (nth l (ss.getD x.i 0)).str), x.a.m1, x.a.m2, x.a.m3, x.a.l0, (wr x.a.l1 (nth l (ss.getD x.i 0)).shr), x.a.l2, x.a.l3⟩ (by unfold sumS; rw [if_pos h7, hso, hsh, beside7 h7]; rfl)) hms) kR kR kR (by unfold Known; kernel_rfl) kR kR
    case t2 =>
     refine g_rw 23 (nodV (nth l (ss.getD x.i 0))) (nodV { (nth l (ss.getD x.i 0)) with kind := 7, so := 0, sho := 2 }) kR (sum_lit h7 hso hsh) ?_
     refine gN fun b4 hb4 => ?_
     refine gA (List.replicate 20 4) 2 ?_
     refine gD 6 ?_
     refine lA ([2] ++ List.replicate 19 4) 0 ?_
     refine l_callq _ _ _ ?_ (fun w hs => racross_7 (nth l (ss.getD x.i 0)) 0 2 w) ?_
     ·kernel_rfl
     refine l0 ?_
     refine lE ?_
     refine gA ([2] ++ [4]) 1 ?_
     refine gD 15 ?_
     refine lA ([4, 4] ++ [2] ++ [4]) 0 ?_
     refine lE ?_
     refine gA ([2]) 0 ?_
     refine gD 15 ?_
     refine lA ([4, 4] ++ [2] ++ [4]) 0 ?_
     refine lE ?_
     refine gU 16 ([2]) 0 ?_
     refine g_val _ _ ?_ (fun w _hs => nat_succ (P := Try.prog) (t := 3) (x := .tmp 15) (y := .const (.int .i64 1)) (m := x.i) (w := w) kR (by omega)) ?_
     ·kernel_rfl
     refine g0 ?_
     refine g_take 4 ?_
     refine g_hook (hN (x.next hxs ⟨wr x.a.nat (nth l (ss.getD x.i 0)).nat, (wr x.a.m0 (nth l (ss.getD x.i 0)).str), x.a.m1, x.a.m2, x.a.m3, x.a.l0, x.a.l1, (wr x.a.l2 (nth l (ss.getD x.i 0)).shr), x.a.l3⟩ (by unfold sumS; rw [if_pos h7, hso, hsh, beside7 h7]; rfl)) hms) kR kR kR (by unfold Known; kernel_rfl) kR kR
    case t3 =>
     refine g_rw 23 (nodV (nth l (ss.getD x.i 0))) (nodV { (nth l (ss.getD x.i 0)) with kind := 7, so := 0, sho := 3 }) kR (sum_lit h7 hso hsh) ?_
     refine gN fun b4 hb4 => ?_
     refine gA (List.replicate 20 4) 2 ?_
     refine gD 6 ?_
     refine lA ([2] ++ List.replicate 19 4) 0 ?_
     refine l_callq _ _ _ ?_ (fun w hs => racross_7 (nth l (ss.getD x.i 0)) 0 3 w) ?_
     ·kernel_rfl
     refine l0 ?_
     refine lE ?_
     refine gA ([2] ++ [4]) 1 ?_
     refine gD 15 ?_
     refine lA ([4, 4] ++ [2] ++ [4]) 0 ?_
     refine lE ?_
     refine gA ([2]) 0 ?_
     refine gD 15 ?_
     refine lA ([4, 4] ++ [2] ++ [4]) 0 ?_
     refine lE ?_
     refine gU 16 ([2]) 0 ?_
     refine g_val _ _ ?_ (fun w _hs => nat_succ (P := Try.prog) (t := 3) (x := .tmp 15) (y := .const (.int .i64 1)) (m := x.i) (w := w) kR (by omega)) ?_
     ·kernel_rfl
     refine g0 ?_
     refine g_take 4 ?_
     refine g_hook (hN (x.next hxs ⟨wr x.a.nat (nth l (ss.getD x.i 0)).nat, (wr x.a.m0 (nth l (ss.getD x.i 0)).str), x.a.m1, x.a.m2, x.a.m3, x.a.l0, x.a.l1, x.a.l2, (wr x.a.l3 (nth l (ss.getD x.i 0)).shr)⟩ (by unfold sumS; rw [if_pos h7, hso, hsh, beside7 h7]; rfl)) hms) kR kR kR (by unfold Known; kernel_rfl) kR kR
   case s1 =>
    refine Or.elim4 (hgd h7).2 (fun hsh => ?t0) (fun hsh => ?t1) (fun hsh => ?t2) (fun hsh => ?t3)
    case t0 =>
     refine g_rw 23 (nodV (nth l (ss.getD x.i 0))) (nodV { (nth l (ss.getD x.i 0)) with kind := 7, so := 1, sho := 0 }) kR (sum_lit h7 hso hsh) ?_
     refine gN fun b4 hb4 => ?_
     refine gA (List.replicate 20 4) 2 ?_
     refine gD 6 ?_
     refine lA ([2] ++ List.replicate 19 4) 0 ?_
     refine l_callq _ _ _ ?_ (fun w hs => racross_7 (nth l (ss.getD x.i 0)) 1 0 w) ?_
     ·kernel_rfl
     refine l0 ?_
     refine lE ?_
     refine gA ([2] ++ [4]) 1 ?_
     refine gD 15 ?_
     refine lA ([4, 4] ++ [2] ++ [4]) 0 ?_
     refine lE ?_
     refine gA ([2]) 0 ?_
     refine gD 15 ?_
     refine lA ([4, 4] ++ [2] ++ [4]) 0 ?_
     refine lE ?_
     refine gU 16 ([2]) 0 ?_
     refine g_val _ _ ?_ (fun w _hs => nat_succ (P := Try.prog) (t := 3) (x := .tmp 15) (y := .const (.int .i64 1)) (m := x.i) (w := w) kR (by omega)) ?_
     ·kernel_rfl
     refine g0 ?_
     refine g_take 4 ?_
     refine g_hook (hN (x.next hxs ⟨wr x.a.nat (nth l (ss.getD x.i 0)).nat, x.a.m0, (wr x.a.m1 (nth l (ss.getD x.i 0)).str), x.a.m2, x.a.m3, (wr x.a.l0 (nth l (ss.getD x.i 0)).shr), x.a.l1, x.a.l2, x.a.l3⟩ (by unfold sumS; rw [if_pos h7, hso, hsh, beside7 h7]; rfl)) hms) kR kR kR (by unfold Known; kernel_rfl) kR kR
    case t1 =>
     refine g_rw 23 (nodV (nth l (ss.getD x.i 0))) (nodV { (nth l (ss.getD x.i 0)) with kind := 7, so := 1, sho := 1 }) kR (sum_lit h7 hso hsh) ?_
     refine gN fun b4 hb4 => ?_
     refine gA (List.replicate 20 4) 2 ?_
     refine gD 6 ?_
     refine lA ([2] ++ List.replicate 19 4) 0 ?_
     refine l_callq _ _ _ ?_ (fun w hs => racross_7 (nth l (ss.getD x.i 0)) 1 1 w) ?_
     ·kernel_rfl
     refine l0 ?_
     refine lE ?_
     refine gA ([2] ++ [4]) 1 ?_
     refine gD 15 ?_
     refine lA ([4, 4] ++ [2] ++ [4]) 0 ?_
     refine lE ?_
     refine gA ([2]) 0 ?_
     refine gD 15 ?_
     refine lA ([4, 4] ++ [2] ++ [4]) 0 ?_
     refine lE ?_
     refine gU 16 ([2]) 0 ?_
     refine g_val _ _ ?_ (fun w _hs => nat_succ (P := Try.prog) (t := 3) (x := .tmp 15) (y := .const (.int .i64 1)) (m := x.i) (w := w) kR (by omega)) ?_
     ·kernel_rfl
     refine g0 ?_
     refine g_take 4 ?_
     refine g_hook (hN (x.next hxs ⟨wr x.a.nat (nth l (ss.getD x.i 0)).nat, x.a.m0, (wr x.a.m1 (nth l (ss.getD x.i 0)).str), x.a.m2, x.a.m3, x.a.l0, (wr x.a.l1 (nth l (ss.getD x.i 0)).shr), x.a.l2, x.a.l3⟩ (by unfold sumS; rw [if_pos h7, hso, hsh, beside7 h7]; rfl)) hms) kR kR kR (by unfold Known; kernel_rfl) kR kR
    case t2 =>
     refine g_rw 23 (nodV (nth l (ss.getD x.i 0))) (nodV { (nth l (ss.getD x.i 0)) with kind := 7, so := 1, sho := 2 }) kR (sum_lit h7 hso hsh) ?_
     refine gN fun b4 hb4 => ?_
     refine gA (List.replicate 20 4) 2 ?_
     refine gD 6 ?_
     refine lA ([2] ++ List.replicate 19 4) 0 ?_
     refine l_callq _ _ _ ?_ (fun w hs => racross_7 (nth l (ss.getD x.i 0)) 1 2 w) ?_
     ·kernel_rfl
     refine l0 ?_
     refine lE ?_
     refine gA ([2] ++ [4]) 1 ?_
     refine gD 15 ?_
     refine lA ([4, 4] ++ [2] ++ [4]) 0 ?_
     refine lE ?_
     refine gA ([2]) 0 ?_
     refine gD 15 ?_
     refine lA ([4, 4] ++ [2] ++ [4]) 0 ?_
     refine lE ?_
     refine gU 16 ([2]) 0 ?_
     refine g_val _ _ ?_ (fun w _hs => nat_succ (P := Try.prog) (t := 3) (x := .tmp 15) (y := .const (.int .i64 1)) (m := x.i) (w := w) kR (by omega)) ?_
     ·kernel_rfl
     refine g0 ?_
     refine g_take 4 ?_
     refine g_hook (hN (x.next hxs ⟨wr x.a.nat (nth l (ss.getD x.i 0)).nat, x.a.m0, (wr x.a.m1 (nth l (ss.getD x.i 0)).str), x.a.m2, x.a.m3, x.a.l0, x.a.l1, (wr x.a.l2 (nth l (ss.getD x.i 0)).shr), x.a.l3⟩ (by unfold sumS; rw [if_pos h7, hso, hsh, beside7 h7]; rfl)) hms) kR kR kR (by unfold Known; kernel_rfl) kR kR
    case t3 =>
     refine g_rw 23 (nodV (nth l (ss.getD x.i 0))) (nodV { (nth l (ss.getD x.i 0)) with kind := 7, so := 1, sho := 3 }) kR (sum_lit h7 hso hsh) ?_
     refine gN fun b4 hb4 => ?_
     refine gA (List.replicate 20 4) 2 ?_
     refine gD 6 ?_
     refine lA ([2] ++ List.replicate 19 4) 0 ?_
     refine l_callq _ _ _ ?_ (fun w hs => racross_7 (nth l (ss.getD x.i 0)) 1 3 w) ?_
     ·kernel_rfl
     refine l0 ?_
     refine lE ?_
     refine gA ([2] ++ [4]) 1 ?_
     refine gD 15 ?_
     refine lA ([4, 4] ++ [2] ++ [4]) 0 ?_
     refine lE ?_
     refine gA ([2]) 0 ?_
     refine gD 15 ?_
     refine lA ([4, 4] ++ [2] ++ [4]) 0 ?_
     refine lE ?_
     refine gU 16 ([2]) 0 ?_
     refine g_val _ _ ?_ (fun w _hs => nat_succ (P := Try.prog) (t := 3) (x := .tmp 15) (y := .const (.int .i64 1)) (m := x.i) (w := w) kR (by omega)) ?_
     ·kernel_rfl
     refine g0 ?_
     refine g_take 4 ?_
     refine g_hook (hN (x.next hxs ⟨wr x.a.nat (nth l (ss.getD x.i 0)).nat, x.a.m0, (wr x.a.m1 (nth l (ss.getD x.i 0)).str), x.a.m2, x.a.m3, x.a.l0, x.a.l1, x.a.l2, (wr x.a.l3 (nth l (ss.getD x.i 0)).shr)⟩ (by unfold sumS; rw [if_pos h7, hso, hsh, beside7 h7]; rfl)) hms) kR kR kR (by unfold Known; kernel_rfl) kR kR
   case s2 =>
    refine Or.elim4 (hgd h7).2 (fun hsh => ?t0) (fun hsh => ?t1) (fun hsh => ?t2) (fun hsh => ?t3)
    case t0 =>
     refine g_rw 23 (nodV (nth l (ss.getD x.i 0))) (nodV { (nth l (ss.getD x.i 0)) with kind := 7, so := 2, sho := 0 }) kR (sum_lit h7 hso hsh) ?_
     refine gN fun b4 hb4 => ?_
     refine gA (List.replicate 20 4) 2 ?_
     refine gD 6 ?_
     refine lA ([2] ++ List.replicate 19 4) 0 ?_
     refine l_callq _ _ _ ?_ (fun w hs => racross_7 (nth l (ss.getD x.i 0)) 2 0 w) ?_
     ·kernel_rfl
     refine l0 ?_
     refine lE ?_
     refine gA ([2] ++ [4]) 1 ?_
     refine gD 15 ?_
     refine lA ([4, 4] ++ [2] ++ [4]) 0 ?_
     refine lE ?_
     refine gA ([2]) 0 ?_
     refine gD 15 ?_
     refine lA ([4, 4] ++ [2] ++ [4]) 0 ?_
     refine lE ?_
     refine gU 16 ([2]) 0 ?_
     refine g_val _ _ ?_ (fun w _hs => nat_succ (P := Try.prog) (t := 3) (x := .tmp 15) (y := .const (.int .i64 1)) (m := x.i) (w := w) kR (by omega)) ?_
     ·kernel_rfl
     refine g0 ?_
     refine g_take 4 ?_
     refine g_hook (hN (x.next hxs ⟨wr x.a.nat (nth l (ss.getD x.i 0)).nat, x.a.m0, x.a.m1, (wr x.a.m2 (nth l (ss.getD x.i 0)).str), x.a.m3, (wr x.a.l0 (nth l (ss.getD x.i 0)).shr), x.a.l1, x.a.l2, x.a.l3⟩ (by unfold sumS; rw [if_pos h7, hso, hsh, beside7 h7]; rfl)) hms) kR kR kR (by unfold Known; kernel_rfl) kR kR
    case t1 =>
     refine g_rw 23 (nodV (nth l (ss.getD x.i 0))) (nodV { (nth l (ss.getD x.i 0)) with kind := 7, so := 2, sho := 1 }) kR (sum_lit h7 hso hsh) ?_
     refine gN fun b4 hb4 => ?_
     refine gA (List.replicate 20 4) 2 ?_
     refine gD 6 ?_
     refine lA ([2] ++ List.replicate 19 4) 0 ?_
     refine l_callq _ _ _ ?_ (fun w hs => racross_7 (nth l (ss.getD x.i 0)) 2 1 w) ?_
     ·kernel_rfl
     refine l0 ?_
     refine lE ?_
     refine gA ([2] ++ [4]) 1 ?_
     refine gD 15 ?_
     refine lA ([4, 4] ++ [2] ++ [4]) 0 ?_
     refine lE ?_
     refine gA ([2]) 0 ?_
     refine gD 15 ?_
     refine lA ([4, 4] ++ [2] ++ [4]) 0 ?_
     refine lE ?_
     refine gU 16 ([2]) 0 ?_
     refine g_val _ _ ?_ (fun w _hs => nat_succ (P := Try.prog) (t := 3) (x := .tmp 15) (y := .const (.int .i64 1)) (m := x.i) (w := w) kR (by omega)) ?_
     ·kernel_rfl
     refine g0 ?_
     refine g_take 4 ?_
     refine g_hook (hN (x.next hxs ⟨wr x.a.nat (nth l (ss.getD x.i 0)).nat, x.a.m0, x.a.m1, (wr x.a.m2 (nth l (ss.getD x.i 0)).str), x.a.m3, x.a.l0, (wr x.a.l1 (nth l (ss.getD x.i 0)).shr), x.a.l2, x.a.l3⟩ (by unfold sumS; rw [if_pos h7, hso, hsh, beside7 h7]; rfl)) hms) kR kR kR (by unfold Known; kernel_rfl) kR kR
    case t2 =>
     refine g_rw 23 (nodV (nth l (ss.getD x.i 0))) (nodV { (nth l (ss.getD x.i 0)) with kind := 7, so := 2, sho := 2 }) kR (sum_lit h7 hso hsh) ?_
     refine gN fun b4 hb4 => ?_
     refine gA (List.replicate 20 4) 2 ?_
     refine gD 6 ?_
     refine lA ([2] ++ List.replicate 19 4) 0 ?_
     refine l_callq _ _ _ ?_ (fun w hs => racross_7 (nth l (ss.getD x.i 0)) 2 2 w) ?_
     ·kernel_rfl
     refine l0 ?_
     refine lE ?_
     refine gA ([2] ++ [4]) 1 ?_
     refine gD 15 ?_
     refine lA ([4, 4] ++ [2] ++ [4]) 0 ?_
     refine lE ?_
     refine gA ([2]) 0 ?_
     refine gD 15 ?_
     refine lA ([4, 4] ++ [2] ++ [4]) 0 ?_
     refine lE ?_
     refine gU 16 ([2]) 0 ?_
     refine g_val _ _ ?_ (fun w _hs => nat_succ (P := Try.prog) (t := 3) (x := .tmp 15) (y := .const (.int .i64 1)) (m := x.i) (w := w) kR (by omega)) ?_
     ·kernel_rfl
     refine g0 ?_
     refine g_take 4 ?_
     refine g_hook (hN (x.next hxs ⟨wr x.a.nat (nth l (ss.getD x.i 0)).nat, x.a.m0, x.a.m1, (wr x.a.m2 (nth l (ss.getD x.i 0)).str), x.a.m3, x.a.l0, x.a.l1, (wr x.a.l2 (nth l (ss.getD x.i 0)).shr), x.a.l3⟩ (by unfold sumS; rw [if_pos h7, hso, hsh, beside7 h7]; rfl)) hms) kR kR kR (by unfold Known; kernel_rfl) kR kR
    case t3 =>
     refine g_rw 23 (nodV (nth l (ss.getD x.i 0))) (nodV { (nth l (ss.getD x.i 0)) with kind := 7, so := 2, sho := 3 }) kR (sum_lit h7 hso hsh) ?_
     refine gN fun b4 hb4 => ?_
     refine gA (List.replicate 20 4) 2 ?_
     refine gD 6 ?_
     refine lA ([2] ++ List.replicate 19 4) 0 ?_
     refine l_callq _ _ _ ?_ (fun w hs => racross_7 (nth l (ss.getD x.i 0)) 2 3 w) ?_
     ·kernel_rfl
     refine l0 ?_
     refine lE ?_
     refine gA ([2] ++ [4]) 1 ?_
     refine gD 15 ?_
     refine lA ([4, 4] ++ [2] ++ [4]) 0 ?_
     refine lE ?_
     refine gA ([2]) 0 ?_
     refine gD 15 ?_
     refine lA ([4, 4] ++ [2] ++ [4]) 0 ?_
     refine lE ?_
     refine gU 16 ([2]) 0 ?_
     refine g_val _ _ ?_ (fun w _hs => nat_succ (P := Try.prog) (t := 3) (x := .tmp 15) (y := .const (.int .i64 1)) (m := x.i) (w := w) kR (by omega)) ?_
     ·kernel_rfl
     refine g0 ?_
     refine g_take 4 ?_
     refine g_hook (hN (x.next hxs ⟨wr x.a.nat (nth l (ss.getD x.i 0)).nat, x.a.m0, x.a.m1, (wr x.a.m2 (nth l (ss.getD x.i 0)).str), x.a.m3, x.a.l0, x.a.l1, x.a.l2, (wr x.a.l3 (nth l (ss.getD x.i 0)).shr)⟩ (by unfold sumS; rw [if_pos h7, hso, hsh, beside7 h7]; rfl)) hms) kR kR kR (by unfold Known; kernel_rfl) kR kR
   case s3 =>
    refine Or.elim4 (hgd h7).2 (fun hsh => ?t0) (fun hsh => ?t1) (fun hsh => ?t2) (fun hsh => ?t3)
    case t0 =>
     refine g_rw 23 (nodV (nth l (ss.getD x.i 0))) (nodV { (nth l (ss.getD x.i 0)) with kind := 7, so := 3, sho := 0 }) kR (sum_lit h7 hso hsh) ?_
     refine gN fun b4 hb4 => ?_
     refine gA (List.replicate 20 4) 2 ?_
     refine gD 6 ?_
     refine lA ([2] ++ List.replicate 19 4) 0 ?_
     refine l_callq _ _ _ ?_ (fun w hs => racross_7 (nth l (ss.getD x.i 0)) 3 0 w) ?_
     ·kernel_rfl
     refine l0 ?_
     refine lE ?_
     refine gA ([2] ++ [4]) 1 ?_
     refine gD 15 ?_
     refine lA ([4, 4] ++ [2] ++ [4]) 0 ?_
     refine lE ?_
     refine gA ([2]) 0 ?_
     refine gD 15 ?_
     refine lA ([4, 4] ++ [2] ++ [4]) 0 ?_
     refine lE ?_
     refine gU 16 ([2]) 0 ?_
     refine g_val _ _ ?_ (fun w _hs => nat_succ (P := Try.prog) (t := 3) (x := .tmp 15) (y := .const (.int .i64 1)) (m := x.i) (w := w) kR (by omega)) ?_
     ·kernel_rfl
     refine g0 ?_
     refine g_take 4 ?_
     refine g_hook (hN (x.next hxs ⟨wr x.a.nat (nth l (ss.getD x.i 0)).nat, x.a.m0, x.a.m1, x.a.m2, (wr x.a.m3 (nth l (ss.getD x.i 0)).str), (wr x.a.l0 (nth l (ss.getD x.i 0)).shr), x.a.l1, x.a.l2, x.a.l3⟩ (by unfold sumS; rw [if_pos h7, hso, hsh, beside7 h7]; rfl)) hms) kR kR kR (by unfold Known; kernel_rfl) kR kR
    case t1 =>
     refine g_rw 23 (nodV (nth l (ss.getD x.i 0))) (nodV { (nth l (ss.getD x.i 0)) with kind := 7, so := 3, sho := 1 }) kR (sum_lit h7 hso hsh) ?_
     refine gN fun b4 hb4 => ?_
     refine gA (List.replicate 20 4) 2 ?_
     refine gD 6 ?_
     refine lA ([2] ++ List.replicate 19 4) 0 ?_
     refine l_callq _ _ _ ?_ (fun w hs => racross_7 (nth l (ss.getD x.i 0)) 3 1 w) ?_
     ·kernel_rfl
     refine l0 ?_
     refine lE ?_
     refine gA ([2] ++ [4]) 1 ?_
     refine gD 15 ?_
     refine lA ([4, 4] ++ [2] ++ [4]) 0 ?_
     refine lE ?_
     refine gA ([2]) 0 ?_
     refine gD 15 ?_
     refine lA ([4, 4] ++ [2] ++ [4]) 0 ?_
     refine lE ?_
     refine gU 16 ([2]) 0 ?_
     refine g_val _ _ ?_ (fun w _hs => nat_succ (P := Try.prog) (t := 3) (x := .tmp 15) (y := .const (.int .i64 1)) (m := x.i) (w := w) kR (by omega)) ?_
     ·kernel_rfl
     refine g0 ?_
     refine g_take 4 ?_
     refine g_hook (hN (x.next hxs ⟨wr x.a.nat (nth l (ss.getD x.i 0)).nat, x.a.m0, x.a.m1, x.a.m2, (wr x.a.m3 (nth l (ss.getD x.i 0)).str), x.a.l0, (wr x.a.l1 (nth l (ss.getD x.i 0)).shr), x.a.l2, x.a.l3⟩ (by unfold sumS; rw [if_pos h7, hso, hsh, beside7 h7]; rfl)) hms) kR kR kR (by unfold Known; kernel_rfl) kR kR
    case t2 =>
     refine g_rw 23 (nodV (nth l (ss.getD x.i 0))) (nodV { (nth l (ss.getD x.i 0)) with kind := 7, so := 3, sho := 2 }) kR (sum_lit h7 hso hsh) ?_
     refine gN fun b4 hb4 => ?_
     refine gA (List.replicate 20 4) 2 ?_
     refine gD 6 ?_
     refine lA ([2] ++ List.replicate 19 4) 0 ?_
     refine l_callq _ _ _ ?_ (fun w hs => racross_7 (nth l (ss.getD x.i 0)) 3 2 w) ?_
     ·kernel_rfl
     refine l0 ?_
     refine lE ?_
     refine gA ([2] ++ [4]) 1 ?_
     refine gD 15 ?_
     refine lA ([4, 4] ++ [2] ++ [4]) 0 ?_
     refine lE ?_
     refine gA ([2]) 0 ?_
     refine gD 15 ?_
     refine lA ([4, 4] ++ [2] ++ [4]) 0 ?_
     refine lE ?_
     refine gU 16 ([2]) 0 ?_
     refine g_val _ _ ?_ (fun w _hs => nat_succ (P := Try.prog) (t := 3) (x := .tmp 15) (y := .const (.int .i64 1)) (m := x.i) (w := w) kR (by omega)) ?_
     ·kernel_rfl
     refine g0 ?_
     refine g_take 4 ?_
     refine g_hook (hN (x.next hxs ⟨wr x.a.nat (nth l (ss.getD x.i 0)).nat, x.a.m0, x.a.m1, x.a.m2, (wr x.a.m3 (nth l (ss.getD x.i 0)).str), x.a.l0, x.a.l1, (wr x.a.l2 (nth l (ss.getD x.i 0)).shr), x.a.l3⟩ (by unfold sumS; rw [if_pos h7, hso, hsh, beside7 h7]; rfl)) hms) kR kR kR (by unfold Known; kernel_rfl) kR kR
    case t3 =>
     refine g_rw 23 (nodV (nth l (ss.getD x.i 0))) (nodV { (nth l (ss.getD x.i 0)) with kind := 7, so := 3, sho := 3 }) kR (sum_lit h7 hso hsh) ?_
     refine gN fun b4 hb4 => ?_
     refine gA (List.replicate 20 4) 2 ?_
     refine gD 6 ?_
     refine lA ([2] ++ List.replicate 19 4) 0 ?_
     refine l_callq _ _ _ ?_ (fun w hs => racross_7 (nth l (ss.getD x.i 0)) 3 3 w) ?_
     ·kernel_rfl
     refine l0 ?_
     refine lE ?_
     refine gA ([2] ++ [4]) 1 ?_
     refine gD 15 ?_
     refine lA ([4, 4] ++ [2] ++ [4]) 0 ?_
     refine lE ?_
     refine gA ([2]) 0 ?_
     refine gD 15 ?_
     refine lA ([4, 4] ++ [2] ++ [4]) 0 ?_
     refine lE ?_
     refine gU 16 ([2]) 0 ?_
     refine g_val _ _ ?_ (fun w _hs => nat_succ (P := Try.prog) (t := 3) (x := .tmp 15) (y := .const (.int .i64 1)) (m := x.i) (w := w) kR (by omega)) ?_
     ·kernel_rfl
     refine g0 ?_
     refine g_take 4 ?_
     refine g_hook (hN (x.next hxs ⟨wr x.a.nat (nth l (ss.getD x.i 0)).nat, x.a.m0, x.a.m1, x.a.m2, (wr x.a.m3 (nth l (ss.getD x.i 0)).str), x.a.l0, x.a.l1, x.a.l2, (wr x.a.l3 (nth l (ss.getD x.i 0)).shr)⟩ (by unfold sumS; rw [if_pos h7, hso, hsh, beside7 h7]; rfl)) hms) kR kR kR (by unfold Known; kernel_rfl) kR kR
  case other =>
   refine Decidable.byCases (fun h10 : (nth l (ss.getD x.i 0)).kind = 10 => ?yes) (fun h10 : (nth l (ss.getD x.i 0)).kind ≠ 10 => ?no)
   case yes =>
    have hmem : ss.getD x.i 0 ∈ startsN l W := by rw [hss]; exact getD_mem hxs
    refine Exists.elim (hG.dsc hz h10) fun s1 h => Exists.elim h fun s2 h => Exists.elim h fun e hD => ?_
    refine Exists.elim (show ∃ y, seg l (s2 + 1) e = y from ⟨_, rfl⟩) fun y2 e2 => ?_
    have hrc := hrec _ hmem s1 s2 e hD y2 e2
    refine g_rw 23 (nodV (nth l (ss.getD x.i 0))) (nodV { (nth l (ss.getD x.i 0)) with kind := 10 }) kR (ten_lit h10) ?_
    refine gN fun b8 hb8 => ?_
    refine gA (List.replicate 20 4) 2 ?_
    refine g_drawU 13 (WSum y2 bl ol l.length cl b5 x.a.nat q.A n q.c q.b x.i (ss.getD x.i 0) (sa (ss.getD x.i 0))) [(53, .int .i64 (wr x.a.nat (sa (ss.getD x.i 0)).nat)), (54, .pointer (some ⟨b5, 0, none⟩))] [.row bl ol 19 l.length (rowOf l), .obj true b4 (totC acc0) 81, .obj true b5 (totC x.a) 81, .row q.b 0 1 n (intR ss), .obj true b8 (nodC { (nth l (ss.getD x.i 0)) with kind := 10 }) 63] kR kR kR WSum_kept kR ⟨fun u w h => h, fun u w h => h, trivial⟩ kR ⟨⟨⟨⟨⟨⟨⟨⟨⟨⟨⟨⟨⟨trivial, ?o0⟩, ?o1⟩, ?o2⟩, ?o3⟩, ?o4⟩, ?o5⟩, ?o6⟩, ?o7⟩, ?o8⟩, ?o9⟩, ?o10⟩, ?o11⟩, ?o12⟩ ?_
    case o0 =>
     exact aVal1 42 [(5, some (.pointer (some ⟨b5, 0, none⟩)))] [] kR kR kR kR fun w hs => ⟨.pointer (some ⟨b5, 0, none⟩), by kernel_rfl, by kernel_rfl, rfl⟩
    case o1 =>
     exact aVal1 43 [(42, none)] [2] kR kR kR kR fun w hs v hv => by
      obtain rfl := (show v = .pointer (some ⟨b5, 0, none⟩) from hv)
      exact ⟨.int .i64 x.a.nat, by kernel_rfl, by kernel_rfl, rfl⟩
    case o2 =>
     exact aVal1 44 [(0, some (.slice (some ⟨bl, ol, none⟩) l.length cl))] [] kR kR kR kR fun w hs => ⟨.slice (some ⟨bl, ol, none⟩) l.length cl, by kernel_rfl, by kernel_rfl, rfl⟩
    case o3 =>
     exact aVal1 45 [(6, some (.slice q.A n q.c))] [] kR kR kR kR fun w hs => ⟨.slice q.A n q.c, by kernel_rfl, by kernel_rfl, rfl⟩
    case o4 =>
     exact aVal1 46 [(7, some (.int .i64 (x.i : Int)))] [] kR kR kR kR fun w hs => ⟨.int .i64 (x.i : Int), by kernel_rfl, by kernel_rfl, rfl⟩
    case o5 =>
     exact aSem1 47 [(45, none), (46, none)] kR kR kR kR fun w hs v hv v2 hv2 => by
      obtain rfl := (show v = .slice (some ⟨q.b, 0, none⟩) n q.c from (show v = .slice q.A n q.c from hv).trans hq6)
      obtain rfl := (show v2 = .int .i64 (x.i : Int) from hv2)
      exact ⟨idxSem 25 (.slice (some ⟨q.b, 0, none⟩) n q.c) (.int .i64 (x.i : Int)), .pointer (some ⟨q.b, 0 + x.i * 1, none⟩), by kernel_rfl, idx_run (P := Try.prog) (T := 25) (E := 3) (b := q.b) (o := 0) (n := n) (c := q.c) (k := x.i) (sz := 1) (kk := .i64) w kR kR hx, rfl⟩
    case o6 =>
     exact aSem1 48 [(47, none)] kR kR kR kR fun w hs v hv => by
      obtain rfl := (show v = .pointer (some ⟨q.b, 0 + x.i * 1, none⟩) from hv)
      exact ⟨loadSem 3 (.pointer (some ⟨q.b, 0 + x.i * 1, none⟩)), .int .i64 ((ss.getD x.i 0 : Nat) : Int), by kernel_rfl, intLoad (ss := ss) (b := q.b) (k := x.i) (n := n) (j := 3) hs kR hx, rfl⟩
    case o7 =>
     exact aCall1 49 [(44, none), (48, none)] kR kR kR kR fun w hs v hv v2 hv2 => by
      obtain rfl := (show v = .slice (some ⟨bl, ol, none⟩) l.length cl from hv)
      obtain rfl := (show v2 = .int .i64 ((ss.getD x.i 0 : Nat) : Int) from hv2)
      exact ⟨74, #[.slice (some ⟨bl, ol, none⟩) l.length cl, .int .i64 ((ss.getD x.i 0 : Nat) : Int)], by kernel_rfl, three_is l bl ol cl W _ s1 s2 e hD (hcl _ hmem h10) y2 e2 (hs.read [0] [.row bl ol 19 l.length (rowOf l)] kR)⟩
    case o8 =>
     exact aVal1 50 [(49, none)] [] kR kR kR kR fun w hs v hv => by
      obtain ⟨v0, v1, v2, rfl, h2⟩ := (show ThreeIs y2 v w from hv)
      obtain ⟨A, c, b, rfl, h3⟩ := h2
      exact ⟨.slice A y2.length c, by kernel_rfl, by kernel_rfl, ⟨A, c, b, rfl, h3⟩⟩
    case o9 =>
     exact aCall1 51 [(50, none)] kR kR kR kR fun w hs v hv => by
      obtain ⟨A, c, b, rfl, h3, h4, h5⟩ := (show ListIs y2 v w from hv)
      exact ⟨88, #[.slice A y2.length c, .bool false], by kernel_rfl, (hrc w A c b h3 h4 h5).mono fun e w' ⟨he, hk⟩ => ⟨_, he, hk, rfl⟩⟩
    case o10 =>
     exact aVal1 52 [(51, none)] [] kR kR kR kR fun w hs v hv => by
      obtain rfl := (show v = totV (sa (ss.getD x.i 0)) from hv)
      exact ⟨.int .i64 (sa (ss.getD x.i 0)).nat, by kernel_rfl, by kernel_rfl, rfl⟩
    case o11 =>
     exact aVal1 53 [(43, none), (52, none)] [] kR kR kR kR fun w hs v hv v2 hv2 => by
      obtain rfl := (show v = .int .i64 x.a.nat from hv)
      obtain rfl := (show v2 = .int .i64 (sa (ss.getD x.i 0)).nat from hv2)
      exact ⟨.int .i64 (wr x.a.nat (sa (ss.getD x.i 0)).nat), by kernel_rfl, by kernel_rfl, rfl⟩
    case o12 =>
     exact aVal1 54 [(5, some (.pointer (some ⟨b5, 0, none⟩)))] [] kR kR kR kR fun w hs => ⟨.pointer (some ⟨b5, 0, none⟩), by kernel_rfl, by kernel_rfl, rfl⟩
    refine gU 16 ([2] ++ [4]) 1 ?_
    refine g_val _ _ ?_ (fun w _hs => nat_succ (P := Try.prog) (t := 3) (x := .tmp 15) (y := .const (.int .i64 1)) (m := x.i) (w := w) kR (by omega)) ?_
    ·kernel_rfl
    refine g0 ?_
    refine g_take 4 ?_
    refine g_hook (hN (x.next hxs { x.a with nat := wr x.a.nat (sa (ss.getD x.i 0)).nat } (sumS_no h7 (by unfold besideV; rw [if_pos h10]))) hms) kR kR kR (by unfold Known; kernel_rfl) kR kR
   case no =>
    refine gN fun b4 hb4 => ?_
    refine gA (List.replicate 20 4) 1 ?_
    refine g_dec 38 ((nth l (ss.getD x.i 0)).kind == 10) kR (fun h38 => ?_) (fun h38 => ?_)
    ·exact absurd h38 (by clear hN hrec; intro hx; first | exact absurd (eq_of_beq hx) h7 | exact absurd (eq_of_beq hx) h10)
    refine gA [] 1 ?_
    refine gD 6 ?_
    refine lA ([2] ++ List.replicate 19 4) 0 ?_
    refine l_callq _ _ _ ?_ (fun w hs => racross_any (nth l (ss.getD x.i 0)) w) ?_
    ·kernel_rfl
    refine l0 ?_
    refine lE ?_
    refine gA ([2] ++ [4]) 0 ?_
    refine g_dec 57 ((nth l (ss.getD x.i 0)).kind == 7) kR (fun h57 => ?_) (fun h57 => ?_)
    ·exact absurd h57 (by clear hN hrec; intro hx; first | exact absurd (eq_of_beq hx) h7 | exact absurd (eq_of_beq hx) h10)
    refine gU 16 [] 1 ?_
    refine g_val _ _ ?_ (fun w _hs => nat_succ (P := Try.prog) (t := 3) (x := .tmp 15) (y := .const (.int .i64 1)) (m := x.i) (w := w) kR (by omega)) ?_
    ·kernel_rfl
    refine g0 ?_
    refine g_take 4 ?_
    refine g_hook (hN (x.next hxs { x.a with nat := wr x.a.nat (rAcrossV (nth l (ss.getD x.i 0))) } (sumS_no h7 (by unfold besideV; rw [if_neg h10]))) hms) kR kR kR (by unfold Known; kernel_rfl) kR kR
 have hx : ¬ x.i < ss.length := fun hx => of_decide_eq_false hd (Int.ofNat_lt.2 (hn ▸ hx))
 refine gA (List.replicate 9 2 ++ List.replicate 9 1) 1 ?_
 refine g_ret (List.replicate 9 1) (Value.agg (Array.mk [Value.int IntKind.i64 x.a.nat, Value.int IntKind.i64 x.a.m0, Value.int IntKind.i64 x.a.m1, Value.int IntKind.i64 x.a.m2, Value.int IntKind.i64 x.a.m3, Value.int IntKind.i64 x.a.l0, Value.int IntKind.i64 x.a.l1, Value.int IntKind.i64 x.a.l2, Value.int IntKind.i64 x.a.l3])) kR kR kR fun w' hs => ?_
 exact ⟨sum_ret (x.done hx), hs.kk⟩
end Go.Proofs.Ytcncfmjfgdbfeaa
