/- layer 11, the document's: Pruned. -/
import Derived.Test.YtcncfmjfgdbfeabM43
namespace Go.Proofs.Ytcncfmjfgdbfeab
set_option maxRecDepth 100000
set_option maxHeartbeats 8000000
open Go.RowKit
theorem rsolid_any (n : Nod) (w : World) : Calls Try.prog 53 #[nodV n] w fun e w' => e = .returned (.bool (solidB n.kind)) ∧ Kept w w' := by
 refine g_enter (args := [nodV n]) [] [] Try.func53 rfl Try.ntmps53 kL (sat0 w) ?_
 refine g0 ?_
 refine gN fun b0 hb0 => ?_
 refine gA ([0]) 0 ?_
 refine g_dec 6 (n.kind == 4) kR (fun h6 => ?_) (fun h6 => ?_)
 ·refine gA [] 6 ?_
  refine gR (Value.bool true) fun w' hs => ?_
  exact ⟨ret_bool (by clear hs; simp at *; first | (simp [solidB, *]; done) | (rw [Bool.eq_iff_iff]; simp [solidB, *]; done)), hs.kk⟩
 refine gA ([0]) 3 ?_
 refine g_dec 11 (n.kind == 5) kR (fun h11 => ?_) (fun h11 => ?_)
 ·refine gA [] 3 ?_
  refine gR (Value.bool true) fun w' hs => ?_
  exact ⟨ret_bool (by clear hs; simp at *; first | (simp [solidB, *]; done) | (rw [Bool.eq_iff_iff]; simp [solidB, *]; done)), hs.kk⟩
 refine gA ([0]) 3 ?_
 refine gR (Value.bool (n.kind == 3)) fun w' hs => ?_
 exact ⟨ret_bool (by clear hs; simp at *; first | (simp [solidB, *]; done) | (rw [Bool.eq_iff_iff]; simp [solidB, *]; done)), hs.kk⟩
theorem rfalls_any (n : Nod) (w : World) : Calls Try.prog 54 #[nodV n] w fun e w' => e = .returned (.bool (fallsB n.kind)) ∧ Kept w w' := by
 refine g_enter (args := [nodV n]) [] [] Try.func54 rfl Try.ntmps54 kL (sat0 w) ?_
 refine g0 ?_
 refine gN fun b0 hb0 => ?_
 refine gA ([0]) 0 ?_
 refine g_dec 6 (n.kind == 7) kR (fun h6 => ?_) (fun h6 => ?_)
 ·refine gA [] 6 ?_
  refine gR (Value.bool true) fun w' hs => ?_
  exact ⟨ret_bool (by clear hs; simp at *; first | (simp [fallsB, *]; done) | (rw [Bool.eq_iff_iff]; simp [fallsB, *]; done)), hs.kk⟩
 refine gA ([0]) 3 ?_
 refine g_dec 11 (n.kind == 8) kR (fun h11 => ?_) (fun h11 => ?_)
 ·refine gA [] 3 ?_
  refine gR (Value.bool true) fun w' hs => ?_
  exact ⟨ret_bool (by clear hs; simp at *; first | (simp [fallsB, *]; done) | (rw [Bool.eq_iff_iff]; simp [fallsB, *]; done)), hs.kk⟩
 refine gA ([0]) 3 ?_
 refine gR (Value.bool (n.kind == 9)) fun w' hs => ?_
 exact ⟨ret_bool (by clear hs; simp at *; first | (simp [fallsB, *]; done) | (rw [Bool.eq_iff_iff]; simp [fallsB, *]; done)), hs.kk⟩
theorem pruned_len (T : Tp) {l : List Nod} {W : Wk} : ∀ (f p : Nat), Ch W.beh p l.length → (prunedS T l W (itemsF W.beh l.length f p)).length ≤ l.length - p + 1
 | 0, p, _ => by simp [itemsF, prunedS]
 | f + 1, p, h => by
  unfold itemsF
  by_cases hp : p < l.length
  ·rw [if_pos hp, prunedS]
   have hle := h.le
   cases h with
   | refl => omega
   | step h1 h2 h3 =>
    have h4 := h3.le
    have ih := pruned_len T f (W.beh.getD p 0) h3
    cases solidB (nth l p).kind with
    | true => simp only [cond_true, List.length_cons, seg_len (Nat.le_refl _)]; omega
    | false =>
     rw [cond_false, List.length_append]
     cases fallsB (nth l p).kind with
     | true => simp only [cond_true, List.length_nil]; omega
     | false => simp only [cond_false, seg_len h4]; omega
  rw [if_neg hp]; simp [prunedS]
theorem prunedV_len (T : Tp) {l : List Nod} {W : Wk} (hG : Good l W) : (prunedV T l W).length ≤ 2001 := by
 have h1 := pruned_len T l.length 0 (good_ch hG.walk hG.os).1
 have h2 := hG.le
 unfold prunedV startsV
 omega
theorem ch_inv {beh : List Nat} {s e : Nat} (h : Ch beh s e) : s = e ∨ (s < beh.length ∧ s < beh.getD s 0 ∧ Ch beh (beh.getD s 0) e) := by
 cases h with
 | refl => exact .inl rfl
 | step h1 h2 h3 => exact .inr ⟨h1, h2, h3⟩
structure RQX (T : Tp) (l : List Nod) (W : Wk) (ss : List Nat) where
 i : Nat
 q : QX T l W
 ch : Ch W.beh q.x.p l.length
 hd : ss.drop i = itemsF W.beh l.length q.x.f q.x.p
section
variable {T : Tp} {l : List Nod} {W : Wk} {ss : List Nat}
structure RQF (T : Tp) (l : List Nod) (W : Wk) (ss : List Nat) (x : RQX T l W ss) (e : Nat) : Prop where
 p : ss.getD x.i 0 = x.q.x.p
 lt : x.q.x.p < l.length
 he : W.beh.getD x.q.x.p 0 = e
 hlt : x.q.x.p < e
 le : e ≤ l.length
 ch : Ch W.beh e l.length
 nx : ss.drop (x.i + 1) = itemsF W.beh l.length (x.q.x.f - 1) e
theorem RQX.at_ (x : RQX T l W ss) (h : x.i < ss.length) : RQF T l W ss x (W.beh.getD x.q.x.p 0) := by
 have hd := x.hd
 have hlt : x.q.x.p < l.length := by
  apply Classical.byContradiction
  intro hn
  have : itemsF W.beh l.length x.q.x.f x.q.x.p = [] := by
   cases x.q.x.f with
   | zero => rfl
   | succ f => simp [itemsF, hn]
  rw [this, List.drop_eq_nil_iff] at hd
  omega
 rw [x.q.x.step hlt, List.drop_eq_getElem_cons h] at hd
 injection hd with h1 h2
 rcases ch_inv x.ch with hc | ⟨a1, a2, a3⟩
 ·omega
 exact ⟨by rw [List.getD_eq_getElem?_getD, List.getElem?_eq_getElem h]; exact h1, hlt, rfl, a2, a3.le, a3, h2⟩
theorem RQX.done (x : RQX T l W ss) (h : ¬ x.i < ss.length) : prunedV T l W = x.q.k.y := by
 have hd := x.hd
 rw [List.drop_of_length_le (by omega)] at hd
 have := x.q.inv
 rw [← hd] at this
 rw [← this]
 simp [prunedS]
def RQX.fall (x : RQX T l W ss) {e : Nat} (F : RQF T l W ss x e) (hs : solidB (nth l x.q.x.p).kind = false) (hf : fallsB (nth l x.q.x.p).kind = true) : RQX T l W ss := ⟨x.i + 1, x.q.fall e F.lt F.he F.hlt hs hf, F.ch, F.nx⟩
def RQX.keep (x : RQX T l W ss) {e : Nat} (F : RQF T l W ss x e) (hs : solidB (nth l x.q.x.p).kind = false) (hf : fallsB (nth l x.q.x.p).kind = false) {w0 : World} {bs : List Nat} (g : GrowX w0 bs (rowOf l) x.q.x.p (e - x.q.x.p) 19 x.q.k.n x.q.k.oc) : RQX T l W ss := ⟨x.i + 1, x.q.keep e F.lt F.he F.hlt F.le hs hf g, F.ch, F.nx⟩
end
theorem seg_to {P : Program} {T E : TypeId} {b o n c s e sz : Nat} {kk kl : IntKind} (w : World) (hT : P.underlying T = some (.slice E)) (hs : cellsN P E = some sz) (hse : s < e) (hn : e ≤ c) :
  (sliceSem T (.slice (some ⟨b, o, none⟩) n c) (some (.int kk s)) (some (.int kl e)) none).run P w = .ok (.value (.slice (some ⟨b, o + s * sz, none⟩) (e - s) (c - s))) w := by
 rw [← tail_at (show s < c by omega)]
 exact seg_run w hT hs (Nat.le_of_lt hse) hn
def refNat (a h : Int) : Int := if (if IntKind.i64.wrap (a - h) > 0 then IntKind.i64.wrap (a - h) else 0) < 1073741823 then if IntKind.i64.wrap (a - h) > 0 then IntKind.i64.wrap (a - h) else 0 else 1073741823
theorem refNat_eq (a h : Int) : refNat a h = topNat a h := by
 unfold refNat topNat
 generalize IntKind.i64.wrap (a - h) = z
 split <;> split <;> (try split) <;> (try split) <;> omega
def refN (a0 a1 a2 a3 a4 h : Int) : Nod := ⟨7, 0, 0, 0, 0, 0, 0, refNat a0 h, a1, a2, a3, a4, 0, 0, 0, 0, 0, 10, ⟨#[]⟩⟩
theorem refN_eq (T : Tp) (h : Int) : T.skip h = refN T.a0 T.a1 T.a2 T.a3 T.a4 h := by unfold refN; rw [refNat_eq]; rfl
theorem cat_rows2 {y : List Nod} {k : Nat} (hk : y.length = k) {n : Nod} {l : List Nod} {p r : Nat} (hp : p + r = l.length) {z : List Nod} (hz : y ++ (n :: seg l p l.length) = z) {c4 c5 c6 : List Value}
  (h4 : c4.take (k * 19) = rowsL (rowOf y) 0 k) (h5 : c5.take ((k + 1) * 19) = c4.take (k * 19) ++ nodC n) (h6 : c6.take ((k + 1 + r) * 19) = c5.take ((k + 1) * 19) ++ rowsL (rowOf l) p r) : c6.take (z.length * 19) = rowsL (rowOf z) 0 z.length :=
 cat_rows hk hp hz (c0 := []) (c4 := c4) (c5 := c5) (by rw [Nat.zero_add, h4]; simp) (by rw [Nat.zero_add]; exact h5) (by rw [Nat.zero_add]; exact h6)
theorem intLoadP {ss : List Nat} {b k j n p : Nat} (hp : ss.getD k 0 = p) {w0 w : World} {bs : List Nat} {hp' : List HE} (hw : Sat w0 bs hp' w) (hj : hp'[j]? = some (.row b 0 1 n (intR ss))) (hk : k < n) :
  (loadSem 3 (.pointer (some ⟨b, 0 + k * 1, none⟩))).run Try.prog w = .ok (.value (.int .i64 ((p : Nat) : Int))) w := hp ▸ intLoad hw hj hk
theorem rpruned_row (T : Tp) (l : List Nod) (bl ol cl : Nat) (W : Wk) (hG : Good l W) (hcl : l.length ≤ cl) (Z : List Nod) (hZ : prunedV T l W = Z) (w : World) (hq : Sat w [] [.row bl ol 19 l.length (rowOf l)] w) :
  Calls Try.prog 29 #[.slice (some ⟨bl, ol, none⟩) l.length cl, T.v] w fun e w' => ∃ q : KP, e = .returned (.slice q.A q.n q.c) ∧ Sat w [] [q.e] w' ∧ q.y = Z := by
 have hgl := hG.le
 have hzl := prunedV_len T hG
 rw [hZ] at hzl
 have hch := (good_ch hG.walk hG.os).1
 refine Exists.elim (show ∃ n, (startsN l W).length = n from ⟨_, rfl⟩) fun n hn => ?_
 have hnl : n ≤ l.length := by rw [← hn]; exact items_le
 refine Exists.elim (show ∃ ss, startsN l W = ss from ⟨_, rfl⟩) fun ss hss => ?_
 rw [hss] at hn
 have hdone := fun (x : RQX T l W ss) => x.done
 have hsol0 := fun (x : RQX T l W ss) => x.q.solid
 rw [hZ] at hdone hsol0
 have hfirst : RQX T l W ss := ⟨0, .first, hch, hss.symm⟩
 refine Exists.elim (show ∃ x0 : RQX T l W ss, x0.i = 0 ∧ x0.q = .first from ⟨⟨0, .first, hch, hss.symm⟩, rfl, rfl⟩) fun x0 hx0 => ?_
 by_cases hn0 : n = 0
 ·have hm0 : [] = Z := by
   have := hdone x0 (by rw [hx0.1]; omega)
   rw [hx0.2] at this
   exact this.symm
  subst hn0
  refine g_enter (args := [.slice (some ⟨bl, ol, none⟩) l.length cl, T.v]) [] [.row bl ol 19 l.length (rowOf l), noneE] Try.func29 rfl Try.ntmps29 kL hq.dummy ?_
  refine g0 ?_
  refine gN fun b3 hb3 => ?_
  refine g0 ?_
  refine g_call (X := NewI w ss) _ _ ?_ (fun q => .slice q.A 0 q.c) (fun q => [.row bl ol 19 l.length (rowOf l), noneE, .obj true b3 T.cs 24] ++ [.row q.b 0 1 0 (intR ss)])
   (fun w1 hs => (hss ▸ rstarts_row l bl ol cl W hG hgl 0 (hss ▸ hn) w1 (hs.read [0] [.row bl ol 19 l.length (rowOf l)] kR) : Calls Try.prog 30 #[.slice (some ⟨bl, ol, none⟩) l.length cl] w1 fun e w' => ∃ q : NewI w1 ss, e = .returned (.slice q.A 0 q.c) ∧ Sat w1 [] [.row q.b 0 1 0 (intR ss)] w').mono fun e w2 ⟨q, h1, h2⟩ => ⟨⟨q.A, q.c, q.b, q.ax, fun h => Nat.le_trans hs.kept.size (q.new h)⟩, h1, (hs.at kR).moreRow h2 (fun h => absurd h (Nat.lt_irrefl 0))⟩) (fun q => ?_)
  ·kernel_rfl
  refine g0 ?_
  refine g_unroll 2 kR ?_
  refine gA [] 1 ?_
  refine gR (Value.slice none 0 0) fun w' hs => ?_
  exact ⟨.none, rfl, hs.pick [1] (by decide) kR, hm0⟩
 refine g_enter (args := [.slice (some ⟨bl, ol, none⟩) l.length cl, T.v]) [] [.row bl ol 19 l.length (rowOf l), noneE] Try.func29 rfl Try.ntmps29 kL hq.dummy ?_
 refine g0 ?_
 refine gN fun b3 hb3 => ?_
 refine g0 ?_
 refine g_call (X := { q : NewI w ss // q.A = some ⟨q.b, 0, none⟩ }) _ _ ?_ (fun q => .slice (some ⟨q.1.b, 0, none⟩) n q.1.c) (fun q => [.row bl ol 19 l.length (rowOf l), noneE, .obj true b3 T.cs 24] ++ [.row q.1.b 0 1 n (intR ss)])
  (fun w1 hs => (hss ▸ rstarts_row l bl ol cl W hG hgl n (hss ▸ hn) w1 (hs.read [0] [.row bl ol 19 l.length (rowOf l)] kR) : Calls Try.prog 30 #[.slice (some ⟨bl, ol, none⟩) l.length cl] w1 fun e w' => ∃ q : NewI w1 ss, e = .returned (.slice q.A n q.c) ∧ Sat w1 [] [.row q.b 0 1 n (intR ss)] w').mono fun e w2 ⟨q, h1, h2⟩ => ⟨⟨⟨q.A, q.c, q.b, q.ax, fun h => Nat.le_trans hs.kept.size (q.new h)⟩, q.ax.resolve_left (by omega)⟩, h1.trans (congrArg (fun z => Ending.returned (Value.slice z n q.c)) (q.ax.resolve_left (by omega))), (hs.at kR).moreRow h2 (fun h => q.new (hn ▸ h))⟩) (fun q => ?_)
 ·kernel_rfl
 refine g0 ?_
 refine g_loopN (X := RQX T l W ss) (fun x => [(5, .slice x.q.k.A x.q.k.n x.q.k.c), (7, .int .i64 ((x.i : Nat) : Int))]) (fun x => [.row bl ol 19 l.length (rowOf l), x.q.k.e, .obj true b3 T.cs 24, .row q.1.b 0 1 n (intR ss)]) (fun x => n - x.i) ⟨0, .first, hch, hss.symm⟩ kR (by unfold Known; kernel_rfl) kR fun x N hN => ?_
 refine g0 ?_
 refine g_dec 15 (decide ((x.i : Int) < (n : Int))) kR (fun hd => ?_) (fun hd => ?_)
 ·have hx : x.i < n := Int.ofNat_lt.1 (of_decide_eq_true hd)
  have hxs : x.i < ss.length := hn.symm ▸ hx
  have hms : n - (x.i + 1) < n - x.i := Nat.sub_lt_sub_left hx (Nat.lt_succ_self _)
  refine Exists.elim (show ∃ e, RQF T l W ss x e from ⟨_, x.at_ hxs⟩) fun e F => ?_
  have hlt := F.lt
  have he1 := F.hlt
  have he2 := F.le
  have hun := x.q.hn
  have hm1 : x.q.x.p + (e - x.q.x.p) ≤ l.length := by omega
  have hm2 : 0 < e - x.q.x.p := by omega
  have hm3 : x.q.k.n + (e - x.q.x.p) ≤ 9223372036854775807 := by omega
  have hm4 : (x.q.k.n + (e - x.q.x.p)) * 160 ≤ 140737488355328 := by omega
  by_cases hsol : solidB (nth l x.q.x.p).kind = true
  ·have hS : ∀ w, Calls Try.prog 53 #[nodV (nth l x.q.x.p)] w fun e w' => e = .returned (.bool true) ∧ Kept w w' := fun w => hsol ▸ rsolid_any (nth l x.q.x.p) w
   have hz := hsol0 x hlt hsol
   rw [refN_eq] at hz
   have hzc := cat_len x.q.k.hn (show x.q.x.p + (l.length - x.q.x.p) = l.length by omega) hz
   have hzp : 0 < Z.length := solid_pos hz
   have hs1 : x.q.k.n + 1 ≤ 9223372036854775807 := by omega
   have hs2 : (x.q.k.n + 1) * 160 ≤ 140737488355328 := by omega
   have ht0 : x.q.x.p + (l.length - x.q.x.p) = l.length := by omega
   have ht1 : x.q.x.p + (l.length - x.q.x.p) ≤ l.length := by omega
   have ht2 : x.q.k.n + 1 + (l.length - x.q.x.p) ≤ 9223372036854775807 := by omega
   have ht3 : (x.q.k.n + 1 + (l.length - x.q.x.p)) * 160 ≤ 140737488355328 := by omega
   refine gU 21 [] 1 ?_
   refine g_val _ _ ?_ (fun w _hs => idx_run (P := Try.prog) (T := 41) (E := 3) (b := q.1.b) (o := 0) (n := n) (c := q.1.c) (k := x.i) (sz := 1) (kk := .i64) w kR kR hx) ?_
   ·kernel_rfl
   refine g_val _ _ ?_ (fun w _hs => intLoadP (ss := ss) (b := q.1.b) (k := x.i) (n := n) (j := 3) F.p _hs kR hx) ?_
   ·kernel_rfl
   refine g_val _ _ ?_ (fun w _hs => idx_run (P := Try.prog) (T := 22) (E := 55) (b := bl) (o := ol) (n := l.length) (c := cl) (k := x.q.x.p) (sz := 19) (kk := .i64) w kR kR F.lt) ?_
   ·kernel_rfl
   refine g_val _ _ ?_ (fun w _hs => nodeLoad (l := l) (bl := bl) (ol := ol) (k := x.q.x.p) (j := 0) _hs kR F.lt) ?_
   ·kernel_rfl
   refine gN fun b4 hb4 => ?_
   refine gA (List.replicate 38 4) 0 ?_
   refine g_callq _ _ _ ?_ (fun w hs => hS w) ?_
   ·kernel_rfl
   refine gA (List.replicate 5 2) 1 ?_
   refine gN fun b5 hb5 => ?_
   refine gA (List.replicate 5 5 ++ [2] ++ [4] ++ List.replicate 6 5) 0 ?_
   refine gN fun b6 hb6 => ?_
   refine g_append 1 6 22 55 55 x.q.k.A x.q.k.n x.q.k.c 19 1 1 b6 160 x.q.k.oc (nodC (refN T.a0 T.a1 T.a2 T.a3 T.a4 (nth l x.q.x.p).h)) true kR kR kR (info_of kR) (x.q.k.row kR) kR rfl (nodC_ones _) Nat.one_pos hs1 hs2 fun bA capA csA hbA hcA hlA htA => ?_
   refine gU 45 [] 0 ?_
   refine g_val _ _ ?_ (fun w _hs => idx_run (P := Try.prog) (T := 41) (E := 3) (b := q.1.b) (o := 0) (n := n) (c := q.1.c) (k := x.i) (sz := 1) (kk := .i64) w kR kR hx) ?_
   ·kernel_rfl
   refine g_val _ _ ?_ (fun w _hs => intLoadP (ss := ss) (b := q.1.b) (k := x.i) (n := n) (j := 3) F.p _hs kR hx) ?_
   ·kernel_rfl
   refine g_val _ _ ?_ (fun w _hs => tail_to (P := Try.prog) (T := 22) (E := 55) (b := bl) (o := ol) (n := l.length) (c := cl) (s := x.q.x.p) (kk := .i64) (sz := 19) w kR kR F.lt hcl) ?_
   ·kernel_rfl
   refine g_appendR 1 0 22 55 bA (x.q.k.n + 1) capA 19 (l.length - x.q.x.p) (cl - x.q.x.p) x.q.x.p bl ol l.length 160 (some ⟨bl, ol + x.q.x.p * 19, none⟩) csA (rowOf l) kR kR (info_of kR) kR hlA hcA kR (fun _ => rfl) (rowOf_one l) ht1 (.inr rfl) ht2 ht3 fun bB capB csB hbB hcB hlB htB => ?_
   refine g0 ?_
   refine gR (Value.slice (some (Addr.mk bB 0 none)) (x.q.k.n + 1 + (l.length - x.q.x.p)) capB) fun w' hs => ?_
   exact ⟨(CatL.mk bB capB csB (hbB.resolve_right (by simp)) (Nat.le_trans (Nat.le_of_eq hzc) hcB) hlB (cat_rows2 x.q.k.hn ht0 hz x.q.k.tk htA htB) : CatL w Z).kp hzp, congrArg (fun z => Ending.returned (Value.slice (some ⟨bB, 0, none⟩) z capB)) hzc.symm, hs.pick [1] (by decide) kR, rfl⟩
  have hsol' : solidB (nth l x.q.x.p).kind = false := by simpa using hsol
  have hS : ∀ w, Calls Try.prog 53 #[nodV (nth l x.q.x.p)] w fun e w' => e = .returned (.bool false) ∧ Kept w w' := fun w => hsol' ▸ rsolid_any (nth l x.q.x.p) w
  by_cases hfl : fallsB (nth l x.q.x.p).kind = true
  ·have hF : ∀ w, Calls Try.prog 54 #[nodV (nth l x.q.x.p)] w fun e w' => e = .returned (.bool true) ∧ Kept w w' := fun w => hfl ▸ rfalls_any (nth l x.q.x.p) w
   refine gU 21 [] 1 ?_
   refine g_val _ _ ?_ (fun w _hs => idx_run (P := Try.prog) (T := 41) (E := 3) (b := q.1.b) (o := 0) (n := n) (c := q.1.c) (k := x.i) (sz := 1) (kk := .i64) w kR kR hx) ?_
   ·kernel_rfl
   refine g_val _ _ ?_ (fun w _hs => intLoadP (ss := ss) (b := q.1.b) (k := x.i) (n := n) (j := 3) F.p _hs kR hx) ?_
   ·kernel_rfl
   refine g_val _ _ ?_ (fun w _hs => idx_run (P := Try.prog) (T := 22) (E := 55) (b := bl) (o := ol) (n := l.length) (c := cl) (k := x.q.x.p) (sz := 19) (kk := .i64) w kR kR F.lt) ?_
   ·kernel_rfl
   refine g_val _ _ ?_ (fun w _hs => nodeLoad (l := l) (bl := bl) (ol := ol) (k := x.q.x.p) (j := 0) _hs kR F.lt) ?_
   ·kernel_rfl
   refine gN fun b4 hb4 => ?_
   refine gA (List.replicate 38 4) 0 ?_
   refine g_callq _ _ _ ?_ (fun w hs => hS w) ?_
   ·kernel_rfl
   refine gA (List.replicate 19 4) 1 ?_
   refine g_callq _ _ _ ?_ (fun w hs => hF w) ?_
   ·kernel_rfl
   refine gU 17 [] 1 ?_
   refine g_val _ _ ?_ (fun w _hs => nat_succ (P := Try.prog) (t := 3) (x := .tmp 16) (y := .const (.int .i64 1)) (m := x.i) (w := w) kR (by omega)) ?_
   ·kernel_rfl
   refine g0 ?_
   refine g_take 4 ?_
   refine g_hook (hN (x.fall F hsol' hfl) hms) kR kR kR (by unfold Known; kernel_rfl) kR kR
  have hfl' : fallsB (nth l x.q.x.p).kind = false := by simpa using hfl
  have hF : ∀ w, Calls Try.prog 54 #[nodV (nth l x.q.x.p)] w fun e w' => e = .returned (.bool false) ∧ Kept w w' := fun w => hfl' ▸ rfalls_any (nth l x.q.x.p) w
  refine gU 21 [] 1 ?_
  refine g_val _ _ ?_ (fun w _hs => idx_run (P := Try.prog) (T := 41) (E := 3) (b := q.1.b) (o := 0) (n := n) (c := q.1.c) (k := x.i) (sz := 1) (kk := .i64) w kR kR hx) ?_
  ·kernel_rfl
  refine g_val _ _ ?_ (fun w _hs => intLoadP (ss := ss) (b := q.1.b) (k := x.i) (n := n) (j := 3) F.p _hs kR hx) ?_
  ·kernel_rfl
  refine g_val _ _ ?_ (fun w _hs => idx_run (P := Try.prog) (T := 22) (E := 55) (b := bl) (o := ol) (n := l.length) (c := cl) (k := x.q.x.p) (sz := 19) (kk := .i64) w kR kR F.lt) ?_
  ·kernel_rfl
  refine g_val _ _ ?_ (fun w _hs => nodeLoad (l := l) (bl := bl) (ol := ol) (k := x.q.x.p) (j := 0) _hs kR F.lt) ?_
  ·kernel_rfl
  refine gN fun b4 hb4 => ?_
  refine gA (List.replicate 38 4) 0 ?_
  refine g_callq _ _ _ ?_ (fun w hs => hS w) ?_
  ·kernel_rfl
  refine gA (List.replicate 19 4) 1 ?_
  refine g_callq _ _ _ ?_ (fun w hs => hF w) ?_
  ·kernel_rfl
  refine gA [] 1 ?_
  refine gD 13 ?_
  refine lU 56 [] 0 ?_
  refine l_val _ _ ?_ (fun w _hs => .inl (idx_run (P := Try.prog) (T := 41) (E := 3) (b := q.1.b) (o := 0) (n := n) (c := q.1.c) (k := x.i) (sz := 1) (kk := .i64) w kR kR hx)) ?_
  ·kernel_rfl
  refine l_val _ _ ?_ (fun w _hs => .inl (intLoadP (ss := ss) (b := q.1.b) (k := x.i) (n := n) (j := 3) F.p _hs kR hx)) ?_
  ·kernel_rfl
  refine lU 61 [] 0 ?_
  refine l_val _ _ ?_ (fun w _hs => .inl (idx_run (P := Try.prog) (T := 41) (E := 3) (b := q.1.b) (o := 0) (n := n) (c := q.1.c) (k := x.i) (sz := 1) (kk := .i64) w kR kR hx)) ?_
  ·kernel_rfl
  refine l_val _ _ ?_ (fun w _hs => .inl (intLoadP (ss := ss) (b := q.1.b) (k := x.i) (n := n) (j := 3) F.p _hs kR hx)) ?_
  ·kernel_rfl
  refine l_callq _ _ _ ?_ (fun w hs => rends_any l bl ol cl W hG x.q.x.p e F.lt F.he (Nat.ne_of_gt (Nat.lt_of_le_of_lt (Nat.zero_le _) F.hlt)) w (hs.read [0] [.row bl ol 19 l.length (rowOf l)] kR)) ?_
  ·kernel_rfl
  refine l_val _ _ ?_ (fun w _hs => .inl (seg_to (P := Try.prog) (T := 22) (E := 55) (b := bl) (o := ol) (n := l.length) (c := cl) (s := x.q.x.p) (e := e) (kk := .i64) (kl := .i64) (sz := 19) w kR kR F.hlt (Nat.le_trans F.le hcl))) ?_
  ·kernel_rfl
  refine lE ?_
  refine g_anyW (X := GrowX w [] (rowOf l) x.q.x.p (e - x.q.x.p) 19 x.q.k.n x.q.k.oc) (appSem 22 22 (.slice x.q.k.A x.q.k.n x.q.k.c) (.slice (some ⟨bl, ol + x.q.x.p * 19, none⟩) (e - x.q.x.p) (cl - x.q.x.p))) (fun g => .slice (some ⟨g.b, 0, none⟩) (x.q.k.n + (e - x.q.x.p)) g.cap) (fun g => [.row bl ol 19 l.length (rowOf l), .obj true g.b g.cs' 55, .obj true b3 T.cs 24, .row q.1.b 0 1 n (intR ss), .obj true b4 (nodC (nth l x.q.x.p)) 55]) kR (fun w hs => appRow_run (P := Try.prog) (hp := [.row bl ol 19 l.length (rowOf l), x.q.k.e, .obj true b3 T.cs 24, .row q.1.b 0 1 n (intR ss), .obj true b4 (nodC (nth l x.q.x.p)) 55]) (i := 1) (j := 0) (hs.at kR) kR (info_of kR) (x.q.k.row kR) kR (fun _ => rfl) (rowOf_one l) hm1 hm2 rfl hm3 hm4) (fun g => ?_)
  refine gU 17 [] 0 ?_
  refine g_val _ _ ?_ (fun w _hs => nat_succ (P := Try.prog) (t := 3) (x := .tmp 16) (y := .const (.int .i64 1)) (m := x.i) (w := w) kR (by omega)) ?_
  ·kernel_rfl
  refine g0 ?_
  refine g_take 4 ?_
  refine g_hook (hN (x.keep F hsol' hfl' g) hms) kR kR kR (by unfold Known; kernel_rfl) kR kR
 have hx : ¬ x.i < ss.length := fun hx => of_decide_eq_false hd (Int.ofNat_lt.2 (hn ▸ hx))
 refine gA [] 1 ?_
 refine gR (Value.slice x.q.k.A x.q.k.n x.q.k.c) fun w' hs => ?_
 exact ⟨x.q.k, rfl, hs.pick [1] (by decide) kR, (hdone x hx).symm⟩
end Go.Proofs.Ytcncfmjfgdbfeab
