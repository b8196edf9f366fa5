/- RB1 VCk RVk. -/
import Derived.Test.YtcncfmjfgdbfeabM33
import Derived.Test.YtcncfmjfgdbfeabNodRk
import Derived.Test.YtcncfmjfgdbfeabM32
import Derived.Test.YtcncfmjfgdbfeabM3
namespace Go.Proofs.Ytcncfmjfgdbfeab
open Go.RowKit
theorem items_mem {beh : List Nat} {s e : Nat} (h : Ch beh s e) : ∀ {f k : Nat}, k ∈ itemsF beh e f s → k < beh.length ∧ k < beh.getD k 0 ∧ beh.getD k 0 ≤ e := by
 induction h with
 | refl s =>
  intro f k hk
  rw [items_end (Nat.lt_irrefl s)] at hk
  cases hk
 | @step s e h1 h2 h3 ih =>
  intro f k hk
  cases f with
  | zero => cases hk
  | succ f =>
   have := h3.le
   simp only [itemsF] at hk
   rw [if_pos (by omega)] at hk
   rcases List.mem_cons.1 hk with rfl | hk
   ·exact ⟨h1, h2, this⟩
   exact ih hk
theorem walk_each {l : List Nod} : ∀ {n at_ : Nat} {W W' : Wk}, walkW l n at_ W = some W' → ∀ k, at_ ≤ k → k < at_ + n → rightB (nth l k) = true
 | 0, _, _, _, _, k, h1, h2 => by omega
 | n + 1, at_, W, W', h, k, h1, h2 => by
  simp only [walkW] at h
  cases hr : rightB (nth l at_) with
  | false => rw [hr] at h; cases h
  | true =>
   rw [hr, cond_true] at h
   by_cases he : k = at_
   ·rw [he]; exact hr
   split at h
   ·exact walk_each h k (by omega) (by omega)
   cases h
theorem intLoad {ss : List Nat} {b k j n : Nat} {w0 w : World} {bs : List Nat} {hp : List HE} (hw : Sat w0 bs hp w) (hj : hp[j]? = some (.row b 0 1 n (intR ss))) (hk : k < n) :
  (loadSem 3 (.pointer (some ⟨b, 0 + k * 1, none⟩))).run Try.prog w = .ok (.value (.int .i64 ((ss.getD k 0 : Nat) : Int))) w :=
 Sat.rowload1 (T := 3) (i := j) (b := b) (off := 0) (sz := 1) (n := n) (f := intR ss) (j := 0) hw hj hk kR rfl
theorem starts_mem {l : List Nod} {W : Wk} (hG : Good l W) {k : Nat} (h : k < (startsN l W).length) : (startsN l W).getD k 0 < l.length := by
 have hch := good_ch hG.walk hG.os
 have := items_mem (f := l.length) hch.1 (k := (startsN l W).getD k 0) (by
  show (startsN l W).getD k 0 ∈ startsN l W
  simp [List.getD, h])
 have h2 := hch.2
 omega
theorem rcheckv_any (l : List Nod) (bl ol cl : Nat) (v : Int) (hv : checkB l = v) (w : World) (hq : Sat w [] [.row bl ol 19 l.length (rowOf l)] w) :
  Calls Try.prog 51 #[.slice (some ⟨bl, ol, none⟩) l.length cl] w fun e w' => e = .returned (.int .i64 v) ∧ Kept w w' := by
 subst hv
 exact rcheck_any l bl ol cl w hq
theorem Good.right {l : List Nod} {W : Wk} (h : Good l W) (k : Nat) (hk : k < l.length) : rightB (nth l k) = true := walk_each h.walk k (Nat.zero_le _) (by omega)
end Go.Proofs.Ytcncfmjfgdbfeab
namespace Go.Proofs.Ytcncfmjfgdbfeab
set_option maxRecDepth 100000
set_option maxHeartbeats 8000000
open Go.RowKit
theorem Sat.rowpart {P : Program} {T : TypeId} {w0 w : World} {bs : List Nat} {hp : List HE} {i b off sz n k j m : Nat} {f : Nat → List Value} {cs : List Value} (h : Sat w0 bs hp w) (hi : hp[i]? = some (.row b off sz n f)) (hk : k < n)
  (hT : runQ P (isAgg T) = some true) (hn : cellsN P T = some m) (hl : cs.length = m) (hc : ∀ q v, cs[q]? = some v → (f k)[j + q]? = some v) : (loadSem T (.pointer (some ⟨b, off + k * sz + j, none⟩))).run P w = .ok (.value (.agg cs.toArray)) w :=
 loadN_run hT hn hl (fun q v hv => by rw [add_addr, Nat.add_assoc]; exact h.rowcell hi hk (hc q v hv))
def finB (n : Nod) : Bool := gluedB n && (decide (n.shr = 0) || decide (n.sho = 0))
theorem szfin_any (n : Nod) (w : World) : Calls Try.prog 46 #[.agg #[.int .i64 n.nat, .int .i64 n.str, .int .i64 n.shr, .int .i64 n.so, .int .i64 n.sho]] w fun e w' => e = .returned (.bool (decide (n.shr = 0) || decide (n.sho = 0))) ∧ Kept w w' := by
 refine g_enter (args := [.agg #[.int .i64 n.nat, .int .i64 n.str, .int .i64 n.shr, .int .i64 n.so, .int .i64 n.sho]]) [] [] Try.func46 rfl Try.ntmps46 kL (sat0 w) ?_
 refine g0 ?_
 refine gN fun b0 hb0 => ?_
 refine gA ([0]) 0 ?_
 refine g_dec 6 (n.shr == 0) kR (fun h6 => ?_) (fun h6 => ?_)
 ·refine gA [] 3 ?_
  refine gR (Value.bool true) fun w' hs => ?_
  exact ⟨ret_bool (by clear hs; simp at *; first | (simp [*]; done) | (rw [Bool.eq_iff_iff]; simp [*]; done)), hs.kk⟩
 refine gA ([0]) 3 ?_
 refine gR (Value.bool (n.sho == 0)) fun w' hs => ?_
 exact ⟨ret_bool (by clear hs; simp at *; first | (simp [*]; done) | (rw [Bool.eq_iff_iff]; simp [*]; done)), hs.kk⟩
theorem vfin_any (n : Nod) (w : World) : Calls Try.prog 24 #[.agg #[.int .i64 n.nat, .int .i64 n.str, .int .i64 n.shr, .int .i64 n.so, .int .i64 n.sho]] w fun e w' => e = .returned (.bool (finB n)) ∧ Kept w w' := by
 refine Exists.elim (show ∃ b, gluedB n = b from ⟨_, rfl⟩) fun b hb => ?_
 have hg : ∀ w, Calls Try.prog 40 #[.agg #[.int .i64 n.nat, .int .i64 n.str, .int .i64 n.shr, .int .i64 n.so, .int .i64 n.sho]] w fun e w' => e = .returned (.int .i64 (errG b)) ∧ Kept w w' := fun w => hb ▸ gcheck_any n.nat n.str n.shr n.so n.sho w
 unfold finB
 rw [hb]
 cases b with
 | true =>
  refine g_enter (args := [.agg #[.int .i64 n.nat, .int .i64 n.str, .int .i64 n.shr, .int .i64 n.so, .int .i64 n.sho]]) [] [] Try.func24 rfl Try.ntmps24 kL (sat0 w) ?_
  refine g0 ?_
  refine gN fun b0 hb0 => ?_
  refine gA (List.replicate 5 0) 0 ?_
  refine g_callq _ _ _ ?_ (fun w hs => hg w) ?_
  ·kernel_rfl
  refine gA (List.replicate 5 0) 1 ?_
  refine g_callq _ _ _ ?_ (fun w hs => szfin_any n w) ?_
  ·kernel_rfl
  refine g0 ?_
  refine gR (Value.bool (decide (n.shr = 0) || decide (n.sho = 0))) fun w' hs => ?_
  exact ⟨ret_bool (by clear hs; simp at *), hs.kk⟩
 | false =>
  refine g_enter (args := [.agg #[.int .i64 n.nat, .int .i64 n.str, .int .i64 n.shr, .int .i64 n.so, .int .i64 n.sho]]) [] [] Try.func24 rfl Try.ntmps24 kL (sat0 w) ?_
  refine g0 ?_
  refine gN fun b0 hb0 => ?_
  refine gA (List.replicate 5 0) 0 ?_
  refine g_callq _ _ _ ?_ (fun w hs => hg w) ?_
  ·kernel_rfl
  refine gA [] 2 ?_
  refine gR (Value.bool false) fun w' hs => ?_
  exact ⟨ret_bool (by clear hs; simp at *), hs.kk⟩
def skipOk (n : Nod) : Bool := !decide (n.kind = 7) || finB n
def skipsB (l : List Nod) (W : Wk) : Bool := (startsV l W).all fun p => skipOk (nth l p)
def vcheckE (l : List Nod) (W : Wk) : Int := bif uprightB l W then (bif skipsB l W then 0 else 30) else 50
theorem ckv_any (l : List Nod) (bl ol cl : Nat) (w : World) (v : Int) (e : checkB l = v) (hq : Sat w [] [.row bl ol 19 l.length (rowOf l)] w) :
  Calls Try.prog 44 #[.slice (some ⟨bl, ol, none⟩) l.length cl] w fun e' w' => e' = .returned (.int .i64 v) ∧ Kept w w' := by
 rw [← e]; exact check_any l bl ol cl w hq
abbrev glueC (n : Nod) : List Value := [.int .i64 n.nat, .int .i64 n.str, .int .i64 n.shr, .int .i64 n.so, .int .i64 n.sho]
theorem glueC_get (n : Nod) : ∀ q v, (glueC n)[q]? = some v → (nodC n)[7 + q]? = some v := by
 intro q v h
 match q, h with
 | 0, h => exact h
 | 1, h => exact h
 | 2, h => exact h
 | 3, h => exact h
 | 4, h => exact h
 | q + 5, h => simp [glueC] at h
structure KX (l : List Nod) (W : Wk) where
 x : PX l W
 ok : ∀ q ∈ x.pre, skipOk (nth l q) = true
def KX.first (l : List Nod) (W : Wk) : KX l W := ⟨.first l W, fun q h => by cases h⟩
theorem KX.yes {l : List Nod} {W : Wk} (u : KX l W) (h : u.x.p = l.length) : skipsB l W = true := by
 unfold skipsB
 rw [List.all_eq_true]
 intro q hq
 exact u.ok q (by rw [u.x.end_ h]; exact hq)
theorem KX.no {l : List Nod} {W : Wk} (u : KX l W) (h : u.x.p < l.length) (hb : skipOk (nth l u.x.p) = false) : skipsB l W = false := by
 unfold skipsB
 rw [List.all_eq_false]
 exact ⟨u.x.p, u.x.mem h, by rw [hb]; decide⟩
def KX.next {l : List Nod} {W : Wk} (u : KX l W) (e : Nat) (h : u.x.p < l.length) (he : W.beh.getD u.x.p 0 = e) (hlt : u.x.p < e) (hb : skipOk (nth l u.x.p) = true) : KX l W :=
 ⟨u.x.next e h he hlt, fun q hq => by
  rcases List.mem_append.1 hq with q1 | q1
  ·exact u.ok q q1
  rw [List.mem_singleton.1 q1]; exact hb⟩
theorem vcheck_up (l : List Nod) (bl ol cl : Nat) (W : Wk) (hG : Good l W) (hcl : l.length ≤ cl) (hk : checkB l = 0) (hu1 : uprightB l W = true) (v : Int) (hv : vcheckE l W = v) (w : World) (hq : Sat w [] [.row bl ol 19 l.length (rowOf l)] w) :
  Calls Try.prog 23 #[.slice (some ⟨bl, ol, none⟩) l.length cl] w fun e w' => e = .returned (.int .i64 v) ∧ Kept w w' := by
 refine g_enterM (W := w) (args := [.slice (some ⟨bl, ol, none⟩) l.length cl]) [] [.row bl ol 19 l.length (rowOf l)] Try.func23 rfl Try.ntmps23 kL hq ?_
 refine g0 ?_
 refine gN fun b2 hb2 => ?_
 refine g0 ?_
 refine g_callq _ _ _ ?_ (fun w hs => ckv_any l bl ol cl w 0 hk (hs.read [0] [.row bl ol 19 l.length (rowOf l)] kR)) ?_
 ·kernel_rfl
 refine gA [] 1 ?_
 refine g_callq _ _ _ ?_ (fun w hs => upright_row l bl ol cl W hG hcl true hu1 w (hs.read [0] [.row bl ol 19 l.length (rowOf l)] kR)) ?_
 ·kernel_rfl
 refine gA [] 1 ?_
 refine g_call (X := Nat) _ _ ?_ (fun x => .func (.func 50) #[] #[.pointer (some ⟨x, 0, none⟩)]) (fun x => [.row bl ol 19 l.length (rowOf l), .obj true b2 [.int .i64 0] 26, .obj true x [.slice (some ⟨bl, ol, none⟩) l.length cl] 22])
  (fun w1 hs => (of_any (some ⟨bl, ol, none⟩) l.length cl w1).mono fun e w2 ⟨x, he, hx⟩ => ⟨x, he, (Sat.at hs kR).three hx⟩) (fun x1 => ?_)
 ·kernel_rfl
 refine g0 ?_
 refine g_rangeX 50 kR (fun L => by kernel_rfl) (fnI := Try.f50) (cI := Try.f50.body.getD .skip) (nI := Try.f50.ntmps) Try.func50 rfl rfl (fun L => Nat.le_of_ble_eq_true kR) fun L W1 bs1 R hR => ?_
 refine g_is kR (of_walk1 hR kR l bl ol cl W hG hcl x1 (X := KX l W) (fun u => u.x.p) (fun _ => .obj true b2 [.int .i64 0] 26) (KX.first l W) rfl (fun u e hp he hlt hel N hN => ?_) (fun u hu => ?_))
 ·refine g0 ?_
  refine g_beginX hN kR kR kR fun W2 bs2 fin2 _ _ _ hRd => ?_
  have h0 : 0 < e - u.x.p := by omega
  refine Exists.elim (show ∃ b, finB (nth l u.x.p) = b from ⟨_, rfl⟩) fun b hb => ?_
  have hfin : ∀ w, Calls Try.prog 24 #[.agg #[.int .i64 (nth l u.x.p).nat, .int .i64 (nth l u.x.p).str, .int .i64 (nth l u.x.p).shr, .int .i64 (nth l u.x.p).so, .int .i64 (nth l u.x.p).sho]] w fun e w' => e = .returned (.bool b) ∧ Kept w w' := fun w => hb ▸ vfin_any (nth l u.x.p) w
  refine gU 19 [] 0 ?_
  refine g_val _ _ ?_ (fun w _hs => idx0_run (P := Try.prog) (T := 22) (E := 55) (b := bl) (o := ol + u.x.p * 19) (n := e - u.x.p) (c := e - u.x.p) (sz := 19) w kR kR h0) ?_
  ·kernel_rfl
  refine gU 21 [] 0 ?_
  refine g_val _ _ ?_ (fun w _hs => Sat.rowload1 (T := 3) (i := 0) (b := bl) (off := ol) (sz := 19) (n := l.length) (k := u.x.p) (j := 0) (f := rowOf l) (v := .int .i64 (nth l u.x.p).kind) _hs kR hp kR rfl) ?_
  ·kernel_rfl
  refine g0 ?_
  refine g_dec 23 ((nth l u.x.p).kind == 7) kR (fun h23 => ?_) (fun h23 => ?_)
  ·refine gU 25 [] 1 ?_
   refine g_val _ _ ?_ (fun w _hs => idx0_run (P := Try.prog) (T := 22) (E := 55) (b := bl) (o := ol + u.x.p * 19) (n := e - u.x.p) (c := e - u.x.p) (sz := 19) w kR kR h0) ?_
   ·kernel_rfl
   refine gU 27 [] 1 ?_
   refine g_val _ _ ?_ (fun w _hs => Sat.rowpart (P := Try.prog) (T := 24) (i := 0) (b := bl) (off := ol) (sz := 19) (n := l.length) (k := u.x.p) (j := 7) (m := 5) (f := rowOf l) (cs := glueC (nth l u.x.p)) _hs kR hp kR kR rfl (glueC_get (nth l u.x.p))) ?_
   ·kernel_rfl
   refine g_callq _ _ _ ?_ (fun w hs => hfin w) ?_
   ·kernel_rfl
   refine gA [] 1 ?_
   refine g_dec 30 (!b) kR (fun h30 => ?_) (fun h30 => ?_)
   ·refine gA ([1]) 1 ?_
    refine g_leave hRd .ret kR (.refl _ _) (fun D W3 bs3 hD he hd hf => ?_)
    refine g_retM (W0 := w) (bs0 := []) [1] (.int .i64 30) kR kR [D] kR he (fun D' hD' => by rw [List.mem_singleton.1 hD']; exact ⟨hD, hd, hf⟩) (by simp) fun w3 hs3 => ?_
    exact ⟨by rw [← hv, vcheckE, hu1, u.no hp (by clear hR hN hRd; simp at *; simp [skipOk, *])]; rfl, hs3.kept.kept⟩
   refine gA [] 1 ?_
   exact g_endX hRd kR (.refl _ _) ⟨u.next e hp he hlt (by clear hR hN hRd; simp at *; simp [skipOk, *]), rfl, by kernel_rfl⟩
  refine gA [] 7 ?_
  exact g_endX hRd kR (.refl _ _) ⟨u.next e hp he hlt (by clear hR hN hRd; simp at *; simp [skipOk, *]), rfl, by kernel_rfl⟩
 intro D W3 bs3 hD he hd hf
 refine gA ([1]) 0 ?_
 refine g_retM (W0 := w) (bs0 := []) [1] (.int .i64 0) kR kR [D] kR he (fun D' hD' => by rw [List.mem_singleton.1 hD']; exact ⟨hD, hd, hf⟩) (by simp) fun w3 hs3 => ?_
 exact ⟨by rw [← hv, vcheckE, hu1, u.yes hu]; rfl, hs3.kept.kept⟩
end Go.Proofs.Ytcncfmjfgdbfeab
namespace Go.Proofs.Ytcncfmjfgdbfeab
set_option maxRecDepth 100000
set_option maxHeartbeats 8000000
open Go.RowKit
theorem skip_not {n : Nod} (h : n.kind ≠ 7) : skipOk n = true := by simp [skipOk, h]
theorem skip_yes {n : Nod} (hg : gluedB n = true) (h0 : 0 ≤ n.sho) (h : n.sho ≤ 0 ∨ n.shr = 0) : skipOk n = true := by
 have : n.shr = 0 ∨ n.sho = 0 := by rcases h with h | h; right; omega; left; exact h
 simp [skipOk, finB, hg, this]
theorem skip_no {n : Nod} (h7 : n.kind = 7) (h1 : 0 < n.sho) (h2 : n.shr ≠ 0) : skipOk n = false := by
 have : n.sho ≠ 0 := by omega
 simp [skipOk, finB, h7, h2, this]
theorem skip_glue {n : Nod} (hr : rightB n = true) (h7 : n.kind = 7) : gluedB n = true ∧ 0 ≤ n.sho := by
 have h : skipB n = true := by simpa [rightB, h7] using hr
 simp only [skipB, Bool.and_eq_true] at h
 refine ⟨h.1.1.1, ?_⟩
 have h2 := h.1.1.1
 simp only [gluedB, glueB, flB, Bool.and_eq_true] at h2
 have h3 := h2.2.2
 simp [ordB] at h3
 omega
structure CKX (l : List Nod) (ss : List Nat) where
 i : Nat
 g : Bool
 up : ((ss.take i).all fun p => !badK (nth l p).kind) = true
 sk : ((ss.take i).all fun p => skipOk (nth l p)) = g
theorem take_snoc {ss : List Nat} {i : Nat} (h : i < ss.length) : ss.take (i + 1) = ss.take i ++ [ss.getD i 0] := by
 rw [List.take_add_one, List.getElem?_eq_getElem h]
 simp [List.getD, h]
def CKX.ok {l : List Nod} {ss : List Nat} (x : CKX l ss) (h : x.i < ss.length) (hs : skipOk (nth l (ss.getD x.i 0)) = true) (hb : badK (nth l (ss.getD x.i 0)).kind = false) : CKX l ss :=
 ⟨x.i + 1, x.g, by rw [take_snoc h, List.all_append, x.up]; simp only [List.all_cons, List.all_nil, hb]; rfl, by rw [take_snoc h, List.all_append, x.sk]; simp only [List.all_cons, List.all_nil, hs]; cases x.g <;> rfl⟩
def CKX.no {l : List Nod} {ss : List Nat} (x : CKX l ss) (h : x.i < ss.length) (hs : skipOk (nth l (ss.getD x.i 0)) = false) (hb : badK (nth l (ss.getD x.i 0)).kind = false) : CKX l ss :=
 ⟨x.i + 1, false, by rw [take_snoc h, List.all_append, x.up]; simp only [List.all_cons, List.all_nil, hb]; rfl, by rw [take_snoc h, List.all_append, x.sk]; simp only [List.all_cons, List.all_nil, hs]; cases x.g <;> rfl⟩
theorem CKX.bad {l : List Nod} {W : Wk} (x : CKX l (startsN l W)) (h : x.i < (startsN l W).length) (hb : badK (nth l ((startsN l W).getD x.i 0)).kind = true) : vcheckE l W = 50 := by
 have : uprightB l W = false := by
  unfold uprightB
  rw [List.all_eq_false]
  refine ⟨(startsN l W).getD x.i 0, ?_, by rw [hb]; decide⟩
  rw [List.getD_eq_getElem?_getD, List.getElem?_eq_getElem h]
  exact List.getElem_mem h
 rw [vcheckE, this]; rfl
theorem CKX.done {l : List Nod} {W : Wk} (x : CKX l (startsN l W)) (h : ¬ x.i < (startsN l W).length) : vcheckE l W = bif x.g then 0 else 30 := by
 have h1 := x.up
 have h2 := x.sk
 rw [List.take_of_length_le (by omega)] at h1 h2
 have h3 : uprightB l W = true := h1
 have h4 : skipsB l W = x.g := h2
 rw [vcheckE, h3, h4]; rfl
theorem rvcheck_row (l : List Nod) (bl ol cl : Nat) (W : Wk) (hG : Good l W) (hk : checkB l = 0) (v : Int) (hv : vcheckE l W = v) (w : World) (hq : Sat w [] [.row bl ol 19 l.length (rowOf l)] w) :
  Calls Try.prog 27 #[.slice (some ⟨bl, ol, none⟩) l.length cl] w fun e w' => e = .returned (.int .i64 v) ∧ Kept w w' := by
 have hgl := hG.le
 have hrt := fun k hk => hG.right k hk
 refine Exists.elim (show ∃ n, (startsN l W).length = n from ⟨_, rfl⟩) fun n hn => ?_
 have hnl : n ≤ l.length := by rw [← hn]; exact items_le
 have hbe : ∀ k, k < n → (startsN l W).getD k 0 < l.length := fun k hk => starts_mem hG (by omega)
 have hbad := fun (x : CKX l (startsN l W)) => x.bad
 have hdone := fun (x : CKX l (startsN l W)) => x.done
 rw [hv] at hbad hdone
 refine Exists.elim (show ∃ ss, startsN l W = ss from ⟨_, rfl⟩) fun ss hss => ?_
 rw [hss] at hn hbe hbad hdone
 refine g_enter (args := [.slice (some ⟨bl, ol, none⟩) l.length cl]) [] [.row bl ol 19 l.length (rowOf l)] Try.func27 rfl Try.ntmps27 kL hq ?_
 refine g0 ?_
 refine g_callq _ _ _ ?_ (fun w hs => rcheckv_any l bl ol cl 0 hk w (hs.read [0] [.row bl ol 19 l.length (rowOf l)] kR)) ?_
 ·kernel_rfl
 refine gA [] 1 ?_
 refine g_call (X := NewI w ss) _ _ ?_ (fun q => .slice q.A n q.c) (fun q => [.row bl ol 19 l.length (rowOf l)] ++ [.row q.b 0 1 n (intR ss)])
  (fun w1 hs => (hss ▸ rstarts_row l bl ol cl W hG hgl n (hss ▸ hn) w1 (hs.read [0] [.row bl ol 19 l.length (rowOf l)] kR) : Calls Try.prog 30 #[.slice (some ⟨bl, ol, none⟩) l.length cl] w1 fun e w' => ∃ q : NewI w1 ss, e = .returned (.slice q.A n q.c) ∧ Sat w1 [] [.row q.b 0 1 n (intR ss)] w').mono fun e w2 ⟨q, h1, h2⟩ => ⟨⟨q.A, q.c, q.b, q.ax, fun h => Nat.le_trans hs.kept.size (q.new h)⟩, h1, (hs.at kR).moreRow h2 (fun h => q.new (hn ▸ h))⟩) (fun q => ?_)
 ·kernel_rfl
 refine g0 ?_
 refine g_loopN (X := CKX l ss) (fun x => [(5, .int .i64 (bif x.g then 0 else 30)), (6, .int .i64 ((x.i : Nat) : Int))]) (fun x => [.row bl ol 19 l.length (rowOf l), .row q.b 0 1 n (intR ss)]) (fun x => n - x.i) ⟨0, true, rfl, rfl⟩ kR (by unfold Known; kernel_rfl) kR fun x N hN => ?_
 refine g0 ?_
 refine g_dec 18 (decide ((x.i : Int) < (n : Int))) kR (fun hd => ?_) (fun hd => ?_)
 ·have hx : x.i < n := Int.ofNat_lt.1 (of_decide_eq_true hd)
  have hxs : x.i < ss.length := hn.symm ▸ hx
  have hp : ss.getD x.i 0 < l.length := hbe x.i hx
  have hgk := skip_glue (hrt _ hp)
  have hqa : q.A = some ⟨q.b, 0, none⟩ := q.ax.resolve_left (by omega)
  have hq6 : Value.slice q.A n q.c = .slice (some ⟨q.b, 0, none⟩) n q.c := by rw [hqa]
  have hms : n - (x.i + 1) < n - x.i := Nat.sub_lt_sub_left hx (Nat.lt_succ_self _)
  refine gU 24 [] 1 ?_
  refine g_rw 22 (.slice q.A n q.c) (.slice (some ⟨q.b, 0, none⟩) n q.c) kR hq6 ?_
  refine g_val _ _ ?_ (fun w _hs => idx_run (P := Try.prog) (T := 41) (E := 3) (b := q.b) (o := 0) (n := n) (c := q.c) (k := x.i) (sz := 1) (kk := .i64) w kR kR hx) ?_
  ·kernel_rfl
  refine g_val _ _ ?_ (fun w _hs => intLoad (ss := ss) (b := q.b) (k := x.i) (n := n) (j := 1) _hs kR hx) ?_
  ·kernel_rfl
  refine g_val _ _ ?_ (fun w _hs => idx_run (P := Try.prog) (T := 22) (E := 55) (b := bl) (o := ol) (n := l.length) (c := cl) (k := ss.getD x.i 0) (sz := 19) (kk := .i64) w kR kR hp) ?_
  ·kernel_rfl
  refine g_val _ _ ?_ (fun w _hs => nodeLoad (l := l) (bl := bl) (ol := ol) (k := ss.getD x.i 0) (j := 0) _hs kR hp) ?_
  ·kernel_rfl
  refine gN fun b2 hb2 => ?_
  refine gA (List.replicate 20 2) 0 ?_
  refine g_dec 30 ((nth l (ss.getD x.i 0)).kind == 1) kR (fun h30 => ?_) (fun h30 => ?_)
  ·refine gA [] 2 ?_
   refine gR (Value.int IntKind.i64 50) fun w' hs => ?_
   exact ⟨congrArg (fun z => Ending.returned (Value.int .i64 z)) (hbad x hxs (by clear hN hs; simp at *; simp [badK]; omega)).symm, hs.kk⟩
  refine gA [] 1 ?_
  refine g_dec 30 ((nth l (ss.getD x.i 0)).kind == 2) kR (fun h30 => ?_) (fun h30 => ?_)
  ·refine gA [] 2 ?_
   refine gR (Value.int IntKind.i64 50) fun w' hs => ?_
   exact ⟨congrArg (fun z => Ending.returned (Value.int .i64 z)) (hbad x hxs (by clear hN hs; simp at *; simp [badK]; omega)).symm, hs.kk⟩
  refine gA [] 1 ?_
  refine g_dec 30 ((nth l (ss.getD x.i 0)).kind == 10) kR (fun h30 => ?_) (fun h30 => ?_)
  ·refine gA [] 2 ?_
   refine gR (Value.int IntKind.i64 50) fun w' hs => ?_
   exact ⟨congrArg (fun z => Ending.returned (Value.int .i64 z)) (hbad x hxs (by clear hN hs; simp at *; simp [badK]; omega)).symm, hs.kk⟩
  refine gA [] 1 ?_
  refine g_dec 30 ((nth l (ss.getD x.i 0)).kind == 15) kR (fun h30 => ?_) (fun h30 => ?_)
  ·refine gA [] 2 ?_
   refine gR (Value.int IntKind.i64 50) fun w' hs => ?_
   exact ⟨congrArg (fun z => Ending.returned (Value.int .i64 z)) (hbad x hxs (by clear hN hs; simp at *; simp [badK]; omega)).symm, hs.kk⟩
  refine gA [] 1 ?_
  refine g_dec 30 ((nth l (ss.getD x.i 0)).kind == 16) kR (fun h30 => ?_) (fun h30 => ?_)
  ·refine gA [] 2 ?_
   refine gR (Value.int IntKind.i64 50) fun w' hs => ?_
   exact ⟨congrArg (fun z => Ending.returned (Value.int .i64 z)) (hbad x hxs (by clear hN hs; simp at *; simp [badK]; omega)).symm, hs.kk⟩
  refine gA [] 1 ?_
  refine g_dec 30 ((nth l (ss.getD x.i 0)).kind == 17) kR (fun h30 => ?_) (fun h30 => ?_)
  ·refine gA [] 1 ?_
   refine gR (Value.int IntKind.i64 50) fun w' hs => ?_
   exact ⟨congrArg (fun z => Ending.returned (Value.int .i64 z)) (hbad x hxs (by clear hN hs; simp at *; simp [badK]; omega)).symm, hs.kk⟩
  refine gA [] 1 ?_
  refine g_dec 37 ((nth l (ss.getD x.i 0)).kind == 7) kR (fun h37 => ?_) (fun h37 => ?_)
  ·refine gA ([2]) 1 ?_
   refine g_dec 43 (decide ((nth l (ss.getD x.i 0)).sho > 0)) kR (fun h43 => ?_) (fun h43 => ?_)
   ·refine gA ([2]) 4 ?_
    refine g_dec 48 ((nth l (ss.getD x.i 0)).shr != 0) kR (fun h48 => ?_) (fun h48 => ?_)
    ·refine gU 20 [] 1 ?_
     refine g_val _ _ ?_ (fun w _hs => nat_succ (P := Try.prog) (t := 3) (x := .tmp 19) (y := .const (.int .i64 1)) (m := x.i) (w := w) kR (by omega)) ?_
     ·kernel_rfl
     refine g0 ?_
     refine g_take 2 ?_
     refine g_hook (hN (x.no hxs (skip_no (by clear hN hbad hdone hrt hbe; simp at *; omega) (by clear hN hbad hdone hrt hbe; simp at *; omega) (by clear hN hbad hdone hrt hbe; simp at *; omega)) (by clear hN hbad hdone hrt hbe; simp at *; simp [badK]; omega)) hms) kR kR kR (by unfold Known; kernel_rfl) kR kR
    refine gU 20 [] 1 ?_
    refine g_val _ _ ?_ (fun w _hs => nat_succ (P := Try.prog) (t := 3) (x := .tmp 19) (y := .const (.int .i64 1)) (m := x.i) (w := w) kR (by omega)) ?_
    ·kernel_rfl
    refine g0 ?_
    refine g_take 2 ?_
    refine g_hook (hN (x.ok hxs (skip_yes (hgk (by clear hN hbad hdone hrt hbe; simp at *; omega)).1 (hgk (by clear hN hbad hdone hrt hbe; simp at *; omega)).2 (by clear hN hbad hdone hrt hbe; simp at *; omega)) (by clear hN hbad hdone hrt hbe; simp at *; simp [badK]; omega)) hms) kR kR kR (by unfold Known; kernel_rfl) kR kR
   refine gU 20 [] 5 ?_
   refine g_val _ _ ?_ (fun w _hs => nat_succ (P := Try.prog) (t := 3) (x := .tmp 19) (y := .const (.int .i64 1)) (m := x.i) (w := w) kR (by omega)) ?_
   ·kernel_rfl
   refine g0 ?_
   refine g_take 2 ?_
   refine g_hook (hN (x.ok hxs (skip_yes (hgk (by clear hN hbad hdone hrt hbe; simp at *; omega)).1 (hgk (by clear hN hbad hdone hrt hbe; simp at *; omega)).2 (by clear hN hbad hdone hrt hbe; simp at *; omega)) (by clear hN hbad hdone hrt hbe; simp at *; simp [badK]; omega)) hms) kR kR kR (by unfold Known; kernel_rfl) kR kR
  refine gU 20 [] 1 ?_
  refine g_val _ _ ?_ (fun w _hs => nat_succ (P := Try.prog) (t := 3) (x := .tmp 19) (y := .const (.int .i64 1)) (m := x.i) (w := w) kR (by omega)) ?_
  ·kernel_rfl
  refine g0 ?_
  refine g_take 2 ?_
  refine g_hook (hN (x.ok hxs (skip_not (by clear hN hbad hdone hrt hbe; simp at *; omega)) (by clear hN hbad hdone hrt hbe; simp at *; simp [badK]; omega)) hms) kR kR kR (by unfold Known; kernel_rfl) kR kR
 have hx : ¬ x.i < ss.length := fun hx => of_decide_eq_false hd (Int.ofNat_lt.2 (hn ▸ hx))
 refine gA [] 1 ?_
 refine gR (Value.int IntKind.i64 (bif x.g then 0 else 30)) fun w' hs => ?_
 exact ⟨congrArg (fun z => Ending.returned (Value.int .i64 z)) (hdone x hx).symm, hs.kk⟩
theorem rtop_any (n : Nod) (w : World) : Calls Try.prog 28 #[.agg #[.int .i64 n.nat, .int .i64 n.str, .int .i64 n.shr, .int .i64 n.so, .int .i64 n.sho]] w fun e w' => e = .returned (.bool (finB n)) ∧ Kept w w' := by
 refine Exists.elim (show ∃ b, gluedB n = b from ⟨_, rfl⟩) fun b hb => ?_
 have hg : ∀ w, Calls Try.prog 52 #[.agg #[.int .i64 n.nat, .int .i64 n.str, .int .i64 n.shr, .int .i64 n.so, .int .i64 n.sho]] w fun e w' => e = .returned (.int .i64 (errG b)) ∧ Kept w w' := fun w => hb ▸ rgcheck_any n.nat n.str n.shr n.so n.sho w
 unfold finB
 rw [hb]
 cases b with
 | true =>
  refine g_enter (args := [.agg #[.int .i64 n.nat, .int .i64 n.str, .int .i64 n.shr, .int .i64 n.so, .int .i64 n.sho]]) [] [] Try.func28 rfl Try.ntmps28 kL (sat0 w) ?_
  refine g0 ?_
  refine gN fun b0 hb0 => ?_
  refine gA (List.replicate 5 0) 0 ?_
  refine g_callq _ _ _ ?_ (fun w hs => hg w) ?_
  ·kernel_rfl
  refine gA ([0]) 4 ?_
  refine g_dec 10 (n.sho == 0) kR (fun h10 => ?_) (fun h10 => ?_)
  ·refine gA [] 4 ?_
   refine gR (Value.bool true) fun w' hs => ?_
   exact ⟨ret_bool (by clear hs; simp at *; first | (simp [*]; done) | (rw [Bool.eq_iff_iff]; simp [*]; done)), hs.kk⟩
  refine gA ([0]) 4 ?_
  refine gR (Value.bool (n.shr == 0)) fun w' hs => ?_
  exact ⟨ret_bool (by clear hs; simp at *; first | (simp [*]; done) | (rw [Bool.eq_iff_iff]; simp [*]; done)), hs.kk⟩
 | false =>
  refine g_enter (args := [.agg #[.int .i64 n.nat, .int .i64 n.str, .int .i64 n.shr, .int .i64 n.so, .int .i64 n.sho]]) [] [] Try.func28 rfl Try.ntmps28 kL (sat0 w) ?_
  refine g0 ?_
  refine gN fun b0 hb0 => ?_
  refine gA (List.replicate 5 0) 0 ?_
  refine g_callq _ _ _ ?_ (fun w hs => hg w) ?_
  ·kernel_rfl
  refine gA [] 8 ?_
  refine gR (Value.bool false) fun w' hs => ?_
  exact ⟨ret_bool (by clear hs; simp at *), hs.kk⟩
end Go.Proofs.Ytcncfmjfgdbfeab
