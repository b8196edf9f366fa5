/- VUp RSt RFs. -/
import Derived.Test.YtcncfmjfgdbfeabVOf
import Derived.Test.YtcncfmjfgdbfeabM27
import Derived.Test.YtcncfmjfgdbfeabM29
namespace Go.Proofs.Ytcncfmjfgdbfeab
set_option maxRecDepth 100000
set_option maxHeartbeats 8000000
open Go.RowKit
def startsV (l : List Nod) (W : Wk) : List Nat := itemsF W.beh l.length l.length 0
structure PX (l : List Nod) (W : Wk) where
 p : Nat
 f : Nat
 pre : List Nat
 is : pre ++ itemsF W.beh l.length f p = startsV l W
 hf : l.length - p ≤ f
def PX.first (l : List Nod) (W : Wk) : PX l W := ⟨0, l.length, [], rfl, by omega⟩
def PX.next {l : List Nod} {W : Wk} (x : PX l W) (e : Nat) (h : x.p < l.length) (he : W.beh.getD x.p 0 = e) (hlt : x.p < e) : PX l W :=
 ⟨e, x.f - 1, x.pre ++ [x.p], by
  obtain ⟨g, hg⟩ : ∃ g, x.f = g + 1 := ⟨x.f - 1, by have := x.hf; omega⟩
  have := x.is
  rw [hg] at this ⊢
  simp only [itemsF, h, if_true, he] at this
  rw [List.append_assoc]
  exact this, by have := x.hf; omega⟩
theorem PX.end_ {l : List Nod} {W : Wk} (x : PX l W) (h : x.p = l.length) : x.pre = startsV l W := by
 have := x.is
 rw [← this, h]
 cases x.f with
 | zero => simp [itemsF]
 | succ g => simp [itemsF]
theorem PX.mem {l : List Nod} {W : Wk} (x : PX l W) (h : x.p < l.length) : x.p ∈ startsV l W := by
 obtain ⟨g, hg⟩ : ∃ g, x.f = g + 1 := ⟨x.f - 1, by have := x.hf; omega⟩
 have := x.is
 rw [hg] at this
 simp only [itemsF, h, if_true] at this
 rw [← this]
 simp
theorem of_any (A : Option Addr) (m c : Nat) (w : World) : Calls Try.prog 26 #[.slice A m c] w fun e w' => ∃ x : Nat, e = .returned (.func (.func 50) #[] #[.pointer (some ⟨x, 0, none⟩)]) ∧ Sat w [] [.obj true x [.slice A m c] 22] w' := by
 refine g_enter (args := [.slice A m c]) [] [] Try.func26 rfl Try.ntmps26 kL (sat0 w) ?_
 refine g0 ?_
 refine gN fun b0 hb0 => ?_
 refine g0 ?_
 refine gR (Value.func (Fn.func 50) (Array.mk []) (Array.mk [Value.pointer (some (Addr.mk b0 0 none))])) fun w' hs => ?_
 exact ⟨b0, rfl, hs.at kR⟩
def badK (k : Int) : Bool := decide (k = 1) || decide (k = 2) || decide (k = 10) || decide (k = 15) || decide (k = 16) || decide (k = 17)
def uprightB (l : List Nod) (W : Wk) : Bool := (startsV l W).all fun p => !badK (nth l p).kind
structure UX (l : List Nod) (W : Wk) where
 x : PX l W
 ok : ∀ q ∈ x.pre, badK (nth l q).kind = false
def UX.first (l : List Nod) (W : Wk) : UX l W := ⟨.first l W, fun q h => by cases h⟩
theorem UX.yes {l : List Nod} {W : Wk} (u : UX l W) (h : u.x.p = l.length) : uprightB l W = true := by
 unfold uprightB
 rw [List.all_eq_true]
 intro q hq
 rw [u.ok q (by rw [u.x.end_ h]; exact hq)]; rfl
theorem UX.no {l : List Nod} {W : Wk} (u : UX l W) (h : u.x.p < l.length) (hb : badK (nth l u.x.p).kind = true) : uprightB l W = false := by
 unfold uprightB
 rw [List.all_eq_false]
 exact ⟨u.x.p, u.x.mem h, by rw [hb]; decide⟩
def UX.next {l : List Nod} {W : Wk} (u : UX l W) (e : Nat) (h : u.x.p < l.length) (he : W.beh.getD u.x.p 0 = e) (hlt : u.x.p < e) (hb : badK (nth l u.x.p).kind = false) : UX l W :=
 ⟨u.x.next e h he hlt, fun q hq => by
  rcases List.mem_append.1 hq with q1 | q1
  ·exact u.ok q q1
  rw [List.mem_singleton.1 q1]; exact hb⟩
theorem Sat.three {w0 w : World} {bs : List Nat} {e1 e2 : HE} {x : Nat} {cs : List Value} {T : TypeId} {w1 : World} (h : Sat w0 bs [e1, e2] w) (k : Sat w [] [.obj true x cs T] w1) : Sat w0 bs [e1, e2, .obj true x cs T] w1 := h.more k (by simp [HE.own])
theorem idx0_run {P : Program} {T E : TypeId} {b o n c sz : Nat} (w : World) (hT : P.underlying T = some (.slice E)) (hs : cellsN P E = some sz) (hk : 0 < n) :
  (idxSem T (.slice (some ⟨b, o, none⟩) n c) (.int .i64 0)).run P w = .ok (.value (.pointer (some ⟨b, o, none⟩))) w := by
 have h := idx_run (P := P) (T := T) (E := E) (b := b) (o := o) (n := n) (c := c) (k := 0) (sz := sz) (kk := .i64) w hT hs hk
 rw [Nat.zero_mul, Nat.add_zero] at h
 exact h
theorem upright_row (l : List Nod) (bl ol cl : Nat) (W : Wk) (hG : Good l W) (hcl : l.length ≤ cl) (v : Bool) (hv : uprightB l W = v) (w : World) (hq : Sat w [] [.row bl ol 19 l.length (rowOf l)] w) :
  Calls Try.prog 45 #[.slice (some ⟨bl, ol, none⟩) l.length cl] w fun e w' => e = .returned (.bool v) ∧ Kept w w' := by
 refine g_enterM (W := w) (args := [.slice (some ⟨bl, ol, none⟩) l.length cl]) [] [.row bl ol 19 l.length (rowOf l)] Try.func45 rfl Try.ntmps45 kL hq ?_
 refine g0 ?_
 refine gN fun b2 hb2 => ?_
 refine g0 ?_
 refine g_call (X := Nat) _ _ ?_ (fun x => .func (.func 50) #[] #[.pointer (some ⟨x, 0, none⟩)]) (fun x => [.row bl ol 19 l.length (rowOf l), .obj true b2 [.bool false] 4, .obj true x [.slice (some ⟨bl, ol, none⟩) l.length cl] 22])
  (fun w1 hs => (of_any (some ⟨bl, ol, none⟩) l.length cl w1).mono fun e w2 ⟨x, he, hx⟩ => ⟨x, he, (Sat.at hs kR).three hx⟩) (fun x1 => ?_)
 ·kernel_rfl
 refine g0 ?_
 refine g_rangeX 50 kR (fun L => by kernel_rfl) (fnI := Try.f50) (cI := Try.f50.body.getD .skip) (nI := Try.f50.ntmps) Try.func50 rfl rfl (fun L => Nat.le_of_ble_eq_true kR) fun L W1 bs1 R hR => ?_
 refine g_is kR (of_walk1 hR kR l bl ol cl W hG hcl x1 (X := UX l W) (fun u => u.x.p) (fun _ => .obj true b2 [.bool false] 4) (UX.first l W) rfl (fun u e hp he hlt hel N hN => ?_) (fun u hu => ?_))
 ·refine g0 ?_
  refine g_beginX hN kR kR kR fun W2 bs2 fin2 _ _ _ hRd => ?_
  have h0 : 0 < e - u.x.p := by omega
  refine gU 10 [] 0 ?_
  refine g_val _ _ ?_ (fun w _hs => idx0_run (P := Try.prog) (T := 22) (E := 55) (b := bl) (o := ol + u.x.p * 19) (n := e - u.x.p) (c := e - u.x.p) (sz := 19) w kR kR h0) ?_
  ·kernel_rfl
  refine gU 12 [] 0 ?_
  refine g_val _ _ ?_ (fun w _hs => Sat.rowload1 (T := 3) (i := 0) (b := bl) (off := ol) (sz := 19) (n := l.length) (k := u.x.p) (j := 0) (f := rowOf l) (v := .int .i64 (nth l u.x.p).kind) _hs kR hp kR rfl) ?_
  ·kernel_rfl
  refine g0 ?_
  refine g_dec 13 ((nth l u.x.p).kind == 1) kR (fun h13 => ?_) (fun h13 => ?_)
  ·refine gA ([1]) 2 ?_
   refine g_leave hRd .ret kR (.refl _ _) (fun D W3 bs3 hD he hd hf => ?_)
   refine g_retM (W0 := w) (bs0 := []) [1] (.bool false) kR kR [D] kR he (fun D' hD' => by rw [List.mem_singleton.1 hD']; exact ⟨hD, hd, hf⟩) (by simp) fun w3 hs3 => ?_
   exact ⟨by rw [← hv, u.no hp (by clear hR hN hRd; simp at *; simp [badK]; omega)], hs3.kept.kept⟩
  refine gA [] 1 ?_
  refine g_dec 13 ((nth l u.x.p).kind == 2) kR (fun h13 => ?_) (fun h13 => ?_)
  ·refine gA ([1]) 2 ?_
   refine g_leave hRd .ret kR (.refl _ _) (fun D W3 bs3 hD he hd hf => ?_)
   refine g_retM (W0 := w) (bs0 := []) [1] (.bool false) kR kR [D] kR he (fun D' hD' => by rw [List.mem_singleton.1 hD']; exact ⟨hD, hd, hf⟩) (by simp) fun w3 hs3 => ?_
   exact ⟨by rw [← hv, u.no hp (by clear hR hN hRd; simp at *; simp [badK]; omega)], hs3.kept.kept⟩
  refine gA [] 1 ?_
  refine g_dec 13 ((nth l u.x.p).kind == 10) kR (fun h13 => ?_) (fun h13 => ?_)
  ·refine gA ([1]) 2 ?_
   refine g_leave hRd .ret kR (.refl _ _) (fun D W3 bs3 hD he hd hf => ?_)
   refine g_retM (W0 := w) (bs0 := []) [1] (.bool false) kR kR [D] kR he (fun D' hD' => by rw [List.mem_singleton.1 hD']; exact ⟨hD, hd, hf⟩) (by simp) fun w3 hs3 => ?_
   exact ⟨by rw [← hv, u.no hp (by clear hR hN hRd; simp at *; simp [badK]; omega)], hs3.kept.kept⟩
  refine gA [] 1 ?_
  refine g_dec 13 ((nth l u.x.p).kind == 15) kR (fun h13 => ?_) (fun h13 => ?_)
  ·refine gA ([1]) 2 ?_
   refine g_leave hRd .ret kR (.refl _ _) (fun D W3 bs3 hD he hd hf => ?_)
   refine g_retM (W0 := w) (bs0 := []) [1] (.bool false) kR kR [D] kR he (fun D' hD' => by rw [List.mem_singleton.1 hD']; exact ⟨hD, hd, hf⟩) (by simp) fun w3 hs3 => ?_
   exact ⟨by rw [← hv, u.no hp (by clear hR hN hRd; simp at *; simp [badK]; omega)], hs3.kept.kept⟩
  refine gA [] 1 ?_
  refine g_dec 13 ((nth l u.x.p).kind == 16) kR (fun h13 => ?_) (fun h13 => ?_)
  ·refine gA ([1]) 2 ?_
   refine g_leave hRd .ret kR (.refl _ _) (fun D W3 bs3 hD he hd hf => ?_)
   refine g_retM (W0 := w) (bs0 := []) [1] (.bool false) kR kR [D] kR he (fun D' hD' => by rw [List.mem_singleton.1 hD']; exact ⟨hD, hd, hf⟩) (by simp) fun w3 hs3 => ?_
   exact ⟨by rw [← hv, u.no hp (by clear hR hN hRd; simp at *; simp [badK]; omega)], hs3.kept.kept⟩
  refine gA [] 1 ?_
  refine g_dec 13 ((nth l u.x.p).kind == 17) kR (fun h13 => ?_) (fun h13 => ?_)
  ·refine gA ([1]) 1 ?_
   refine g_leave hRd .ret kR (.refl _ _) (fun D W3 bs3 hD he hd hf => ?_)
   refine g_retM (W0 := w) (bs0 := []) [1] (.bool false) kR kR [D] kR he (fun D' hD' => by rw [List.mem_singleton.1 hD']; exact ⟨hD, hd, hf⟩) (by simp) fun w3 hs3 => ?_
   exact ⟨by rw [← hv, u.no hp (by clear hR hN hRd; simp at *; simp [badK]; omega)], hs3.kept.kept⟩
  refine gA [] 1 ?_
  exact g_endX hRd kR (.refl _ _) ⟨u.next e hp he hlt (by clear hR hN hRd; simp at *; simp [badK]; omega), rfl, by kernel_rfl⟩
 intro D W3 bs3 hD he hd hf
 refine gA ([1]) 0 ?_
 refine g_retM (W0 := w) (bs0 := []) [1] (.bool true) kR kR [D] kR he (fun D' hD' => by rw [List.mem_singleton.1 hD']; exact ⟨hD, hd, hf⟩) (by simp) fun w3 hs3 => ?_
 exact ⟨by rw [← hv, u.yes hu], hs3.kept.kept⟩
end Go.Proofs.Ytcncfmjfgdbfeab
namespace Go.Proofs.Ytcncfmjfgdbfeab
open Go.RowKit
theorem Ch.inv {beh : List Nat} {s e : Nat} (h : Ch beh s e) : s = e ∨ (s < beh.length ∧ s < beh.getD s 0 ∧ Ch beh (beh.getD s 0) e) := by
 cases h with
 | refl => exact .inl rfl
 | step h1 h2 h3 => exact .inr ⟨h1, h2, h3⟩
theorem g_dummy {F : Fence} {mm : Nat} {P : Program} {fin : Fin} {w0 : World} {bs : List Nat} {st : St} (g : Goal F mm P fin w0 bs { st with hp := st.hp ++ [noneE] }) : Goal F mm P fin w0 bs st :=
 ⟨fun hF a w hr hw => g.out hF a w hr hw.dummy⟩
theorem items_end {beh : List Nat} {at_ to n : Nat} (h : ¬ at_ < to) : itemsF beh to n at_ = [] := by cases n <;> simp [itemsF, h]
theorem items_unroll {beh : List Nat} {at_ to n : Nat} (h : Ch beh at_ to) (hl : at_ < to) (hto : to ≤ n) : itemsF beh to n at_ = at_ :: itemsF beh to n (beh.getD at_ 0) ∧ at_ < beh.length ∧ at_ < beh.getD at_ 0 ∧ Ch beh (beh.getD at_ 0) to := by
 rcases h.inv with h1 | ⟨h1, h2, h3⟩
 ·omega
 refine ⟨?_, h1, h2, h3⟩
 obtain ⟨m, rfl⟩ : ∃ m, n = m + 1 := ⟨n - 1, by omega⟩
 rw [show itemsF beh to (m + 1) at_ = at_ :: itemsF beh to m (beh.getD at_ 0) by simp [itemsF, hl], h3.fuel (m + 1) m (by omega) (by omega)]
theorem row_sat {w : World} {b o n sz : Nat} {f : Nat → List Value} (h : 0 < n → b < w.heap.size ∧ ∀ k, k < n → ∀ j v, (f k)[j]? = some v → w.cell? ⟨b, o + k * sz + j, none⟩ = some v) : Sat w [] [.row b o sz n f] w := by
 refine ⟨.refl _ _, fun e he => ?_, fun i j e e' hij hi hj => ?_⟩
 ·rw [List.mem_singleton.1 he]
  exact fun hn => h hn
 have q1 := (List.getElem?_eq_some_iff.1 hi).1
 have q2 := (List.getElem?_eq_some_iff.1 hj).1
 simp at q1 q2
 omega
theorem rowOf_one (l : List Nod) (k : Nat) : ∀ u ∈ rowOf l k, u.oneCell' = true := by
 intro u hu
 simp only [rowOf, nodC, List.mem_cons, List.not_mem_nil, or_false] at hu
 rcases hu with rfl | rfl | rfl | rfl | rfl | rfl | rfl | rfl | rfl | rfl | rfl | rfl | rfl | rfl | rfl | rfl | rfl | rfl | rfl <;> rfl
theorem rends_any (l : List Nod) (bl ol cl : Nat) (W : Wk) (hG : Good l W) (p e : Nat) (hp : p < l.length) (he : W.beh.getD p 0 = e) (h0 : e ≠ 0) (w : World) (hq : Sat w [] [.row bl ol 19 l.length (rowOf l)] w) :
  Calls Try.prog 55 #[.slice (some ⟨bl, ol, none⟩) l.length cl, .int .i64 (p : Int)] w fun e' w' => e' = .returned (.int .i64 (e : Int)) ∧ Kept w w' := by
 cases hen : enters (nth l p).kind with
 | true => exact rends_open l bl ol cl p e (hG.itm he h0) hp hG.le hen w hq
 | false =>
  have hi := hG.items p (by omega)
  rcases hi.ins with ⟨h1, _⟩ | ⟨_, h1, _⟩
  ·rw [he] at h1
   rw [h1]
   exact rends_one l bl ol cl p hp hG.le hen w hq
  rw [hen] at h1; cases h1
def intR (ss : List Nat) : Nat → List Value := fun k => [.int .i64 ((ss.getD k 0 : Nat) : Int)]
theorem intR_rows (ss : List Nat) : rowsL (intR ss) 0 ss.length = behC ss := by
 apply List.ext_getElem?
 intro k
 by_cases hk : k < ss.length
 ·have h := rowsL_at (f := intR ss) (sz := 1) (fun _ => rfl) 0 ss.length k 0 hk (by omega)
  rw [Nat.mul_one, Nat.add_zero] at h
  rw [h]
  simp [intR, behC, hk, List.getD]
 rw [List.getElem?_eq_none (by rw [rowsL_length (fun _ => rfl) (sz := 1)]; omega), List.getElem?_eq_none (by rw [behC_length]; omega)]
structure NewI (w0 : World) (ss : List Nat) where
 A : Option Addr
 c : Nat
 b : Nat
 ax : ss.length = 0 ∨ A = some ⟨b, 0, none⟩
 new : 0 < ss.length → w0.heap.size ≤ b
def startsN (l : List Nod) (W : Wk) : List Nat := itemsF W.beh l.length l.length 0
structure STX (l : List Nod) (W : Wk) where
 at_ : Nat
 n : Nat
 cap : Nat
 base : Option Addr
 e : HE
 oc : List Value
 ss : List Nat
 ch : Ch W.beh at_ l.length
 hn : ss.length = n
 row : ∀ (hp : List HE) (i : Nat), hp[i]? = some e → RowAt hp i base n cap 1 oc 3
 tk : oc.take (n * 1) = behC ss
 is : ss ++ itemsF W.beh l.length l.length at_ = startsN l W
def STX.next {l : List Nod} {W : Wk} (x : STX l W) (hx : x.at_ < l.length) (b' cap' : Nat) (cs' : List Value) (hc : x.n + 1 ≤ cap') (hl : cs'.length = cap' * 1) (ht : cs'.take ((x.n + 1) * 1) = x.oc.take (x.n * 1) ++ [.int .i64 (x.at_ : Int)]) : STX l W :=
 ⟨W.beh.getD x.at_ 0, x.n + 1, cap', some ⟨b', 0, none⟩, .obj true b' cs' 3, cs', x.ss ++ [x.at_], (items_unroll x.ch hx (Nat.le_refl _)).2.2.2, by rw [List.length_append, x.hn]; rfl, fun _ _ h => rowAt_own h hl hc, by
  rw [ht, x.tk]
  simp [behC], by
  have h := x.is
  rw [(items_unroll x.ch hx (Nat.le_refl _)).1] at h
  rw [List.append_assoc]
  exact h⟩
theorem STX.lt {l : List Nod} {W : Wk} (x : STX l W) (hx : x.at_ < l.length) : x.at_ < W.beh.getD x.at_ 0 ∧ W.beh.getD x.at_ 0 ≤ l.length := by
 obtain ⟨_, _, h1, h2⟩ := items_unroll x.ch hx (Nat.le_refl _)
 exact ⟨h1, h2.le⟩
theorem STX.small {l : List Nod} {W : Wk} (hG : Good l W) (x : STX l W) : x.n ≤ 2000 := by
 have h := congrArg List.length x.is
 rw [List.length_append, x.hn] at h
 have h1 : (startsN l W).length ≤ l.length := items_le
 have := hG.le
 omega
theorem STX.done {l : List Nod} {W : Wk} (x : STX l W) (hx : ¬ x.at_ < l.length) : x.ss = startsN l W := by
 have h := x.is
 rw [items_end hx, List.append_nil] at h
 exact h
theorem STX.ret {l : List Nod} {W : Wk} (x : STX l W) (hx : ¬ x.at_ < l.length) {w w' : World} {hp : List HE} (hs : Sat w [] hp w') {i : Nat} (hi : hp[i]? = some x.e) (n : Nat) (hn : (startsN l W).length = n) :
  ∃ q : NewI w (startsN l W), Ending.returned (.slice x.base x.n x.cap) = Ending.returned (.slice q.A n q.c) ∧ Sat w [] [.row q.b 0 1 n (intR (startsN l W))] w' := by
 have hss := x.done hx
 have h1 := x.hn
 have h2 := x.tk
 rw [hss] at h1 h2
 have hnn : x.n = n := by rw [← h1, hn]
 obtain ⟨_, hr⟩ := x.row hp i hi
 rcases hr with ⟨r1, r2, r3⟩ | ⟨b, r1, r2, r3, r4⟩
 ·refine ⟨⟨none, 0, 0, .inl (by omega), fun h => by omega⟩, by rw [r1, r3, hnn], ?_⟩
  exact Sat.oneRow hs.kk (row_sat fun h => by omega)
 have hnew := (own_cells (hs.holds _ (List.mem_of_getElem? r2)) rfl).2.resolve_right (by simp)
 refine ⟨⟨some ⟨b, 0, none⟩, x.cap, b, .inr rfl, fun _ => hnew⟩, by rw [r1, hnn], ?_⟩
 have h3 := hs.asRow (n := n) (sz := 1) (f := intR (startsN l W)) r2 (fun _ => rfl) (by rw [← hn, intR_rows, ← h2, ← h1])
 exact Sat.oneRow hs.kk h3
set_option maxRecDepth 100000 in
set_option maxHeartbeats 4000000 in
theorem rstarts_row (l : List Nod) (bl ol cl : Nat) (W : Wk) (hG : Good l W) (_hl : l.length ≤ 2000) (n : Nat) (hn : (startsN l W).length = n) (w : World) (hq : Sat w [] [.row bl ol 19 l.length (rowOf l)] w) :
  Calls Try.prog 30 #[.slice (some ⟨bl, ol, none⟩) l.length cl] w fun e w' => ∃ q : NewI w (startsN l W), e = .returned (.slice q.A n q.c) ∧ Sat w [] [.row q.b 0 1 n (intR (startsN l W))] w' := by
 have hch := (good_ch hG.walk hG.os).1
 refine g_enter (args := [.slice (some ⟨bl, ol, none⟩) l.length cl]) [] [.row bl ol 19 l.length (rowOf l)] Try.func30 rfl Try.ntmps30 kL hq ?_
 refine g0 ?_
 refine g_dummy ?_
 refine g_loopN (X := STX l W) (fun x => [(3, .slice x.base x.n x.cap), (4, .int .i64 (x.at_ : Int))]) (fun x => [.row bl ol 19 l.length (rowOf l), x.e]) (fun x => l.length - x.at_) ⟨0, 0, 0, none, noneE, [], [], hch, rfl, fun hp i h => ⟨(List.getElem?_eq_some_iff.1 h).1, .inl ⟨rfl, rfl, rfl⟩⟩, rfl, rfl⟩ kR (by unfold Known; kernel_rfl) kR fun x N hN => ?_
 refine g0 ?_
 refine g_dec 8 (decide ((x.at_ : Int) < (l.length : Int))) kR (fun h => ?_) (fun h => ?_)
 ·have hx : x.at_ < l.length := Int.ofNat_lt.1 (of_decide_eq_true h)
  have hlt := x.lt hx
  have hsm := x.small hG
  refine gA [] 1 ?_
  refine gN fun b2 hb2 => ?_
  refine g_append 1 2 41 3 3 x.base x.n x.cap 1 1 1 b2 8 x.oc [.int .i64 (x.at_ : Int)] true kR kR kR (info_of kR) (x.row _ 1 kR) kR rfl (by simp [Value.oneCell']) Nat.one_pos (by omega) (by omega) fun b' cap' cs' _hb' hc' hl' ht' => ?_
  refine g0 ?_
  refine g_callq _ _ _ ?_ (fun w hs => rends_any l bl ol cl W hG x.at_ (W.beh.getD x.at_ 0) hx rfl (by omega) w (hs.read [0] [.row bl ol 19 l.length (rowOf l)] kR)) ?_
  ·kernel_rfl
  refine g0 ?_
  refine g_take 2 ?_
  refine g_hook (hN (x.next hx b' cap' cs' hc' hl' ht') (by show l.length - W.beh.getD x.at_ 0 < l.length - x.at_; omega)) kR kR kR (by unfold Known; kernel_rfl) kR kR
 have hx : ¬ x.at_ < l.length := fun hx => of_decide_eq_false h (Int.ofNat_lt.2 hx)
 refine gA [] 1 ?_
 refine gR (Value.slice x.base x.n x.cap) fun w' hs => ?_
 exact x.ret hx hs (i := 1) kR n hn
end Go.Proofs.Ytcncfmjfgdbfeab
namespace Go.Proofs.Ytcncfmjfgdbfeab
set_option maxRecDepth 100000
set_option maxHeartbeats 4000000
open Go.RowKit
theorem neq_run {P : Program} {t : TypeId} {x y : Operand} {a b : Array Value} {r : Bool} {w : World} (hg : runQ P (eqGuard .neq t x y (.agg a) (.agg b)) = some ()) (hb : (binOp .eql t (.agg a) (.agg b)).run P w = .ok (.bool r) w) :
  (binSem .neq t x y (.agg a) (.agg b)).run P w = .ok (.value (.bool (!r))) w := by
 have h2 : binOp .neq t (.agg a) (.agg b) = (do pure (.bool (!(← Op.equal t (.agg a) (.agg b))))) := rfl
 have h3 : binOp .eql t (.agg a) (.agg b) = (do pure (.bool (← Op.equal t (.agg a) (.agg b)))) := rfl
 rw [h3] at hb
 have h1 : (Op.equal t (.agg a) (.agg b)).run P w = .ok r w := by
  simp only [Sem.run_bind] at hb
  cases hh : (Op.equal t (.agg a) (.agg b)).run P w with
  | ok v w' => rw [hh] at hb; simp [Result.andThen] at hb; obtain ⟨h1, h2⟩ := hb; rw [h1, h2]
  | halt q w' => rw [hh] at hb; simp [Result.andThen] at hb
 simp [binSem, runQ_run hg w, h2, h1, Result.andThen]
theorem node_nneq (n : Nod) (x y : Operand) (w : World) : (binSem .neq 55 x y (nodV n) (nodV n)).run Try.prog w = .ok (.value (.bool false)) w :=
 neq_run (r := true) kR (apiNode_same n w)
theorem Sat.two {w : World} {b o n b' o' n' : Nat} {f f' : Nat → List Value} (h : Sat w [] [.row b o 19 n f] w) (h' : Sat w [] [.row b' o' 19 n' f'] w) : Sat w [] [.row b o 19 n f, .row b' o' 19 n' f'] w := by
 refine ⟨.refl _ _, fun e he => ?_, fun i j e e' _ hi _ ho => ?_⟩
 ·rcases List.mem_cons.1 he with rfl | he
  ·exact h.holds _ (List.mem_singleton.2 rfl)
  rw [List.mem_singleton.1 he]
  exact h'.holds _ (List.mem_singleton.2 rfl)
 have he := List.mem_of_getElem? hi
 rcases List.mem_cons.1 he with rfl | he
 ·cases ho
 rw [List.mem_singleton.1 he] at ho
 cases ho
theorem same_none (A B : Option Addr) (ca cb : Nat) (w : World) :
  Calls Try.prog 15 #[.slice A 0 ca, .slice B 0 cb] w fun e w' => e = .returned (.bool true) ∧ Kept w w' := by
 refine g_enter (args := [.slice A 0 ca, .slice B 0 cb]) [] [] Try.func15 rfl Try.ntmps15 kL (sat0 w) ?_
 refine gA [] 1 ?_
 refine g_unroll 2 kR ?_
 refine gA [] 1 ?_
 refine gR (Value.bool true) fun w' hs => ?_
 exact ⟨rfl, hs.kk⟩
theorem same_some (l : List Nod) (ba oa ca bb ob cb : Nat) (hl : l.length ≤ 879609302195) (w : World) (hA : Sat w [] [.row ba oa 19 l.length (rowOf l)] w) (hB : Sat w [] [.row bb ob 19 l.length (rowOf l)] w) :
  Calls Try.prog 15 #[.slice (some ⟨ba, oa, none⟩) l.length ca, .slice (some ⟨bb, ob, none⟩) l.length cb] w fun e w' => e = .returned (.bool true) ∧ Kept w w' := by
 refine g_enter (args := [.slice (some ⟨ba, oa, none⟩) l.length ca, .slice (some ⟨bb, ob, none⟩) l.length cb]) [] [.row ba oa 19 l.length (rowOf l), .row bb ob 19 l.length (rowOf l)] Try.func15 rfl Try.ntmps15 kL (hA.two hB) ?_
 refine g0 ?_
 refine g_dec 10 ((l.length : Int) != (l.length : Int)) kR (fun h => absurd h (by simp)) (fun _ => ?_)
 refine gA [] 1 ?_
 refine g_loopN (X := { k : Nat // k ≤ l.length }) (fun x => [(5, .int .i64 (x.1 : Int))]) (fun _ => [.row ba oa 19 l.length (rowOf l), .row bb ob 19 l.length (rowOf l)]) (fun x => l.length - x.1) ⟨0, Nat.zero_le _⟩ kR (by unfold Known; kernel_rfl) kR fun x N hN => ?_
 refine g0 ?_
 refine g_dec 14 (decide ((x.1 : Int) < (l.length : Int))) kR (fun h => ?_) (fun h => ?_)
 ·have hx : x.1 < l.length := by have := of_decide_eq_true h; omega
  refine gA [] 1 ?_
  refine gD 9 ?_
  refine lU 19 [] 0 ?_
  refine l_val _ _ ?_ (fun w _hs => .inl (idx_run (P := Try.prog) (T := 22) (E := 55) (b := ba) (o := oa) (n := l.length) (c := ca) (k := x.1) (sz := 19) (kk := .i64) w kR kR hx)) ?_
  ·kernel_rfl
  refine l_val _ _ ?_ (fun w _hs => .inl (nodeLoad (l := l) (bl := ba) (ol := oa) (k := x.1) (j := 0) _hs kR hx)) ?_
  ·kernel_rfl
  refine lU 23 [] 0 ?_
  refine l_val _ _ ?_ (fun w _hs => .inl (idx_run (P := Try.prog) (T := 22) (E := 55) (b := bb) (o := ob) (n := l.length) (c := cb) (k := x.1) (sz := 19) (kk := .i64) w kR kR hx)) ?_
  ·kernel_rfl
  refine l_val _ _ ?_ (fun w _hs => .inl (nodeLoad (l := l) (bl := bb) (ol := ob) (k := x.1) (j := 1) _hs kR hx)) ?_
  ·kernel_rfl
  refine l_val _ _ ?_ (fun w _hs => .inl (node_nneq (nth l x.1) (.tmp 20) (.tmp 24) w)) ?_
  ·kernel_rfl
  refine lE ?_
  refine gU 16 [] 1 ?_
  refine g_val _ _ ?_ (fun w _hs => nat_succ (P := Try.prog) (t := 3) (x := .tmp 15) (y := .const (.int .i64 1)) (m := x.1) (w := w) kR (by omega)) ?_
  ·kernel_rfl
  refine g0 ?_
  refine g_hook (hN ⟨x.1 + 1, hx⟩ (by show l.length - (x.1 + 1) < l.length - x.1; omega)) kR kR kR (by unfold Known; kernel_rfl) kR kR
 refine gA [] 1 ?_
 refine gR (Value.bool true) fun w' hs => ?_
 exact ⟨rfl, hs.kk⟩
theorem same_any (l : List Nod) (A B : Option Addr) (ba oa ca bb ob cb : Nat) (hl : l.length ≤ 879609302195) (w : World) (hA : Sat w [] [.row ba oa 19 l.length (rowOf l)] w) (hB : Sat w [] [.row bb ob 19 l.length (rowOf l)] w) (eA : l.length = 0 ∨ A = some ⟨ba, oa, none⟩) (eB : l.length = 0 ∨ B = some ⟨bb, ob, none⟩) :
  Calls Try.prog 15 #[.slice A l.length ca, .slice B l.length cb] w fun e w' => e = .returned (.bool true) ∧ Kept w w' := by
 by_cases h0 : l.length = 0
 ·rw [h0]; exact same_none A B ca cb w
 rw [eA.resolve_left h0, eB.resolve_left h0]
 exact same_some l ba oa ca bb ob cb hl w hA hB
end Go.Proofs.Ytcncfmjfgdbfeab
