/- the document's Three: a Disc's lists. -/
import Derived.Test.YtcncfmjfgdbfeaaM40
import Derived.Test.YtcncfmjfgdbfeaaFast16
namespace Go.Proofs.Ytcncfmjfgdbfeaa
open Go.RowKit
structure PX where
 A : Option Addr
 n : Nat
 c : Nat
 e : HE
 oc : List Value
 y : List Nod
 hn : y.length = n
 row : ∀ (hp : List HE) (i : Nat), hp[i]? = some e → RowAt hp i A n c 19 oc 63
 tk : oc.take (n * 19) = rowsL (rowOf y) 0 n
def PX.none : PX := ⟨.none, 0, 0, noneE, [], [], rfl, fun _ _ h => ⟨(List.getElem?_eq_some_iff.1 h).1, .inl ⟨rfl, rfl, rfl⟩⟩, rfl⟩
theorem rows_two_lists (a b : List Nod) : rowsL (rowOf (a ++ b)) 0 (a.length + b.length) = rowsL (rowOf a) 0 a.length ++ rowsL (rowOf b) 0 b.length := by
 rw [rowsL_two]
 congr 1
 ·exact rowsL_eq fun q hq => by simp only [rowOf, Nat.zero_add]; rw [nth_left hq]
 exact rowsL_eq fun q _ => by simp only [rowOf, Nat.zero_add]; rw [Nat.add_comm a.length q, nth_right]
def PX.grow {l : List Nod} {w0 : World} {bs : List Nat} {i m : Nat} (x : PX) (g : GrowX w0 bs (rowOf l) i m 19 x.n x.oc) (z : List Nod) (hz : z = seg l i (i + m)) (hm : i + m ≤ l.length) : PX :=
 ⟨some ⟨g.b, 0, .none⟩, x.n + m, g.cap, .obj true g.b g.cs' 63, g.cs', x.y ++ z, by rw [List.length_append, x.hn, hz, seg_len hm]; omega, fun _ _ h => rowAt_own h g.len' g.le, by
  have hzl : z.length = m := by rw [hz, seg_len hm]; omega
  rw [g.row, x.tk, ← x.hn]
  have h1 := rows_two_lists x.y z
  rw [hzl] at h1
  rw [h1]
  congr 1
  have h2 := rows_seg (l := l) (a := i) (b := i + m)
  rw [Nat.add_sub_cancel_left] at h2
  rw [h2, hz]⟩
structure THX (l : List Nod) (W : Wk) (p s1 s2 e : Nat) where
 k : Nat
 i : Nat
 P0 : PX
 P1 : PX
 P2 : PX
 is : (k = 0 ∧ Ch W.beh i s1 ∧ p + 1 ≤ i ∧ P0.y = seg l (p + 1) i ∧ P1.y = [] ∧ P2.y = []) ∨ (k = 1 ∧ Ch W.beh i s2 ∧ s1 + 1 ≤ i ∧ P0.y = seg l (p + 1) s1 ∧ P1.y = seg l (s1 + 1) i ∧ P2.y = []) ∨
  (k = 2 ∧ Ch W.beh i e ∧ s2 + 1 ≤ i ∧ P0.y = seg l (p + 1) s1 ∧ P1.y = seg l (s1 + 1) s2 ∧ P2.y = seg l (s2 + 1) i)
structure Dsc (l : List Nod) (W : Wk) (p s1 s2 e : Nat) : Prop where
 good : Good l W
 kind : (nth l p).kind = 10
 pl : p < l.length
 be : W.beh.getD p 0 = e + 1
 t : Three W.beh p s1 s2 e
 k1 : (nth l s1).kind = 11
 k2 : (nth l s2).kind = 11
 len : W.beh.length = l.length
theorem Good.dsc {l : List Nod} {W : Wk} (h : Good l W) {p : Nat} (hp : W.beh.getD p 0 ≠ 0) (h10 : (nth l p).kind = 10) : ∃ s1 s2 e, Dsc l W p s1 s2 e := by
 obtain ⟨s1, s2, t, h1⟩ := h.three hp h10
 have h2 := (h.items p hp).le
 exact ⟨s1, s2, W.beh.getD p 0 - 1, h, h10, by omega, by omega, t, t.sep1 h h10, t.sep2 h h10, (good_ch h.walk h.os).2⟩
section
variable {l : List Nod} {W : Wk} {p s1 s2 e : Nat}
theorem Dsc.lens (d : Dsc l W p s1 s2 e) : p + 1 ≤ s1 ∧ s1 + 1 ≤ s2 ∧ s2 + 1 ≤ e ∧ e < l.length := ⟨d.t.h1.le, d.t.h2.le, d.t.h3.le, by have := d.t.he; rw [d.len] at this; exact this⟩
theorem THX.k3 (x : THX l W p s1 s2 e) : x.k = 0 ∨ x.k = 1 ∨ x.k = 2 := by
 rcases x.is with h | h | h
 ·exact .inl h.1
 ·exact .inr (.inl h.1)
 exact .inr (.inr h.1)
theorem THX.item (x : THX l W p s1 s2 e) (d : Dsc l W p s1 s2 e) (hi : x.i < e) (hk : (nth l x.i).kind ≠ 11) : x.i < l.length ∧ x.i < W.beh.getD x.i 0 ∧ W.beh.getD x.i 0 ≤ e ∧ W.beh.getD x.i 0 ≤ l.length := by
 have hl := d.lens
 have key : ∀ t, Ch W.beh x.i t → (nth l t).kind = 11 ∨ t = e → t ≤ e → x.i < W.beh.getD x.i 0 ∧ W.beh.getD x.i 0 ≤ e := by
  intro t hc ht hte
  rcases hc.inv with h | ⟨_, h1, h2⟩
  ·rcases ht with ht | ht
   ·rw [h] at hk; exact absurd ht hk
   omega
  have := h2.le
  exact ⟨h1, by omega⟩
 have h3 : x.i < W.beh.getD x.i 0 ∧ W.beh.getD x.i 0 ≤ e := by
  rcases x.is with h | h | h
  ·exact key s1 h.2.1 (.inl d.k1) (by omega)
  ·exact key s2 h.2.1 (.inl d.k2) (by omega)
  exact key e h.2.1 (.inr rfl) (Nat.le_refl _)
 exact ⟨by omega, h3.1, h3.2, by omega⟩
theorem THX.at_sep (x : THX l W p s1 s2 e) (d : Dsc l W p s1 s2 e) (hk : (nth l x.i).kind = 11) (hi : x.i < e) : (x.k = 0 ∧ x.i = s1) ∨ (x.k = 1 ∧ x.i = s2) := by
 have hl := d.lens
 have key : ∀ t, Ch W.beh x.i t → x.i = t := by
  intro t hc
  rcases hc.inv with h | ⟨_, h1, _⟩
  ·exact h
  exact absurd hk (d.good.items x.i (by omega)).kind.2
 rcases x.is with h | h | h
 ·exact .inl ⟨h.1, key _ h.2.1⟩
 ·exact .inr ⟨h.1, key _ h.2.1⟩
 have := key _ h.2.1; omega
def THX.sep (x : THX l W p s1 s2 e) (d : Dsc l W p s1 s2 e) (hk : (nth l x.i).kind = 11) (hi : x.i < e) : THX l W p s1 s2 e :=
 ⟨x.k + 1, x.i + 1, x.P0, x.P1, x.P2, by
  have hl := d.lens
  rcases x.at_sep d hk hi with ⟨h1, h2⟩ | ⟨h1, h2⟩
  ·rcases x.is with h | h | h
   ·refine .inr (.inl ⟨by omega, by rw [h2]; exact d.t.h2, by omega, by rw [h.2.2.2.1, h2], by rw [h.2.2.2.2.1, h2, seg_same], h.2.2.2.2.2⟩)
   ·omega
   omega
  rcases x.is with h | h | h
  ·omega
  ·refine .inr (.inr ⟨by omega, by rw [h2]; exact d.t.h3, by omega, h.2.2.2.1, by rw [h.2.2.2.2.1, h2], by rw [h.2.2.2.2.2, h2, seg_same]⟩)
  omega⟩
theorem step_ch {beh : List Nat} {i t : Nat} (hc : Ch beh i t) (_h : i < beh.getD i 0) (hne : i ≠ t) : Ch beh (beh.getD i 0) t := by
 rcases hc.inv with q | ⟨_, _, q⟩
 ·exact absurd q hne
 exact q
def THX.next0 (x : THX l W p s1 s2 e) (d : Dsc l W p s1 s2 e) (hk : x.k = 0) (hi : x.i < e) (h11 : (nth l x.i).kind ≠ 11) {w0 : World} {bs : List Nat} {m : Nat} (hj : W.beh.getD x.i 0 = x.i + m) (g : GrowX w0 bs (rowOf l) x.i m 19 x.P0.n x.P0.oc) (hm : x.i + m ≤ l.length) : THX l W p s1 s2 e :=
 ⟨0, W.beh.getD x.i 0, (x.P0.grow g _ rfl hm), x.P1, x.P2, by
  have h3 := x.item d hi h11
  have hlt := h3.2.1
  have hl := d.lens
  rcases x.is with h | h | h
  ·exact .inl ⟨rfl, step_ch h.2.1 hlt (fun q => h11 (by rw [q]; exact d.k1)), by have := h.2.2.1; omega, (by show x.P0.y ++ seg l x.i (x.i + m) = _; rw [h.2.2.2.1, hj, ← seg_cut h.2.2.1 (by omega)]), (h.2.2.2.2.1), (h.2.2.2.2.2)⟩
  ·omega
  omega⟩
def THX.next1 (x : THX l W p s1 s2 e) (d : Dsc l W p s1 s2 e) (hk : x.k = 1) (hi : x.i < e) (h11 : (nth l x.i).kind ≠ 11) {w0 : World} {bs : List Nat} {m : Nat} (hj : W.beh.getD x.i 0 = x.i + m) (g : GrowX w0 bs (rowOf l) x.i m 19 x.P1.n x.P1.oc) (hm : x.i + m ≤ l.length) : THX l W p s1 s2 e :=
 ⟨1, W.beh.getD x.i 0, x.P0, (x.P1.grow g _ rfl hm), x.P2, by
  have h3 := x.item d hi h11
  have hlt := h3.2.1
  have hl := d.lens
  rcases x.is with h | h | h
  ·omega
  ·exact .inr (.inl ⟨rfl, step_ch h.2.1 hlt (fun q => h11 (by rw [q]; exact d.k2)), by have := h.2.2.1; omega, (h.2.2.2.1), (by show x.P1.y ++ seg l x.i (x.i + m) = _; rw [h.2.2.2.2.1, hj, ← seg_cut h.2.2.1 (by omega)]), (h.2.2.2.2.2)⟩)
  omega⟩
def THX.next2 (x : THX l W p s1 s2 e) (d : Dsc l W p s1 s2 e) (hk : x.k = 2) (hi : x.i < e) (h11 : (nth l x.i).kind ≠ 11) {w0 : World} {bs : List Nat} {m : Nat} (hj : W.beh.getD x.i 0 = x.i + m) (g : GrowX w0 bs (rowOf l) x.i m 19 x.P2.n x.P2.oc) (hm : x.i + m ≤ l.length) : THX l W p s1 s2 e :=
 ⟨2, W.beh.getD x.i 0, x.P0, x.P1, (x.P2.grow g _ rfl hm), by
  have h3 := x.item d hi h11
  have hlt := h3.2.1
  have hl := d.lens
  rcases x.is with h | h | h
  ·omega
  ·omega
  exact .inr (.inr ⟨rfl, step_ch h.2.1 hlt (Nat.ne_of_lt hi), by have := h.2.2.1; omega, (h.2.2.2.1), (h.2.2.2.2.1), (by show x.P2.y ++ seg l x.i (x.i + m) = _; rw [h.2.2.2.2.2, hj, ← seg_cut h.2.2.1 (by omega)])⟩)⟩
end
theorem PX.ret (x : PX) {w w' : World} {hp : List HE} (hs : Sat w [] hp w') {i : Nat} (hi : hp[i]? = some x.e) (y : List Nod) (hy : x.y = y) (n : Nat) (hn : y.length = n) :
  ∃ q : NewL w y, .slice x.A x.n x.c = Value.slice q.A n q.c ∧ Sat w [] [.row q.b 0 19 n (rowOf y)] w' := by
 subst hy
 subst hn
 have h1 := x.hn
 obtain ⟨_, hr⟩ := x.row hp i hi
 rcases hr with ⟨r1, r2, r3⟩ | ⟨b, r1, r2, r3, r4⟩
 ·refine ⟨⟨.none, 0, 0, .inl (by omega), fun _ => ⟨List.length_eq_zero_iff.1 (by omega), rfl⟩, fun h => by omega⟩, by show Value.slice x.A x.n x.c = Value.slice Option.none x.y.length 0; rw [r1, r3, h1], ?_⟩
  exact Sat.oneRow hs.kk (row_sat fun h => by omega)
 have hnew := (own_cells (hs.holds _ (List.mem_of_getElem? r2)) rfl).2.resolve_right (by simp)
 refine ⟨⟨some ⟨b, 0, .none⟩, x.c, b, .inr rfl, fun h => (by cases h), fun _ => hnew⟩, by show Value.slice x.A x.n x.c = Value.slice (some ⟨b, 0, Option.none⟩) x.y.length x.c; rw [r1, h1], ?_⟩
 have h3 := hs.asRow (n := x.y.length) (sz := 19) (f := rowOf x.y) r2 (fun _ => rfl) (by rw [h1]; exact x.tk)
 exact Sat.oneRow hs.kk h3
theorem growN (l : List Nod) (bl ol cl i m j r : Nat) (x : PX) {w0 w : World} {bs : List Nat} {hp : List HE} {hp' : GrowX w0 bs (rowOf l) i m 19 x.n x.oc → List HE} (hm0 : 0 < m) (hm : i + m ≤ l.length) (_hcl : l.length ≤ cl) (hl : l.length ≤ 2000) (hn : x.n ≤ 2000) (hw : Sat w0 bs hp w) (hj : hp[j]? = some (.row bl ol 19 l.length (rowOf l))) (hr : hp[r]? = some x.e)
  (e : ∀ g : GrowX w0 bs (rowOf l) i m 19 x.n x.oc, hp.set r (.obj true g.b g.cs' 63) = hp' g) :
  ∃ (g : GrowX w0 bs (rowOf l) i m 19 x.n x.oc) (w' : World), (appSem 59 59 (.slice x.A x.n x.c) (.slice (some ⟨bl, ol + i * 19, none⟩) m (cl - i))).run Try.prog w = .ok (.value (.slice (some ⟨g.b, 0, none⟩) (x.n + m) g.cap)) w' ∧ Sat w0 bs (hp' g) w' := by
 have h := appRow_run (P := Try.prog) (t := 59) (ty := 59) (E := 63) (sz := 19) (m := m) (c := cl - i) (s := i) (bx := bl) (off := ol) (n := l.length) (by_ := 160) (j := j) (ax := some ⟨bl, ol + i * 19, none⟩) (f := rowOf l) hw kR (info_of kR) (x.row hp r hr) hj (fun _ => rfl) (rowOf_one l) (by omega) hm0 rfl (by omega) (by omega)
 obtain ⟨g, w', h1, h2⟩ := h
 exact ⟨g, w', h1, h2.at (e g)⟩
theorem piece2_run {l : List Nod} {bl ol cl s e m : Nat} (hcl : l.length ≤ cl) (hse : s < e) (he : e ≤ l.length) (hm : e - s = m) (w : World) :
  (sliceSem 59 (.slice (some ⟨bl, ol, none⟩) l.length cl) (some (.int .i64 (s : Int))) (some (.int .i64 (e : Int))) none).run Try.prog w = .ok (.value (.slice (some ⟨bl, ol + s * 19, none⟩) m (cl - s))) w := by
 have h := seg_run (P := Try.prog) (T := 59) (E := 63) (b := bl) (o := ol) (n := l.length) (c := cl) (s := s) (e := e) (sz := 19) (kk := .i64) (kl := .i64) w kR kR (by omega) (by omega)
 rw [h, hm]
 unfold tailA
 rw [if_neg (by omega)]
theorem THX.small {l : List Nod} {W : Wk} {p s1 s2 e : Nat} (x : THX l W p s1 s2 e) (d : Dsc l W p s1 s2 e) (hi : x.i < e) : x.P0.n ≤ 2000 ∧ x.P1.n ≤ 2000 ∧ x.P2.n ≤ 2000 ∧ x.i ≤ 2000 ∧ x.k ≤ 2 := by
 have hl := d.lens
 have hg := d.good.le
 have h0 := x.P0.hn
 have h1 := x.P1.hn
 have h2 := x.P2.hn
 have key : ∀ a b, b ≤ l.length → (seg l a b).length ≤ 2000 := fun a b hb => by rw [seg_len hb]; omega
 have z : ([] : List Nod).length = 0 := rfl
 rcases x.is with h | h | h
 ·rw [h.2.2.2.1] at h0; rw [h.2.2.2.2.1] at h1; rw [h.2.2.2.2.2] at h2
  have := key (p + 1) x.i (by omega)
  exact ⟨by omega, by omega, by omega, by omega, by omega⟩
 ·rw [h.2.2.2.1] at h0; rw [h.2.2.2.2.1] at h1; rw [h.2.2.2.2.2] at h2
  have := key (p + 1) s1 (by omega)
  have := key (s1 + 1) x.i (by omega)
  exact ⟨by omega, by omega, by omega, by omega, by omega⟩
 rw [h.2.2.2.1] at h0; rw [h.2.2.2.2.1] at h1; rw [h.2.2.2.2.2] at h2
 have := key (p + 1) s1 (by omega)
 have := key (s1 + 1) s2 (by omega)
 have := key (s2 + 1) x.i (by omega)
 exact ⟨by omega, by omega, by omega, by omega, by omega⟩
theorem THX.done {l : List Nod} {W : Wk} {p s1 s2 e : Nat} (x : THX l W p s1 s2 e) (d : Dsc l W p s1 s2 e) (hi : ¬ x.i < e) : x.P0.y = seg l (p + 1) s1 ∧ x.P1.y = seg l (s1 + 1) s2 ∧ x.P2.y = seg l (s2 + 1) e := by
 have hl := d.lens
 rcases x.is with h | h | h
 ·have := h.2.1.le; omega
 ·have := h.2.1.le; omega
 have h1 := h.2.1.le
 have : x.i = e := by omega
 rw [this] at h
 exact h.2.2.2
theorem three_ret {l : List Nod} {W : Wk} {p s1 s2 e : Nat} (x : THX l W p s1 s2 e) {w w' : World} {hp : List HE} (hs : Sat w [] hp w') (i0 : hp[3]? = some x.P0.e) (i1 : hp[4]? = some x.P1.e) (i2 : hp[5]? = some x.P2.e) {y0 y1 y2 : List Nod} (h0 : x.P0.y = y0) (h1 : x.P1.y = y1) (h2 : x.P2.y = y2) {n0 n1 n2 : Nat} (hn0 : y0.length = n0) (hn1 : y1.length = n1) (hn2 : y2.length = n2) :
  ∃ (q0 : NewL w y0) (q1 : NewL w y1) (q2 : NewL w y2), Ending.returned (.agg #[.slice x.P0.A x.P0.n x.P0.c, .slice x.P1.A x.P1.n x.P1.c, .slice x.P2.A x.P2.n x.P2.c]) = .returned (.agg #[.slice q0.A n0 q0.c, .slice q1.A n1 q1.c, .slice q2.A n2 q2.c]) ∧ Sat w [] [.row q0.b 0 19 n0 (rowOf y0)] w' ∧ Sat w [] [.row q1.b 0 19 n1 (rowOf y1)] w' ∧ Sat w [] [.row q2.b 0 19 n2 (rowOf y2)] w' := by
 obtain ⟨q0, e0, r0⟩ := x.P0.ret hs i0 y0 h0 n0 hn0
 obtain ⟨q1, e1, r1⟩ := x.P1.ret hs i1 y1 h1 n1 hn1
 obtain ⟨q2, e2, r2⟩ := x.P2.ret hs i2 y2 h2 n2 hn2
 exact ⟨q0, q1, q2, by rw [e0, e1, e2], r0, r1, r2⟩
theorem is11 {k : Int} (h : (k == 11) = true) : k = 11 := by simpa using h
theorem not11 {k : Int} (h : (k == 11) = false) : k ≠ 11 := by simpa using h
theorem len_of {a b m : Nat} (h1 : a < b) (h : b = a + m) : 0 < m ∧ b - a = m := by omega
set_option maxRecDepth 100000 in
set_option maxHeartbeats 40000000 in
theorem rthreeD_any (l : List Nod) (bl ol cl : Nat) (W : Wk) (p s1 s2 e : Nat) (d : Dsc l W p s1 s2 e) (hcl : l.length ≤ cl) (y0 y1 y2 : List Nod) (h0 : seg l (p + 1) s1 = y0) (h1 : seg l (s1 + 1) s2 = y1) (h2 : seg l (s2 + 1) e = y2) (n0 n1 n2 : Nat) (hn0 : y0.length = n0) (hn1 : y1.length = n1) (hn2 : y2.length = n2) (w : World) (hq : Sat w [] [.row bl ol 19 l.length (rowOf l)] w) :
  Calls Try.prog 74 #[.slice (some ⟨bl, ol, none⟩) l.length cl, .int .i64 (p : Int)] w fun e w' => ∃ (q0 : NewL w y0) (q1 : NewL w y1) (q2 : NewL w y2), e = .returned (.agg #[.slice q0.A n0 q0.c, .slice q1.A n1 q1.c, .slice q2.A n2 q2.c]) ∧ Sat w [] [.row q0.b 0 19 n0 (rowOf y0)] w' ∧ Sat w [] [.row q1.b 0 19 n1 (rowOf y1)] w' ∧ Sat w [] [.row q2.b 0 19 n2 (rowOf y2)] w' := by
 have hG := d.good
 have hpl := d.pl
 have hgl := hG.le
 have hle := d.lens
 refine g_enter (args := [.slice (some ⟨bl, ol, none⟩) l.length cl, .int .i64 (p : Int)]) [] [.row bl ol 19 l.length (rowOf l)] Try.func74 rfl Try.ntmps74 kL hq ?_
 refine g0 ?_
 refine gN fun b1 hb1 => ?_
 refine g0 ?_
 refine gN fun b2 hb2 => ?_
 refine gU 11 [] 0 ?_
 refine g_val _ _ ?_ (fun w _hs => nat_succ (P := Try.prog) (t := 3) (x := .tmp 10) (y := .const (.int .i64 1)) (m := p) (w := w) kR (by omega)) ?_
 ·kernel_rfl
 refine g0 ?_
 refine g_callq _ _ _ ?_ (fun w hs => rends_any l bl ol cl W hG p (e + 1) hpl d.be (Nat.succ_ne_zero e) w (hs.read [0] [.row bl ol 19 l.length (rowOf l)] kR)) ?_
 ·kernel_rfl
 refine g_val _ _ ?_ (fun w _hs => len_pred (P := Try.prog) (t := 3) (x := .tmp 14) (y := .const (.int .i64 1)) (m := e) (w := w) kR (by omega)) ?_
 ·kernel_rfl
 refine g0 ?_
 refine g_dummy ?_
 refine g_dummy ?_
 refine g_dummy ?_
 refine g_loopN (X := THX l W p s1 s2 e) (fun x => [(6, .int .i64 (x.k : Int)), (7, .int .i64 (x.i : Int))]) (fun x => [.row bl ol 19 l.length (rowOf l), .obj true b1 [.slice none 0 0, .slice none 0 0, .slice none 0 0] 152, .obj true b2 [.slice x.P0.A x.P0.n x.P0.c, .slice x.P1.A x.P1.n x.P1.c, .slice x.P2.A x.P2.n x.P2.c] 152, x.P0.e, x.P1.e, x.P2.e]) (fun x => e - x.i) ⟨0, p + 1, PX.none, PX.none, PX.none, .inl ⟨rfl, d.t.h1, Nat.le_refl _, seg_same.symm, rfl, rfl⟩⟩ kR (by unfold Known; kernel_rfl) kR fun x N hN => ?_
 refine g0 ?_
 refine g_dec 18 (decide ((x.i : Int) < (e : Int))) kR (fun hd => ?_) (fun hd => ?_)
 ·have hi : x.i < e := Int.ofNat_lt.1 (of_decide_eq_true hd)
  have hsm := x.small d hi
  have hil : x.i < l.length := Nat.lt_trans hi hle.2.2.2
  refine gU 21 [] 1 ?_
  refine g_val _ _ ?_ (fun w _hs => idx_run (P := Try.prog) (T := 59) (E := 63) (b := bl) (o := ol) (n := l.length) (c := cl) (k := x.i) (sz := 19) (kk := .i64) w kR kR hil) ?_
  ·kernel_rfl
  refine gU 23 [] 0 ?_
  refine g_val _ _ ?_ (fun w _hs => kindLoad (l := l) (bl := bl) (ol := ol) (k := x.i) (j := 0) _hs kR hil) ?_
  ·kernel_rfl
  refine g0 ?_
  refine g_dec 24 ((nth l x.i).kind == 11) kR (fun h24 => ?_) (fun h24 => ?_)
  ·refine gU 26 [] 1 ?_
   refine g_val _ _ ?_ (fun w _hs => nat_succ (P := Try.prog) (t := 3) (x := .tmp 25) (y := .const (.int .i64 1)) (m := x.k) (w := w) kR (by omega)) ?_
   ·kernel_rfl
   refine gU 28 [] 0 ?_
   refine g_val _ _ ?_ (fun w _hs => nat_succ (P := Try.prog) (t := 3) (x := .tmp 27) (y := .const (.int .i64 1)) (m := x.i) (w := w) kR (by omega)) ?_
   ·kernel_rfl
   refine g0 ?_
   refine g_hook (hN (x.sep d (is11 h24) hi) (by show e - (x.i + 1) < e - x.i; omega)) kR kR kR (by unfold Known; kernel_rfl) kR kR
  have hit := x.item d hi (not11 h24)
  refine Exists.elim (show ∃ m, W.beh.getD x.i 0 = x.i + m from ⟨W.beh.getD x.i 0 - x.i, by omega⟩) fun m hj => ?_
  have hlo := len_of hit.2.1 hj
  have hml : x.i + m ≤ l.length := hj ▸ hit.2.2.2
  refine gA [] 1 ?_
  refine g_callq _ _ _ ?_ (fun w hs => rends_any l bl ol cl W hG x.i (W.beh.getD x.i 0) hil rfl (Nat.ne_of_gt (Nat.lt_of_le_of_lt (Nat.zero_le _) hit.2.1)) w (hs.read [0] [.row bl ol 19 l.length (rowOf l)] kR)) ?_
  ·kernel_rfl
  refine g0 ?_
  refine Or.elim x.k3 (fun hk => ?k0) (fun h => Or.elim h (fun hk => ?k1) (fun hk => ?k2))
  case k0 =>
   refine g_rw 6 (.int .i64 (x.k : Int)) (.int .i64 0) kR (by rw [hk]; rfl) ?_
   refine g_drawE [0, 1, 2, 4, 5, 6, 7, 9] kR kR (noPan_body (fun _ _ h => (by first | cases h.1 | (obtain ⟨_, h, _⟩ := h; cases h; done) | (obtain ⟨_, _, _, h, _⟩ := h; cases h; done)))) ?_
   refine e_run 39 [] 0 kR ?_
   refine e_val _ _ ?_ (fun w => piece2_run (l := l) (bl := bl) (ol := ol) (cl := cl) (s := x.i) (e := W.beh.getD x.i 0) (m := m) hcl hit.2.1 hit.2.2.2 hlo.2 w) ?_
   ·kernel_rfl
   refine e_run 9999 [] 0 kR ?_
   refine e_end kR ?_
   refine gU 40 ([2]) 0 ?_
   refine g_anyW (X := GrowX w [] (rowOf l) x.i m 19 x.P0.n x.P0.oc) (appSem 59 59 (.slice x.P0.A x.P0.n x.P0.c) (.slice (some ⟨bl, ol + x.i * 19, none⟩) m (cl - x.i))) (fun g => .slice (some ⟨g.b, 0, none⟩) (x.P0.n + m) g.cap) (fun g => [.row bl ol 19 l.length (rowOf l), .obj true b1 [.slice none 0 0, .slice none 0 0, .slice none 0 0] 152, .obj true b2 [.slice x.P0.A x.P0.n x.P0.c, .slice x.P1.A x.P1.n x.P1.c, .slice x.P2.A x.P2.n x.P2.c] 152, .obj true g.b g.cs' 63, x.P1.e, x.P2.e]) kR (fun w hs => growN l bl ol cl x.i m 0 3 x.P0 hlo.1 hml hcl hgl (by omega) hs kR kR (fun g => by kernel_rfl)) (fun g => ?_)
   refine gA ([2]) 0 ?_
   refine g_hook (hN (x.next0 d hk hi (not11 h24) hj g hml) (by show e - W.beh.getD x.i 0 < e - x.i; omega)) kR kR kR (by unfold Known; kernel_rfl) kR kR
  case k1 =>
   refine g_rw 6 (.int .i64 (x.k : Int)) (.int .i64 1) kR (by rw [hk]; rfl) ?_
   refine g_drawE [0, 1, 2, 4, 5, 6, 7, 9] kR kR (noPan_body (fun _ _ h => (by first | cases h.1 | (obtain ⟨_, h, _⟩ := h; cases h; done) | (obtain ⟨_, _, _, h, _⟩ := h; cases h; done)))) ?_
   refine e_run 39 [] 0 kR ?_
   refine e_val _ _ ?_ (fun w => piece2_run (l := l) (bl := bl) (ol := ol) (cl := cl) (s := x.i) (e := W.beh.getD x.i 0) (m := m) hcl hit.2.1 hit.2.2.2 hlo.2 w) ?_
   ·kernel_rfl
   refine e_run 9999 [] 0 kR ?_
   refine e_end kR ?_
   refine gU 40 ([2]) 0 ?_
   refine g_anyW (X := GrowX w [] (rowOf l) x.i m 19 x.P1.n x.P1.oc) (appSem 59 59 (.slice x.P1.A x.P1.n x.P1.c) (.slice (some ⟨bl, ol + x.i * 19, none⟩) m (cl - x.i))) (fun g => .slice (some ⟨g.b, 0, none⟩) (x.P1.n + m) g.cap) (fun g => [.row bl ol 19 l.length (rowOf l), .obj true b1 [.slice none 0 0, .slice none 0 0, .slice none 0 0] 152, .obj true b2 [.slice x.P0.A x.P0.n x.P0.c, .slice x.P1.A x.P1.n x.P1.c, .slice x.P2.A x.P2.n x.P2.c] 152, x.P0.e, .obj true g.b g.cs' 63, x.P2.e]) kR (fun w hs => growN l bl ol cl x.i m 0 4 x.P1 hlo.1 hml hcl hgl (by omega) hs kR kR (fun g => by kernel_rfl)) (fun g => ?_)
   refine gA ([2]) 0 ?_
   refine g_hook (hN (x.next1 d hk hi (not11 h24) hj g hml) (by show e - W.beh.getD x.i 0 < e - x.i; omega)) kR kR kR (by unfold Known; kernel_rfl) kR kR
  case k2 =>
   refine g_rw 6 (.int .i64 (x.k : Int)) (.int .i64 2) kR (by rw [hk]; rfl) ?_
   refine g_drawE [0, 1, 2, 4, 5, 6, 7, 9] kR kR (noPan_body (fun _ _ h => (by first | cases h.1 | (obtain ⟨_, h, _⟩ := h; cases h; done) | (obtain ⟨_, _, _, h, _⟩ := h; cases h; done)))) ?_
   refine e_run 39 [] 0 kR ?_
   refine e_val _ _ ?_ (fun w => piece2_run (l := l) (bl := bl) (ol := ol) (cl := cl) (s := x.i) (e := W.beh.getD x.i 0) (m := m) hcl hit.2.1 hit.2.2.2 hlo.2 w) ?_
   ·kernel_rfl
   refine e_run 9999 [] 0 kR ?_
   refine e_end kR ?_
   refine gU 40 ([2]) 0 ?_
   refine g_anyW (X := GrowX w [] (rowOf l) x.i m 19 x.P2.n x.P2.oc) (appSem 59 59 (.slice x.P2.A x.P2.n x.P2.c) (.slice (some ⟨bl, ol + x.i * 19, none⟩) m (cl - x.i))) (fun g => .slice (some ⟨g.b, 0, none⟩) (x.P2.n + m) g.cap) (fun g => [.row bl ol 19 l.length (rowOf l), .obj true b1 [.slice none 0 0, .slice none 0 0, .slice none 0 0] 152, .obj true b2 [.slice x.P0.A x.P0.n x.P0.c, .slice x.P1.A x.P1.n x.P1.c, .slice x.P2.A x.P2.n x.P2.c] 152, x.P0.e, x.P1.e, .obj true g.b g.cs' 63]) kR (fun w hs => growN l bl ol cl x.i m 0 5 x.P2 hlo.1 hml hcl hgl (by omega) hs kR kR (fun g => by kernel_rfl)) (fun g => ?_)
   refine gA ([2]) 0 ?_
   refine g_hook (hN (x.next2 d hk hi (not11 h24) hj g hml) (by show e - W.beh.getD x.i 0 < e - x.i; omega)) kR kR kR (by unfold Known; kernel_rfl) kR kR
 have hi : ¬ x.i < e := fun hx => of_decide_eq_false hd (Int.ofNat_lt.2 hx)
 have hdn := x.done d hi
 refine gA ([2, 2, 2] ++ [1, 1, 1]) 1 ?_
 refine g_ret ([1, 1, 1]) (Value.agg (Array.mk [Value.slice x.P0.A x.P0.n x.P0.c, Value.slice x.P1.A x.P1.n x.P1.c, Value.slice x.P2.A x.P2.n x.P2.c])) kR kR kR fun w' hs => ?_
 exact three_ret x hs kR kR kR (hdn.1.trans h0) (hdn.2.1.trans h1) (hdn.2.2.trans h2) hn0 hn1 hn2
end Go.Proofs.Ytcncfmjfgdbfeaa
