/- the document's Row: the greatest height and depth along a row. -/
import Derived.Test.YtcncfmjfgdbfeaaM40
import Derived.Test.YtcncfmjfgdbfeaaNodD3
namespace Go.Proofs.Ytcncfmjfgdbfeaa
open Go.RowKit
structure RWX (ss : List Nat) (R : Int → Prop) (f g : Int → Nat → Int) (A B : Int) where
 i : Nat
 a : Int
 b : Int
 pos : 0 ≤ a ∧ R b ∧ i ≤ ss.length
 isA : (ss.drop i).foldl f a = A
 isB : (ss.drop i).foldl g b = B
section
variable {ss : List Nat} {R : Int → Prop} {f g : Int → Nat → Int} {A B : Int}
def RWX.next (x : RWX ss R f g A B) (h : x.i < ss.length) (a b : Int) (h0 : 0 ≤ a) (h1 : R b) (ha : f x.a (ss.getD x.i 0) = a) (hb : g x.b (ss.getD x.i 0) = b) : RWX ss R f g A B :=
 ⟨x.i + 1, a, b, ⟨h0, h1, h⟩, by
  have := x.isA
  rw [drop_cons h, List.foldl_cons, ha] at this
  exact this, by
  have := x.isB
  rw [drop_cons h, List.foldl_cons, hb] at this
  exact this⟩
theorem RWX.done (x : RWX ss R f g A B) (h : ¬ x.i < ss.length) : x.a = A ∧ x.b = B := by
 have h1 := x.isA
 have h2 := x.isB
 rw [List.drop_eq_nil_of_le (by omega)] at h1 h2
 exact ⟨h1, h2⟩
end
def rowS (l : List Nod) (v : Nod → Int) (fa : Nat → Int) (x : Int) (p : Nat) : Int := if (nth l p).kind = 10 then mx x (fa p) else mx x (v (nth l p))
theorem ke1 {n : Nod} (h : (n.kind == 1) = true) : aboveV n = n.h ∧ belowV n = n.d ∧ n.kind ≠ 10 := by
 have h3 : n.kind = 1 := by simpa using h
 simp [aboveV, belowV, h3]
theorem ke2 {n : Nod} (h : (n.kind == 2) = true) : aboveV n = n.h ∧ belowV n = n.d ∧ n.kind ≠ 10 := by
 have h3 : n.kind = 2 := by simpa using h
 simp [aboveV, belowV, h3]
theorem ke3 {n : Nod} (h : (n.kind == 3) = true) : aboveV n = n.h ∧ belowV n = n.d ∧ n.kind ≠ 10 := by
 have h3 : n.kind = 3 := by simpa using h
 simp [aboveV, belowV, h3]
theorem ke4 {n : Nod} (h : (n.kind == 4) = true) : aboveV n = wsub n.h n.shift ∧ belowV n = wr n.d n.shift ∧ n.kind ≠ 10 := by
 have h3 : n.kind = 4 := by simpa using h
 simp [aboveV, belowV, h3]
theorem ke5 {n : Nod} (h : (n.kind == 5) = true) : aboveV n = wsub n.h n.shift ∧ belowV n = wr n.d n.shift ∧ n.kind ≠ 10 := by
 have h3 : n.kind = 5 := by simpa using h
 simp [aboveV, belowV, h3]
theorem ke0 {n : Nod} (h1 : (n.kind == 1) = false) (h2 : (n.kind == 2) = false) (h3 : (n.kind == 3) = false) (h4 : (n.kind == 4) = false) (h5 : (n.kind == 5) = false) : aboveV n = 0 ∧ belowV n = 0 := by
 have h1 : n.kind ≠ 1 := by simpa using h1
 have h2 : n.kind ≠ 2 := by simpa using h2
 have h3 : n.kind ≠ 3 := by simpa using h3
 have h4 : n.kind ≠ 4 := by simpa using h4
 have h5 : n.kind ≠ 5 := by simpa using h5
 simp [aboveV, belowV, h1, h2, h3, h4, h5]
theorem rowS_no {l : List Nod} {v : Nod → Int} {fa : Nat → Int} {x : Int} {p : Nat} {r : Int} (h : (nth l p).kind ≠ 10) (hv : v (nth l p) = r) : rowS l v fa x p = mx x r := by unfold rowS; rw [if_neg h, hv]
theorem rowS_zero {l : List Nod} {v : Nod → Int} {fa : Nat → Int} {x : Int} {p : Nat} (h : (nth l p).kind ≠ 10) (hv : v (nth l p) = 0) (hx : 0 ≤ x) : rowS l v fa x p = x := by rw [rowS_no h hv, mx_zero hx]
theorem rowS_yes {l : List Nod} {v : Nod → Int} {fa : Nat → Int} {x : Int} {p : Nat} (h : (nth l p).kind = 10) : rowS l v fa x p = mx x (fa p) := by unfold rowS; rw [if_pos h]
theorem starts_nz {l : List Nod} {W : Wk} (hG : Good l W) {k : Nat} (h : k < (startsN l W).length) : W.beh.getD ((startsN l W).getD k 0) 0 ≠ 0 := by
 have hch := good_ch hG.walk hG.os
 have := items_mem (f := l.length) hch.1 (k := (startsN l W).getD k 0) (by
  show (startsN l W).getD k 0 ∈ startsN l W
  simp [List.getD, h])
 omega
structure ThrX (w : World) (y0 y1 y2 : List Nod) where
 q0 : NewL w y0
 q1 : NewL w y1
 q2 : NewL w y2
def NewL.up {w w1 : World} {y : List Nod} (q : NewL w1 y) (h : w.heap.size ≤ w1.heap.size) : NewL w y := ⟨q.A, q.c, q.b, q.ax, q.nil, fun h1 => Nat.le_trans h (q.new h1)⟩
theorem three_more (l : List Nod) (bl ol cl : Nat) (W : Wk) (p s1 s2 e : Nat) (d : Dsc l W p s1 s2 e) (hcl : l.length ≤ cl) (y0 y1 y2 : List Nod) (h0 : seg l (p + 1) s1 = y0) (h1 : seg l (s1 + 1) s2 = y1) (h2 : seg l (s2 + 1) e = y2) {w w1 : World} {hp : List HE} (hs : Sat w [] hp w1) (hq : Sat w1 [] [.row bl ol 19 l.length (rowOf l)] w1) :
  Calls Try.prog 74 #[.slice (some ⟨bl, ol, none⟩) l.length cl, .int .i64 (p : Int)] w1 fun e w' => ∃ t : ThrX w y0 y1 y2, e = .returned (.agg #[.slice t.q0.A y0.length t.q0.c, .slice t.q1.A y1.length t.q1.c, .slice t.q2.A y2.length t.q2.c]) ∧ Sat w [] (hp ++ [.row t.q2.b 0 19 y2.length (rowOf y2)]) w' :=
 (rthreeD_any l bl ol cl W p s1 s2 e d hcl y0 y1 y2 h0 h1 h2 _ _ _ rfl rfl rfl w1 hq).mono fun _ _ ⟨q0, q1, q2, h, _, _, h3⟩ => ⟨⟨q0.up hs.kept.size, q1.up hs.kept.size, q2.up hs.kept.size⟩, h, hs.moreRow h3 q2.new⟩
theorem getD_mem {ss : List Nat} {i : Nat} (h : i < ss.length) : ss.getD i 0 ∈ ss := by simp [List.getD, h]
def RowRec (P : Program) (F : FuncId) (l : List Nod) (W : Wk) (fa fb : Nat → Int) : Prop := ∀ p, p ∈ startsN l W → ∀ s1 s2 e, Dsc l W p s1 s2 e → ∀ y, seg l (s2 + 1) e = y → ∀ (w1 : World) (A : Option Addr) (c b : Nat), (y.length = 0 ∨ A = some ⟨b, 0, none⟩) → (A = none → y = [] ∧ c = 0) → Sat w1 [] [.row b 0 19 y.length (rowOf y)] w1 →
 Calls P F #[.slice A y.length c] w1 fun e w' => e = .returned (.tuple #[.int .i64 (fa p), .int .i64 (fb p)]) ∧ Kept w1 w'
set_option maxRecDepth 100000 in
set_option maxHeartbeats 40000000 in
theorem rrow_gen (l : List Nod) (bl ol cl : Nat) (W : Wk) (hG : Good l W) (hcl : ∀ p, p ∈ startsN l W → (nth l p).kind = 10 → l.length ≤ cl) (fa fb : Nat → Int) (hrec : RowRec Try.prog 90 l W fa fb) (A B : Int) (hA : (startsN l W).foldl (rowS l aboveV fa) 0 = A) (hB : (startsN l W).foldl (rowS l belowV fb) 0 = B) (w : World) (hq : Sat w [] [.row bl ol 19 l.length (rowOf l)] w) :
  Calls Try.prog 90 #[.slice (some ⟨bl, ol, none⟩) l.length cl] w fun e w' => e = .returned (.tuple #[.int .i64 A, .int .i64 B]) ∧ Kept w w' := by
 have hgl := hG.le
 refine Exists.elim (show ∃ n, (startsN l W).length = n from ⟨_, rfl⟩) fun n hn => ?_
 have hnl : n ≤ l.length := by rw [← hn]; exact items_le
 have hbe : ∀ k, k < n → (startsN l W).getD k 0 < l.length := fun k hk => starts_mem hG (by omega)
 have hnz : ∀ k, k < n → W.beh.getD ((startsN l W).getD k 0) 0 ≠ 0 := fun k hk => starts_nz hG (by omega)
 refine Exists.elim (show ∃ ss, startsN l W = ss from ⟨_, rfl⟩) fun ss hss => ?_
 rw [hss] at hA hB hn hbe hnz
 refine g_enter (args := [.slice (some ⟨bl, ol, none⟩) l.length cl]) [] [.row bl ol 19 l.length (rowOf l)] Try.func90 rfl Try.ntmps90 kL hq ?_
 refine g0 ?_
 refine g_call (X := NewI w ss) _ _ ?_ (fun q => .slice q.A n q.c) (fun q => [.row bl ol 19 l.length (rowOf l)] ++ [.row q.b 0 1 n (intR ss)])
  (fun w1 hs => (hss ▸ rstarts_row l bl ol cl W hG hgl n (hss ▸ hn) w1 (hs.read [0] [.row bl ol 19 l.length (rowOf l)] kR) : Calls Try.prog 131 #[.slice (some ⟨bl, ol, none⟩) l.length cl] w1 fun e w' => ∃ q : NewI w1 ss, e = .returned (.slice q.A n q.c) ∧ Sat w1 [] [.row q.b 0 1 n (intR ss)] w').mono fun e w2 ⟨q, h1, h2⟩ => ⟨⟨q.A, q.c, q.b, q.ax, fun h => Nat.le_trans hs.kept.size (q.new h)⟩, h1, (hs.at kR).moreRow h2 (fun h => q.new (hn ▸ h))⟩) (fun q => ?_)
 ·kernel_rfl
 refine g0 ?_
 refine g_loopN (X := RWX ss (fun b => 0 ≤ b) (rowS l aboveV fa) (rowS l belowV fb) A B) (fun x => [(4, .int .i64 x.a), (5, .int .i64 x.b), (7, .int .i64 (x.i : Int))]) (fun x => [.row bl ol 19 l.length (rowOf l), .row q.b 0 1 n (intR ss)]) (fun x => n - x.i) ⟨0, 0, 0, ⟨Int.le_refl _, Int.le_refl _, Nat.zero_le _⟩, hA, hB⟩ kR (by unfold Known; kernel_rfl) kR fun x N hN => ?_
 refine g0 ?_
 refine g_dec 16 (decide ((x.i : Int) < (n : Int))) kR (fun hd => ?_) (fun hd => ?_)
 ·have hx : x.i < n := Int.ofNat_lt.1 (of_decide_eq_true hd)
  have hxs : x.i < ss.length := hn.symm ▸ hx
  have hp : ss.getD x.i 0 < l.length := hbe x.i hx
  have hz := hnz x.i hx
  have hmem : ss.getD x.i 0 ∈ startsN l W := by rw [hss]; exact getD_mem hxs
  have hqa : q.A = some ⟨q.b, 0, none⟩ := q.ax.resolve_left (by omega)
  have hq6 : Value.slice q.A n q.c = .slice (some ⟨q.b, 0, none⟩) n q.c := by rw [hqa]
  have hms : n - (x.i + 1) < n - x.i := Nat.sub_lt_sub_left hx (Nat.lt_succ_self _)
  refine gU 22 [] 1 ?_
  refine g_rw 20 (.slice q.A n q.c) (.slice (some ⟨q.b, 0, none⟩) n q.c) kR hq6 ?_
  refine g_val _ _ ?_ (fun w _hs => idx_run (P := Try.prog) (T := 25) (E := 3) (b := q.b) (o := 0) (n := n) (c := q.c) (k := x.i) (sz := 1) (kk := .i64) w kR kR hx) ?_
  ·kernel_rfl
  refine g_val _ _ ?_ (fun w _hs => intLoad (ss := ss) (b := q.b) (k := x.i) (n := n) (j := 1) _hs kR hx) ?_
  ·kernel_rfl
  refine g_val _ _ ?_ (fun w _hs => idx_run (P := Try.prog) (T := 59) (E := 63) (b := bl) (o := ol) (n := l.length) (c := cl) (k := ss.getD x.i 0) (sz := 19) (kk := .i64) w kR kR hp) ?_
  ·kernel_rfl
  refine g_val _ _ ?_ (fun w _hs => nodeLoad (l := l) (bl := bl) (ol := ol) (k := ss.getD x.i 0) (j := 0) _hs kR hp) ?_
  ·kernel_rfl
  refine gN fun b2 hb2 => ?_
  refine Decidable.byCases (fun h10 : (nth l (ss.getD x.i 0)).kind = 10 => ?yes) (fun h10 : (nth l (ss.getD x.i 0)).kind ≠ 10 => ?no)
  case yes =>
   refine Exists.elim (hG.dsc hz h10) fun s1 h => Exists.elim h fun s2 h => Exists.elim h fun e hD => ?_
   refine gU 29 (List.replicate 20 2) 0 ?_
   refine g_rw 27 (.int .i64 (nth l (ss.getD x.i 0)).kind) (.int .i64 10) kR (by rw [h10]) ?_
   refine gU 63 [] 6 ?_
   refine g_rw 61 (.slice q.A n q.c) (.slice (some ⟨q.b, 0, none⟩) n q.c) kR hq6 ?_
   refine g_val _ _ ?_ (fun w _hs => idx_run (P := Try.prog) (T := 25) (E := 3) (b := q.b) (o := 0) (n := n) (c := q.c) (k := x.i) (sz := 1) (kk := .i64) w kR kR hx) ?_
   ·kernel_rfl
   refine g_val _ _ ?_ (fun w _hs => intLoad (ss := ss) (b := q.b) (k := x.i) (n := n) (j := 1) _hs kR hx) ?_
   ·kernel_rfl
   refine Exists.elim (show ∃ y, seg l (ss.getD x.i 0 + 1) s1 = y from ⟨_, rfl⟩) fun y0 e0 => ?_
   refine Exists.elim (show ∃ y, seg l (s1 + 1) s2 = y from ⟨_, rfl⟩) fun y1 e1 => ?_
   refine Exists.elim (show ∃ y, seg l (s2 + 1) e = y from ⟨_, rfl⟩) fun y2 e2 => ?_
   have hrc := hrec _ hmem s1 s2 e hD y2 e2
   refine g_call (X := ThrX w y0 y1 y2) _ _ ?_ (fun t => .agg #[.slice t.q0.A y0.length t.q0.c, .slice t.q1.A y1.length t.q1.c, .slice t.q2.A y2.length t.q2.c]) (fun t => [.row bl ol 19 l.length (rowOf l), .row q.b 0 1 n (intR ss), .obj true b2 (nodC (nth l (ss.getD x.i 0))) 63] ++ [.row t.q2.b 0 19 y2.length (rowOf y2)])
    (fun w1 hs => three_more l bl ol cl W _ s1 s2 e hD (hcl _ hmem h10) y0 y1 y2 e0 e1 e2 (hs.at kR) (hs.read [0] [.row bl ol 19 l.length (rowOf l)] kR)) (fun t => ?_)
   ·kernel_rfl
   refine g0 ?_
   refine g_callq _ _ _ ?_ (fun w hs => hrc w t.q2.A t.q2.c t.q2.b t.q2.ax t.q2.nil (hs.read [3] [.row t.q2.b 0 19 y2.length (rowOf y2)] kR)) ?_
   ·kernel_rfl
   refine gU 72 [] 0 ?_
   refine g_val _ _ ?_ (fun w _hs => max_run (P := Try.prog) x.a (fa (ss.getD x.i 0)) w) ?_
   ·kernel_rfl
   refine gU 75 [] 0 ?_
   refine g_val _ _ ?_ (fun w _hs => max_run (P := Try.prog) x.b (fb (ss.getD x.i 0)) w) ?_
   ·kernel_rfl
   refine gU 18 [] 0 ?_
   refine g_val _ _ ?_ (fun w _hs => nat_succ (P := Try.prog) (t := 3) (x := .tmp 17) (y := .const (.int .i64 1)) (m := x.i) (w := w) kR (by omega)) ?_
   ·kernel_rfl
   refine g0 ?_
   refine g_take 2 ?_
   refine g_hook (hN (x.next hxs (mx x.a (fa (ss.getD x.i 0))) (mx x.b (fb (ss.getD x.i 0))) (mx_pos x.pos.1) (mx_pos x.pos.2.1) (rowS_yes h10) (rowS_yes h10)) hms) kR kR kR (by unfold Known; kernel_rfl) kR kR
  case no =>
   refine gA (List.replicate 20 2) 0 ?_
   refine g_dec 28 ((nth l (ss.getD x.i 0)).kind == 1) kR (fun h28 => ?_) (fun h28 => ?_)
   ·refine gU 35 ([2]) 2 ?_
    refine g_val _ _ ?_ (fun w _hs => max_run (P := Try.prog) x.a (nth l (ss.getD x.i 0)).h w) ?_
    ·kernel_rfl
    refine gU 39 ([2]) 0 ?_
    refine g_val _ _ ?_ (fun w _hs => max_run (P := Try.prog) x.b (nth l (ss.getD x.i 0)).d w) ?_
    ·kernel_rfl
    refine gU 18 [] 0 ?_
    refine g_val _ _ ?_ (fun w _hs => nat_succ (P := Try.prog) (t := 3) (x := .tmp 17) (y := .const (.int .i64 1)) (m := x.i) (w := w) kR (by omega)) ?_
    ·kernel_rfl
    refine g0 ?_
    refine g_take 2 ?_
    refine g_hook (hN (x.next hxs (mx x.a (nth l (ss.getD x.i 0)).h) (mx x.b (nth l (ss.getD x.i 0)).d) (mx_pos x.pos.1) (mx_pos x.pos.2.1) (rowS_no (ke1 h28).2.2 (ke1 h28).1) (rowS_no (ke1 h28).2.2 (ke1 h28).2.1)) hms) kR kR kR (by unfold Known; kernel_rfl) kR kR
   refine gA [] 1 ?_
   refine g_dec 28 ((nth l (ss.getD x.i 0)).kind == 2) kR (fun h28 => ?_) (fun h28 => ?_)
   ·refine gU 35 ([2]) 2 ?_
    refine g_val _ _ ?_ (fun w _hs => max_run (P := Try.prog) x.a (nth l (ss.getD x.i 0)).h w) ?_
    ·kernel_rfl
    refine gU 39 ([2]) 0 ?_
    refine g_val _ _ ?_ (fun w _hs => max_run (P := Try.prog) x.b (nth l (ss.getD x.i 0)).d w) ?_
    ·kernel_rfl
    refine gU 18 [] 0 ?_
    refine g_val _ _ ?_ (fun w _hs => nat_succ (P := Try.prog) (t := 3) (x := .tmp 17) (y := .const (.int .i64 1)) (m := x.i) (w := w) kR (by omega)) ?_
    ·kernel_rfl
    refine g0 ?_
    refine g_take 2 ?_
    refine g_hook (hN (x.next hxs (mx x.a (nth l (ss.getD x.i 0)).h) (mx x.b (nth l (ss.getD x.i 0)).d) (mx_pos x.pos.1) (mx_pos x.pos.2.1) (rowS_no (ke2 h28).2.2 (ke2 h28).1) (rowS_no (ke2 h28).2.2 (ke2 h28).2.1)) hms) kR kR kR (by unfold Known; kernel_rfl) kR kR
   refine gA [] 1 ?_
   refine g_dec 28 ((nth l (ss.getD x.i 0)).kind == 3) kR (fun h28 => ?_) (fun h28 => ?_)
   ·refine gU 35 ([2]) 1 ?_
    refine g_val _ _ ?_ (fun w _hs => max_run (P := Try.prog) x.a (nth l (ss.getD x.i 0)).h w) ?_
    ·kernel_rfl
    refine gU 39 ([2]) 0 ?_
    refine g_val _ _ ?_ (fun w _hs => max_run (P := Try.prog) x.b (nth l (ss.getD x.i 0)).d w) ?_
    ·kernel_rfl
    refine gU 18 [] 0 ?_
    refine g_val _ _ ?_ (fun w _hs => nat_succ (P := Try.prog) (t := 3) (x := .tmp 17) (y := .const (.int .i64 1)) (m := x.i) (w := w) kR (by omega)) ?_
    ·kernel_rfl
    refine g0 ?_
    refine g_take 2 ?_
    refine g_hook (hN (x.next hxs (mx x.a (nth l (ss.getD x.i 0)).h) (mx x.b (nth l (ss.getD x.i 0)).d) (mx_pos x.pos.1) (mx_pos x.pos.2.1) (rowS_no (ke3 h28).2.2 (ke3 h28).1) (rowS_no (ke3 h28).2.2 (ke3 h28).2.1)) hms) kR kR kR (by unfold Known; kernel_rfl) kR kR
   refine gA [] 1 ?_
   refine g_dec 40 ((nth l (ss.getD x.i 0)).kind == 4) kR (fun h40 => ?_) (fun h40 => ?_)
   ·refine gU 49 ([2, 2]) 2 ?_
    refine g_val _ _ ?_ (fun w _hs => max_run (P := Try.prog) x.a (wsub (nth l (ss.getD x.i 0)).h (nth l (ss.getD x.i 0)).shift) w) ?_
    ·kernel_rfl
    refine gU 56 ([2, 2]) 0 ?_
    refine g_val _ _ ?_ (fun w _hs => max_run (P := Try.prog) x.b (wr (nth l (ss.getD x.i 0)).d (nth l (ss.getD x.i 0)).shift) w) ?_
    ·kernel_rfl
    refine gU 18 [] 0 ?_
    refine g_val _ _ ?_ (fun w _hs => nat_succ (P := Try.prog) (t := 3) (x := .tmp 17) (y := .const (.int .i64 1)) (m := x.i) (w := w) kR (by omega)) ?_
    ·kernel_rfl
    refine g0 ?_
    refine g_take 2 ?_
    refine g_hook (hN (x.next hxs (mx x.a (wsub (nth l (ss.getD x.i 0)).h (nth l (ss.getD x.i 0)).shift)) (mx x.b (wr (nth l (ss.getD x.i 0)).d (nth l (ss.getD x.i 0)).shift)) (mx_pos x.pos.1) (mx_pos x.pos.2.1) (rowS_no (ke4 h40).2.2 (ke4 h40).1) (rowS_no (ke4 h40).2.2 (ke4 h40).2.1)) hms) kR kR kR (by unfold Known; kernel_rfl) kR kR
   refine gA [] 1 ?_
   refine g_dec 40 ((nth l (ss.getD x.i 0)).kind == 5) kR (fun h40 => ?_) (fun h40 => ?_)
   ·refine gU 49 ([2, 2]) 1 ?_
    refine g_val _ _ ?_ (fun w _hs => max_run (P := Try.prog) x.a (wsub (nth l (ss.getD x.i 0)).h (nth l (ss.getD x.i 0)).shift) w) ?_
    ·kernel_rfl
    refine gU 56 ([2, 2]) 0 ?_
    refine g_val _ _ ?_ (fun w _hs => max_run (P := Try.prog) x.b (wr (nth l (ss.getD x.i 0)).d (nth l (ss.getD x.i 0)).shift) w) ?_
    ·kernel_rfl
    refine gU 18 [] 0 ?_
    refine g_val _ _ ?_ (fun w _hs => nat_succ (P := Try.prog) (t := 3) (x := .tmp 17) (y := .const (.int .i64 1)) (m := x.i) (w := w) kR (by omega)) ?_
    ·kernel_rfl
    refine g0 ?_
    refine g_take 2 ?_
    refine g_hook (hN (x.next hxs (mx x.a (wsub (nth l (ss.getD x.i 0)).h (nth l (ss.getD x.i 0)).shift)) (mx x.b (wr (nth l (ss.getD x.i 0)).d (nth l (ss.getD x.i 0)).shift)) (mx_pos x.pos.1) (mx_pos x.pos.2.1) (rowS_no (ke5 h40).2.2 (ke5 h40).1) (rowS_no (ke5 h40).2.2 (ke5 h40).2.1)) hms) kR kR kR (by unfold Known; kernel_rfl) kR kR
   refine gA [] 1 ?_
   refine g_dec 57 ((nth l (ss.getD x.i 0)).kind == 10) kR (fun h57 => ?_) (fun h57 => ?_)
   ·exact absurd h57 (by clear hN hrec; intro hx; exact absurd (eq_of_beq hx) h10)
   refine gU 18 [] 1 ?_
   refine g_val _ _ ?_ (fun w _hs => nat_succ (P := Try.prog) (t := 3) (x := .tmp 17) (y := .const (.int .i64 1)) (m := x.i) (w := w) kR (by omega)) ?_
   ·kernel_rfl
   refine g0 ?_
   refine g_take 2 ?_
   refine g_hook (hN (x.next hxs x.a x.b x.pos.1 x.pos.2.1 (rowS_zero h10 (ke0 (by assumption) (by assumption) (by assumption) (by assumption) (by assumption)).1 x.pos.1) (rowS_zero h10 (ke0 (by assumption) (by assumption) (by assumption) (by assumption) (by assumption)).2 x.pos.2.1)) hms) kR kR kR (by unfold Known; kernel_rfl) kR kR
 have hx : ¬ x.i < ss.length := fun hx => of_decide_eq_false hd (Int.ofNat_lt.2 (hn ▸ hx))
 refine gA [] 1 ?_
 refine gR (Value.tuple (Array.mk [Value.int IntKind.i64 x.a, Value.int IntKind.i64 x.b])) fun w' hs => ?_
 exact ⟨two_ret (x.done hx), hs.kk⟩
end Go.Proofs.Ytcncfmjfgdbfeaa
