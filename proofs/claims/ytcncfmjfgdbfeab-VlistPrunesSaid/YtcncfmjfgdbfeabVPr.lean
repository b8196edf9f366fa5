/- vlist.pruned: of a right column. -/
import Derived.Test.YtcncfmjfgdbfeabVOf6
import Derived.Test.YtcncfmjfgdbfeabM38
import Derived.Test.YtcncfmjfgdbfeabM39
import Derived.Test.YtcncfmjfgdbfeabVAp
namespace Go.Proofs.Ytcncfmjfgdbfeab
open Go.RowKit
structure Tp where
 a0 : Int
 a1 : Int
 a2 : Int
 a3 : Int
 a4 : Int
abbrev Tp.cs (T : Tp) : List Value := [.int .i64 T.a0, .int .i64 T.a1, .int .i64 T.a2, .int .i64 T.a3, .int .i64 T.a4]
abbrev Tp.v (T : Tp) : Value := .agg #[.int .i64 T.a0, .int .i64 T.a1, .int .i64 T.a2, .int .i64 T.a3, .int .i64 T.a4]
abbrev Tp.skip (T : Tp) (h : Int) : Nod := topN T.a0 T.a1 T.a2 T.a3 T.a4 h
def prunedS (T : Tp) (l : List Nod) (W : Wk) : List Nat → List Nod
 | [] => []
 | p :: r => bif solidB (nth l p).kind then T.skip (nth l p).h :: seg l p l.length else (bif fallsB (nth l p).kind then [] else seg l p (W.beh.getD p 0)) ++ prunedS T l W r
def prunedV (T : Tp) (l : List Nod) (W : Wk) : List Nod := prunedS T l W (startsV l W)
def errP (z : List Nod) : Int := bif decide (2000 < z.length) then 6 else 0
structure KP where
 A : Option Addr
 n : Nat
 c : Nat
 e : HE
 oc : List Value
 y : List Nod
 hn : y.length = n
 own : (A = none ∧ n = 0 ∧ c = 0 ∧ e = noneE) ∨ (∃ b, A = some ⟨b, 0, .none⟩ ∧ e = .obj true b oc 55 ∧ oc.length = c * 19 ∧ n ≤ c ∧ 0 < n)
 tk : oc.take (n * 19) = rowsL (rowOf y) 0 n
def KP.none : KP := ⟨.none, 0, 0, noneE, [], [], rfl, .inl ⟨rfl, rfl, rfl, rfl⟩, rfl⟩
theorem KP.row (x : KP) {hp : List HE} {i : Nat} (h : hp[i]? = some x.e) : RowAt hp i x.A x.n x.c 19 x.oc 55 := by
 have hi := (List.getElem?_eq_some_iff.1 h).1
 rcases x.own with ⟨h1, h2, h3, _⟩ | ⟨b, h1, h2, h3, h4, _⟩
 ·exact ⟨hi, .inl ⟨h1, h2, h3⟩⟩
 exact ⟨hi, .inr ⟨b, h1, h.trans (by rw [h2]), h3, h4⟩⟩
theorem KP.asRow (x : KP) {hp : List HE} {i : Nat} (h : hp[i]? = some x.e) {w0 w : World} {bs : List Nat} (hs : Sat w0 bs hp w) {b : Nat} (hb : x.A = some ⟨b, 0, .none⟩) : Sat w [] [.row b 0 19 x.n (rowOf x.y)] w := by
 rcases x.own with ⟨h1, _⟩ | ⟨b', h1, h2, _⟩
 ·rw [h1] at hb; cases hb
 have : b' = b := by rw [h1] at hb; cases hb; rfl
 subst this
 exact hs.asRow (i := i) (o := true) (cs := x.oc) (E := 55) (h.trans (by rw [h2])) (fun _ => rfl) x.tk
def KP.grow {l : List Nod} {w0 : World} {bs : List Nat} {i m : Nat} (x : KP) (g : GrowX w0 bs (rowOf l) i m 19 x.n x.oc) (h0 : 0 < m) (hm : i + m ≤ l.length) : KP :=
 ⟨some ⟨g.b, 0, .none⟩, x.n + m, g.cap, .obj true g.b g.cs' 55, g.cs', x.y ++ seg l i (i + m), by rw [List.length_append, x.hn, seg_len hm]; omega, .inr ⟨g.b, rfl, rfl, g.len', g.le, by omega⟩, by
  have hzl : (seg l i (i + m)).length = m := by rw [seg_len hm]; omega
  rw [g.row, x.tk, ← x.hn]
  have h1 := rows_lists x.y (seg l i (i + m))
  rw [hzl] at h1
  rw [h1]
  congr 1
  have h2 := rows_sg (l := l) (a := i) (b := i + m)
  rw [Nat.add_sub_cancel_left] at h2
  exact h2⟩
structure QX (T : Tp) (l : List Nod) (W : Wk) where
 x : PX l W
 k : KP
 inv : k.y ++ prunedS T l W (itemsF W.beh l.length x.f x.p) = prunedV T l W
 hn : k.n ≤ x.p
theorem PX.step {l : List Nod} {W : Wk} (x : PX l W) (h : x.p < l.length) : itemsF W.beh l.length x.f x.p = x.p :: itemsF W.beh l.length (x.f - 1) (W.beh.getD x.p 0) := by
 obtain ⟨g, hg⟩ : ∃ g, x.f = g + 1 := ⟨x.f - 1, by have := x.hf; omega⟩
 rw [hg]
 simp only [itemsF, h, if_true, Nat.add_sub_cancel]
section
variable {T : Tp} {l : List Nod} {W : Wk}
def QX.first : QX T l W := ⟨.first l W, .none, List.nil_append _, Nat.zero_le _⟩
theorem QX.inv' (u : QX T l W) (h : u.x.p < l.length) : u.k.y ++ prunedS T l W (u.x.p :: itemsF W.beh l.length (u.x.f - 1) (W.beh.getD u.x.p 0)) = prunedV T l W := by
 rw [← u.x.step h]; exact u.inv
def QX.fall (u : QX T l W) (e : Nat) (h : u.x.p < l.length) (he : W.beh.getD u.x.p 0 = e) (hlt : u.x.p < e) (hs : solidB (nth l u.x.p).kind = false) (hf : fallsB (nth l u.x.p).kind = true) : QX T l W :=
 ⟨u.x.next e h he hlt, u.k, by
  have := u.inv' h
  rw [prunedS, hs, hf, he] at this
  exact this, Nat.le_trans u.hn (Nat.le_of_lt hlt)⟩
def QX.keep (u : QX T l W) (e : Nat) (h : u.x.p < l.length) (he : W.beh.getD u.x.p 0 = e) (hlt : u.x.p < e) (hel : e ≤ l.length) (hs : solidB (nth l u.x.p).kind = false) (hf : fallsB (nth l u.x.p).kind = false) {w0 : World} {bs : List Nat} (g : GrowX w0 bs (rowOf l) u.x.p (e - u.x.p) 19 u.k.n u.k.oc) : QX T l W :=
 ⟨u.x.next e h he hlt, u.k.grow g (by omega) (by omega), by
  have := u.inv' h
  rw [prunedS, hs, hf, he] at this
  show (u.k.y ++ seg l u.x.p (u.x.p + (e - u.x.p))) ++ prunedS T l W (itemsF W.beh l.length (u.x.f - 1) e) = _
  rw [show u.x.p + (e - u.x.p) = e by omega, List.append_assoc]
  exact this, by
  show u.k.n + (e - u.x.p) ≤ e
  have := u.hn
  omega⟩
theorem QX.solid (u : QX T l W) (h : u.x.p < l.length) (hs : solidB (nth l u.x.p).kind = true) : u.k.y ++ (T.skip (nth l u.x.p).h :: seg l u.x.p l.length) = prunedV T l W := by
 have := u.inv' h
 rw [prunedS, hs] at this
 exact this
theorem QX.done (u : QX T l W) (h : u.x.p = l.length) : prunedV T l W = u.k.y := by
 have := u.inv
 rw [h] at this
 rw [← this]
 cases u.x.f with
 | zero => simp [itemsF, prunedS]
 | succ g => simp [itemsF, prunedS]
end
theorem sat_free {w : World} {hp : List HE} (h : ∀ e ∈ hp, e.own = false ∧ Sat w [] [e] w) : Sat w [] hp w :=
 ⟨.refl _ _, fun e he => (h e he).2.holds e (List.mem_singleton.2 rfl), fun i j e e' hij hi hj ho hl => by have := (h e (List.mem_of_getElem? hi)).1; rw [this] at ho; cases ho⟩
theorem add_new {w0 w : World} {bs : List Nat} {b1 b2 x : Nat} {c1 c2 cs : List Value} {T1 T2 T : TypeId} (h : Sat w0 bs [.obj true b1 c1 T1, .obj true b2 c2 T2] w) (hx : w.heap[x]? = some (.cells cs.toArray T (0, 0))) (hn : w0.heap.size ≤ x) (h1 : T1 ≠ T) (h2 : T2 ≠ T) :
  Sat w0 bs [.obj true b1 c1 T1, .obj true b2 c2 T2, .obj true x cs T] w := by
 have q1 := (h.holds _ (List.mem_cons_self ..)).1
 have q2 := (h.holds _ (List.mem_cons_of_mem _ (List.mem_singleton.2 rfl))).1
 have n1 : b1 ≠ x := fun e => by subst e; rw [hx] at q1; injection q1 with q1; injection q1 with _ q1; exact h1 q1.symm
 have n2 : b2 ≠ x := fun e => by subst e; rw [hx] at q2; injection q2 with q2; injection q2 with _ q2; exact h2 q2.symm
 refine ⟨h.kept, fun e he => ?_, fun i j e e' hij hi hj ho hl => ?_⟩
 ·simp only [List.mem_cons, List.not_mem_nil, or_false] at he
  rcases he with rfl | rfl | rfl
  ·exact h.holds _ (by simp)
  ·exact h.holds _ (by simp)
  exact ⟨hx, fun _ => .inl hn⟩
 match i, j, hi, hj, hij with
 | 0, 1, hi, hj, _ => exact h.apart 0 1 e e' (by decide) hi hj ho hl
 | 1, 0, hi, hj, _ => exact h.apart 1 0 e e' (by decide) hi hj ho hl
 | 0, 2, hi, hj, _ => simp at hi hj; subst hi; subst hj; exact n1
 | 1, 2, hi, hj, _ => simp at hi hj; subst hi; subst hj; exact n2
 | 2, 0, hi, hj, _ => simp at hi hj; subst hi; subst hj; exact fun e => n1 e.symm
 | 2, 1, hi, hj, _ => simp at hi hj; subst hi; subst hj; exact fun e => n2 e.symm
 | 0, 0, _, _, hij => exact absurd rfl hij
 | 1, 1, _, _, hij => exact absurd rfl hij
 | 2, 2, _, _, hij => exact absurd rfl hij
 | i + 3, _, hi, _, _ => simp at hi
 | 0, j + 3, _, hj, _ => simp at hj
 | 1, j + 3, _, hj, _ => simp at hj
 | 2, j + 3, _, hj, _ => simp at hj
theorem concat_kp (k : KP) (m : Nod) (l : List Nod) (p : Nat) (hp : p ≤ l.length) (hs0 : k.n + 1 + (l.length - p) ≤ 100000) (z : List Nod) (hz : k.y ++ (m :: seg l p l.length) = z) (bs b1 bl ol cr : Nat) (w : World)
  (hb : w.heap[bs]? = some (.cells (#[.slice k.A k.n k.c, .slice (some ⟨b1, 0, none⟩) 1 1, .slice (some ⟨bl, ol + p * 19, none⟩) (l.length - p) cr] : Array Value) 22 (0, 0))) (hb1 : w.heap[b1]? = some (.cells (nodC m).toArray 55 (0, 0)))
  (hl : Sat w [] [.row bl ol 19 l.length (rowOf l)] w) (hk : ∀ b, k.A = some ⟨b, 0, none⟩ → Sat w [] [.row b 0 19 k.n (rowOf k.y)] w) :
  Calls Try.prog 43 #[.slice (some ⟨bs, 0, none⟩) 3 3] w fun e w' => ∃ x : CatL w z, e = .returned (.slice (some ⟨x.b, 0, none⟩) z.length x.cap) ∧ Sat w [] [.obj true x.b x.cs 55] w' := by
 rcases k.own with ⟨h1, h2, h3, _⟩ | ⟨b, h1, _, _, _, h5⟩
 ·rw [h1, h2, h3] at hb
  refine concat0 k.y (k.hn.trans h2) m l p (l.length - p) (by omega) (by omega) z hz bs b1 bl ol cr w (sat_free fun e he => ?_)
  simp only [List.mem_cons, List.not_mem_nil, or_false] at he
  rcases he with rfl | rfl | rfl
  ·exact ⟨rfl, sat1 hb⟩
  ·exact ⟨rfl, sat1 hb1⟩
  exact ⟨rfl, hl⟩
 have hk' := hk b h1
 rw [h1] at hb
 refine concat1 k.y k.n k.hn h5 m l p (l.length - p) (by omega) (by omega) z hz b k.c bs b1 bl ol cr w (sat_free fun e he => ?_)
 simp only [List.mem_cons, List.not_mem_nil, or_false] at he
 rcases he with rfl | rfl | rfl | rfl
 ·exact ⟨rfl, sat1 hb⟩
 ·exact ⟨rfl, hk'⟩
 ·exact ⟨rfl, sat1 hb1⟩
 exact ⟨rfl, hl⟩
theorem tail_at {b o s sz c : Nat} (h : s < c) : tailA b o s sz c = (⟨b, o + s * sz, none⟩ : Addr) := by
 unfold tailA
 rw [if_neg (by omega)]
def W7 (w0 : World) (bl ol cl : Nat) (l : List Nod) (p : Nat) (k : KP) (T : Tp) (h : Int) (m : Nod) (z : List Nod) : VP := fun s v w => match s with
 | 22 => v = .slice k.A k.n k.c
 | 23 => v = T.v
 | 24 => v = .pointer (some ⟨bl, ol + p * 19, none⟩)
 | 25 => v = .pointer (some ⟨bl, ol + p * 19, none⟩)
 | 26 => v = .pointer (some ⟨bl, ol + p * 19 + 4, none⟩)
 | 27 => v = .int .i64 h
 | 28 => v = .agg (nodC m).toArray
 | 29 => ∃ b, v = .slice (some ⟨b, 0, none⟩) 1 1 ∧ w.heap[b]? = some (.cells (nodC m).toArray 55 (0, 0))
 | 30 => v = .slice (some ⟨bl, ol, none⟩) l.length cl
 | 31 => v = .int .i64 ((p : Nat) : Int)
 | 32 => v = .slice (some ⟨bl, ol + p * 19, none⟩) (l.length - p) (cl - p)
 | 33 => ∃ b, ∃ b1, v = .slice (some ⟨b, 0, none⟩) 3 3 ∧ w.heap[b]? = some (.cells (#[.slice k.A k.n k.c, .slice (some ⟨b1, 0, none⟩) 1 1, .slice (some ⟨bl, ol + p * 19, none⟩) (l.length - p) (cl - p)] : Array Value) 22 (0, 0)) ∧ w.heap[b1]? = some (.cells (nodC m).toArray 55 (0, 0))
 | 34 => ∃ x : CatL w0 z, v = .slice (some ⟨x.b, 0, none⟩) z.length x.cap ∧ w.heap[x.b]? = some (.cells x.cs.toArray 55 (0, 0))
 | 10 => ∃ x : CatL w0 z, v = .slice (some ⟨x.b, 0, none⟩) z.length x.cap ∧ w.heap[x.b]? = some (.cells x.cs.toArray 55 (0, 0))
 | _ => True
theorem W7_kept {w0 : World} {bl ol cl : Nat} {l : List Nod} {p : Nat} {k : KP} {T : Tp} {h : Int} {m : Nod} {z : List Nod} : ∀ s v w w', W7 w0 bl ol cl l p k T h m z s v w → Kept w w' → W7 w0 bl ol cl l p k T h m z s v w' := by
 intro s v w w' hw kk
 revert hw
 unfold W7
 split <;> intro hw <;> first | exact hw | exact hw.imp fun q hq => ⟨hq.1, obj_kept hq.2 kk⟩ | exact hw.imp fun q hq => hq.imp fun q1 hq => ⟨hq.1, obj_kept hq.2.1 kk, obj_kept hq.2.2 kk⟩
theorem tail_to {P : Program} {T E : TypeId} {b o n c s sz : Nat} {kk : IntKind} (w : World) (hT : P.underlying T = some (.slice E)) (hs : cellsN P E = some sz) (hsn : s < n) (hn : n ≤ c) :
  (sliceSem T (.slice (some ⟨b, o, none⟩) n c) (some (.int kk s)) none none).run P w = .ok (.value (.slice (some ⟨b, o + s * sz, none⟩) (n - s) (c - s))) w := by
 rw [← tail_at (show s < c by omega)]
 exact tail_run w hT hs (Nat.le_of_lt hsn) hn
def CatL.kp {w0 : World} {z : List Nod} (x : CatL w0 z) (h : 0 < z.length) : KP := ⟨some ⟨x.b, 0, none⟩, z.length, x.cap, .obj true x.b x.cs 55, x.cs, z, rfl, .inr ⟨x.b, rfl, rfl, x.len, x.le, h⟩, x.row⟩
theorem solid_pos {y s Z : List Nod} {m : Nod} (h : y ++ m :: s = Z) : 0 < Z.length := by
 rw [← h, List.length_append, List.length_cons]; omega
theorem errP_big {z : List Nod} (h : 2000 < z.length) : errP z = 6 := by unfold errP; rw [decide_eq_true h]; rfl
theorem errP_small {z : List Nod} (h : ¬ 2000 < z.length) : errP z = 0 := by unfold errP; rw [decide_eq_false h]; rfl
theorem pr_end {T : Tp} {l : List Nod} {W : Wk} (u : QX T l W) (hu : u.x.p = l.length) (hle : l.length ≤ 2000) {Z : List Nod} (hZ : prunedV T l W = Z) : errP Z = 0 ∧ u.k.y = (bif decide (2000 < Z.length) then [] else Z) := by
 have h1 := u.done hu
 rw [hZ] at h1
 have h2 : ¬ 2000 < Z.length := by
  have h3 := u.hn
  have h4 := u.k.hn
  rw [h1]; omega
 rw [decide_eq_false h2, ← h1]
 exact ⟨errP_small h2, rfl⟩
def PrE (Z : List Nod) (e : Ending) (w w' : World) : Prop := ∃ q : KP, e = .returned (.tuple #[.slice q.A q.n q.c, .int .i64 (errP Z)]) ∧ Sat w [] [q.e] w' ∧ q.y = (bif decide (2000 < Z.length) then [] else Z)
set_option maxRecDepth 100000 in
set_option maxHeartbeats 8000000 in
theorem pruned_any (T : Tp) (l : List Nod) (bl ol cl : Nat) (W : Wk) (hG : Good l W) (hcl : l.length ≤ cl) (Z : List Nod) (hZ : prunedV T l W = Z) (w : World) (hq : Sat w [] [.row bl ol 19 l.length (rowOf l)] w) :
  Calls Try.prog 25 #[.slice (some ⟨bl, ol, none⟩) l.length cl, T.v] w fun e w' => PrE Z e w w' := by
 refine g_enterM (W := w) (args := [.slice (some ⟨bl, ol, none⟩) l.length cl, T.v]) [] [.row bl ol 19 l.length (rowOf l), noneE] Try.func25 rfl Try.ntmps25 kL hq.dummy ?_
 refine g0 ?_
 refine gN fun b2 hb2 => ?_
 refine g0 ?_
 refine gN fun b3 hb3 => ?_
 refine g0 ?_
 refine gN fun b4 hb4 => ?_
 refine g0 ?_
 refine gN fun b5 hb5 => ?_
 refine g0 ?_
 refine gN fun b6 hb6 => ?_
 refine gA [2] 0 ?_
 refine g_call (X := Nat) _ _ ?_ (fun x => .func (.func 50) #[] #[.pointer (some ⟨x, 0, none⟩)]) (fun x => [.row bl ol 19 l.length (rowOf l), (QX.first : QX T l W).k.e, .obj true b2 [.slice (some ⟨bl, ol, none⟩) l.length cl] 22, .obj true b3 T.cs 24, .obj true b4 [.slice none 0 0] 22, .obj true b5 [.int .i64 0] 26, .obj true b6 [.slice (QX.first : QX T l W).k.A (QX.first : QX T l W).k.n (QX.first : QX T l W).k.c] 22, .obj true x [.slice (some ⟨bl, ol, none⟩) l.length cl] 22])
  (fun w1 hs => (of_any (some ⟨bl, ol, none⟩) l.length cl w1).mono fun e w2 ⟨x, he, hx⟩ => ⟨x, he, (show Sat w [] ([.row bl ol 19 l.length (rowOf l), (QX.first : QX T l W).k.e, .obj true b2 [.slice (some ⟨bl, ol, none⟩) l.length cl] 22, .obj true b3 T.cs 24, .obj true b4 [.slice none 0 0] 22, .obj true b5 [.int .i64 0] 26, .obj true b6 [.slice (QX.first : QX T l W).k.A (QX.first : QX T l W).k.n (QX.first : QX T l W).k.c] 22] ++ [.obj true x [.slice (some ⟨bl, ol, none⟩) l.length cl] 22]) w2 from (Sat.at hs kR).more hx (by simp [HE.own]))⟩) (fun x1 => ?_)
 ·kernel_rfl
 refine g0 ?_
 refine g_rangeX 50 kR (fun L => by kernel_rfl) (fnI := Try.f50) (cI := Try.f50.body.getD .skip) (nI := Try.f50.ntmps) Try.func50 rfl rfl (fun L => Nat.le_of_ble_eq_true kR) fun L W1 bs1 R hR => ?_
 refine g_is kR (of_walk6 hR kR l bl ol cl W hG hcl x1 (X := QX T l W) (fun u => u.x.p) (fun u => u.k.e) (fun _ => .obj true b2 [.slice (some ⟨bl, ol, none⟩) l.length cl] 22) (fun _ => .obj true b3 T.cs 24) (fun _ => .obj true b4 [.slice none 0 0] 22) (fun _ => .obj true b5 [.int .i64 0] 26) (fun u => .obj true b6 [.slice u.k.A u.k.n u.k.c] 22) .first rfl (fun u e hp he hlt hel N hN => ?_) (fun u hu => ?_))
 ·refine g0 ?_
  refine g_beginX hN kR kR kR fun W2 bs2 fin2 _ _ _ hRd => ?_
  have h0 : 0 < e - u.x.p := by omega
  have hun := u.hn
  have hle := hG.le
  have hm1 : u.x.p + (e - u.x.p) ≤ l.length := by omega
  have hm2 : 0 < e - u.x.p := h0
  have hm3 : u.k.n + (e - u.x.p) ≤ 9223372036854775807 := by omega
  have hm4 : (u.k.n + (e - u.x.p)) * 160 ≤ 140737488355328 := by omega
  by_cases hsol : solidB (nth l u.x.p).kind = true
  ·have hS : ∀ w, Calls Try.prog 47 #[.int .i64 (nth l u.x.p).kind] w fun e w' => e = .returned (.bool true) ∧ Kept w w' := fun w => hsol ▸ vsolid_any (nth l u.x.p).kind w
   have hz := u.solid hp hsol
   rw [hZ] at hz
   refine Exists.elim (show ∃ m, T.skip (nth l u.x.p).h = m from ⟨_, rfl⟩) fun m hm => ?_
   rw [hm] at hz
   have htop : ∀ w, Calls Try.prog 48 #[T.v, .int .i64 (nth l u.x.p).h] w fun e w' => e = .returned (.agg (nodC m).toArray) ∧ Kept w w' := fun w => hm ▸ topSkip_any T.a0 T.a1 T.a2 T.a3 T.a4 (nth l u.x.p).h w
   have hzp : 0 < Z.length := solid_pos hz
   refine gU 16 [] 0 ?_
   refine g_val _ _ ?_ (fun w _hs => idx0_run (P := Try.prog) (T := 22) (E := 55) (b := bl) (o := ol + u.x.p * 19) (n := e - u.x.p) (c := e - u.x.p) (sz := 19) w kR kR h0) ?_
   ·kernel_rfl
   refine gU 20 [] 0 ?_
   refine g_val _ _ ?_ (fun w _hs => Sat.rowload1 (T := 3) (i := 0) (b := bl) (off := ol) (sz := 19) (n := l.length) (k := u.x.p) (j := 0) (f := rowOf l) (v := .int .i64 (nth l u.x.p).kind) _hs kR hp kR rfl) ?_
   ·kernel_rfl
   refine g_callq _ _ _ ?_ (fun w hs => hS w) ?_
   ·kernel_rfl
   refine gA [] 1 ?_
   refine g_drawA (X := CatL W2 Z) 14 (W7 W2 bl ol cl l u.x.p u.k T (nth l u.x.p).h m Z) (fun x => [(10, .slice (some ⟨x.b, 0, none⟩) Z.length x.cap)]) (fun x => [.obj true b4 [.slice none 0 0] 22, .obj true b5 [.int .i64 0] 26, .obj true x.b x.cs 55]) kR kR kR W7_kept ⟨⟨⟨⟨⟨⟨⟨⟨⟨⟨⟨⟨⟨⟨trivial, ?o0⟩, ?o1⟩, ?o2⟩, ?o3⟩, ?o4⟩, ?o5⟩, ?o6⟩, ?o7⟩, ?o8⟩, ?o9⟩, ?o10⟩, ?o11⟩, ?o12⟩, ?o13⟩ ?_ fun x => ?_
   case o0 =>
    exact aVal1 22 [(6, some (.pointer (some ⟨b6, 0, none⟩)))] [6] kR kR kR kR fun w hs => ⟨.slice u.k.A u.k.n u.k.c, kR, kR, rfl⟩
   case o1 =>
    exact aVal1 23 [(3, some (.pointer (some ⟨b3, 0, none⟩)))] [3, 3, 3, 3, 3] kR kR kR kR fun w hs => ⟨T.v, kR, kR, rfl⟩
   case o2 =>
    exact aVal1 24 [(9, some (.pointer (some ⟨bl, ol + u.x.p * 19, none⟩)))] [] kR kR kR kR fun w hs => ⟨.pointer (some ⟨bl, ol + u.x.p * 19, none⟩), kR, kR, rfl⟩
   case o3 =>
    exact aVal1 25 [(24, none)] [] kR kR kR kR fun w hs v24 h24 => by
     obtain rfl := (show v24 = .pointer (some ⟨bl, ol + u.x.p * 19, none⟩) from h24)
     exact ⟨.pointer (some ⟨bl, ol + u.x.p * 19, none⟩), kR, kR, rfl⟩
   case o4 =>
    exact aVal1 26 [(25, none)] [] kR kR kR kR fun w hs v25 h25 => by
     obtain rfl := (show v25 = .pointer (some ⟨bl, ol + u.x.p * 19, none⟩) from h25)
     exact ⟨.pointer (some ⟨bl, ol + u.x.p * 19 + 4, none⟩), kR, kR, rfl⟩
   case o5 =>
    exact aSem1 27 [(26, none)] kR kR kR kR fun w hs v26 h26 => by
     obtain rfl := (show v26 = .pointer (some ⟨bl, ol + u.x.p * 19 + 4, none⟩) from h26)
     exact ⟨loadSem 3 (.pointer (some ⟨bl, ol + u.x.p * 19 + 4, none⟩)), .int .i64 (nth l u.x.p).h, kR, Sat.rowload1 (T := 3) (i := 0) (b := bl) (off := ol) (sz := 19) (n := l.length) (k := u.x.p) (j := 4) (f := rowOf l) (v := .int .i64 (nth l u.x.p).h) hs kR hp kR rfl, rfl⟩
   case o6 =>
    exact aCall1 28 [(23, none), (27, none)] kR kR kR kR fun w hs v23 h23 v27 h27 => by
     obtain rfl := (show v23 = T.v from h23)
     obtain rfl := (show v27 = .int .i64 (nth l u.x.p).h from h27)
     exact ⟨48, #[T.v, .int .i64 (nth l u.x.p).h], kR, (htop w).mono fun e w' hh => ⟨_, hh.1, hh.2, rfl⟩⟩
   case o7 =>
    exact aNew1 29 [(28, none)] kR kR kR kR fun w hs v28 h28 => by
     obtain rfl := (show v28 = .agg (nodC m).toArray from h28)
     exact ⟨.slice (some ⟨w.heap.size, 0, none⟩) 1 1, nodC m, 55, kR, fun w' _ h => ⟨w.heap.size, rfl, h⟩⟩
   case o8 =>
    exact aVal1 30 [(2, some (.pointer (some ⟨b2, 0, none⟩)))] [2] kR kR kR kR fun w hs => ⟨.slice (some ⟨bl, ol, none⟩) l.length cl, kR, kR, rfl⟩
   case o9 =>
    exact aVal1 31 [(7, some (.int .i64 ((u.x.p : Nat) : Int)))] [] kR kR kR kR fun w hs => ⟨.int .i64 ((u.x.p : Nat) : Int), kR, kR, rfl⟩
   case o10 =>
    exact aSem1 32 [(30, none), (31, none)] kR kR kR kR fun w hs v30 h30 v31 h31 => by
     obtain rfl := (show v30 = .slice (some ⟨bl, ol, none⟩) l.length cl from h30)
     obtain rfl := (show v31 = .int .i64 ((u.x.p : Nat) : Int) from h31)
     exact ⟨sliceSem 22 (.slice (some ⟨bl, ol, none⟩) l.length cl) (some (.int .i64 ((u.x.p : Nat) : Int))) none none, .slice (some ⟨bl, ol + u.x.p * 19, none⟩) (l.length - u.x.p) (cl - u.x.p), kR, tail_to (P := Try.prog) (T := 22) (E := 55) (sz := 19) w kR kR hp hcl, rfl⟩
   case o11 =>
    exact aNew1 33 [(22, none), (29, none), (32, none)] kR kR kR kR fun w hs v22 h22 v29 h29 v32 h32 => by
     obtain rfl := (show v22 = .slice u.k.A u.k.n u.k.c from h22)
     obtain rfl := (show v32 = .slice (some ⟨bl, ol + u.x.p * 19, none⟩) (l.length - u.x.p) (cl - u.x.p) from h32)
     obtain ⟨b1, rfl, hb1⟩ := h29
     exact ⟨.slice (some ⟨w.heap.size, 0, none⟩) 3 3, [.slice u.k.A u.k.n u.k.c, .slice (some ⟨b1, 0, none⟩) 1 1, .slice (some ⟨bl, ol + u.x.p * 19, none⟩) (l.length - u.x.p) (cl - u.x.p)], 22, kR, fun w' k h => ⟨w.heap.size, b1, rfl, h, obj_kept hb1 k⟩⟩
   case o12 =>
    exact aCall1 34 [(33, none)] kR kR kR kR fun w hs v33 h33 => by
     obtain ⟨b, b1, rfl, hb, hb1⟩ := h33
     exact ⟨43, #[.slice (some ⟨b, 0, none⟩) 3 3], kR, (concat_kp u.k m l u.x.p (Nat.le_of_lt hp) (by omega) Z hz b b1 bl ol (cl - u.x.p) w hb hb1 (hs.read [0] [.row bl ol 19 l.length (rowOf l)] kR) (fun b hb => u.k.asRow (hp := [.row bl ol 19 l.length (rowOf l), u.k.e, .obj true b2 [.slice (some ⟨bl, ol, none⟩) l.length cl] 22, .obj true b3 T.cs 24, .obj true b4 [.slice none 0 0] 22, .obj true b5 [.int .i64 0] 26, .obj true b6 [.slice u.k.A u.k.n u.k.c] 22, .obj true x1 [.slice (some ⟨bl, ol, none⟩) l.length cl] 22]) (i := 1) rfl (hs.at kR) hb)).mono fun e w' ⟨x, he, hx⟩ => ⟨_, he, hx.kept.kept, ⟨x.b, x.cap, x.cs, Nat.le_trans hs.kept.size x.new, x.le, x.len, x.row⟩, rfl, hx.obj (o := true) (i := 0) rfl⟩⟩
   case o13 =>
    exact aVal1 10 [(34, none)] [] kR kR kR kR fun w hs v34 h34 => by
     obtain ⟨x, rfl, h1⟩ := h34
     exact ⟨_, kR, kR, x, rfl, h1⟩
   ·intro w1 f hs hf
    obtain ⟨x, h1, h2⟩ := hf 10 kR
    exact ⟨x, fun p hp => by
     simp only [List.mem_cons, List.not_mem_nil, or_false] at hp
     subst hp
     exact ⟨h1, by kernel_rfl⟩, add_new (hs.pick [4, 5] (by decide) kR) h2 x.new (by decide) (by decide)⟩
   by_cases hbig : 2000 < Z.length
   ·refine g0 ?_
    refine g_dec 37 (decide ((↑Z.length : Int) > 2000)) kR (fun h37 => ?_) (fun h37 => ?_)
    ·refine gA ([0] ++ [1]) 1 ?_
     refine g_leave hRd .ret kR (.refl _ _) (fun D W3 bs3 hD he hd hf => ?_)
     refine g_retM (W0 := w) (bs0 := []) [0, 1] (.tuple #[.slice none 0 0, .int .i64 6]) kR kR [D] kR he (fun D' hD' => by rw [List.mem_singleton.1 hD']; exact ⟨hD, hd, hf⟩) (by simp) fun w3 hs3 => ?_
     exact ⟨.none, by rw [errP_big hbig]; rfl, (Sat.pick (hp' := []) hs3 [] (by decide) kR).dummy, by rw [decide_eq_true hbig]; rfl⟩
    exact absurd h37 (by intro hx; clear hR hN hRd; simp at hx; omega)
   refine g0 ?_
   refine g_dec 37 (decide ((↑Z.length : Int) > 2000)) kR (fun h37 => ?_) (fun h37 => ?_)
   ·exact absurd h37 (by intro hx; clear hR hN hRd; simp at hx; omega)
   refine gA ([0] ++ [1]) 1 ?_
   refine g_leave hRd .ret kR (.refl _ _) (fun D W3 bs3 hD he hd hf => ?_)
   refine g_retM (W0 := w) (bs0 := []) [0, 1] (.tuple #[.slice (some ⟨x.b, 0, none⟩) Z.length x.cap, .int .i64 0]) kR kR [D] kR he (fun D' hD' => by rw [List.mem_singleton.1 hD']; exact ⟨hD, hd, hf⟩) (by simp) fun w3 hs3 => ?_
   exact ⟨x.kp hzp, by rw [errP_small hbig]; rfl, hs3.pick [2] (by decide) kR, by rw [decide_eq_false hbig]; rfl⟩
  have hsol' : solidB (nth l u.x.p).kind = false := by simpa using hsol
  have hS : ∀ w, Calls Try.prog 47 #[.int .i64 (nth l u.x.p).kind] w fun e w' => e = .returned (.bool false) ∧ Kept w w' := fun w => hsol' ▸ vsolid_any (nth l u.x.p).kind w
  by_cases hfl : fallsB (nth l u.x.p).kind = true
  ·have hF : ∀ w, Calls Try.prog 49 #[.int .i64 (nth l u.x.p).kind] w fun e w' => e = .returned (.bool true) ∧ Kept w w' := fun w => hfl ▸ vfalls_any (nth l u.x.p).kind w
   refine gU 16 [] 0 ?_
   refine g_val _ _ ?_ (fun w _hs => idx0_run (P := Try.prog) (T := 22) (E := 55) (b := bl) (o := ol + u.x.p * 19) (n := e - u.x.p) (c := e - u.x.p) (sz := 19) w kR kR h0) ?_
   ·kernel_rfl
   refine gU 20 [] 0 ?_
   refine g_val _ _ ?_ (fun w _hs => Sat.rowload1 (T := 3) (i := 0) (b := bl) (off := ol) (sz := 19) (n := l.length) (k := u.x.p) (j := 0) (f := rowOf l) (v := .int .i64 (nth l u.x.p).kind) _hs kR hp kR rfl) ?_
   ·kernel_rfl
   refine g_callq _ _ _ ?_ (fun w hs => hS w) ?_
   ·kernel_rfl
   refine gU 40 [] 1 ?_
   refine g_val _ _ ?_ (fun w _hs => idx0_run (P := Try.prog) (T := 22) (E := 55) (b := bl) (o := ol + u.x.p * 19) (n := e - u.x.p) (c := e - u.x.p) (sz := 19) w kR kR h0) ?_
   ·kernel_rfl
   refine gU 42 [] 0 ?_
   refine g_val _ _ ?_ (fun w _hs => Sat.rowload1 (T := 3) (i := 0) (b := bl) (off := ol) (sz := 19) (n := l.length) (k := u.x.p) (j := 0) (f := rowOf l) (v := .int .i64 (nth l u.x.p).kind) _hs kR hp kR rfl) ?_
   ·kernel_rfl
   refine g_callq _ _ _ ?_ (fun w hs => hF w) ?_
   ·kernel_rfl
   refine gA [] 1 ?_
   exact g_endX hRd kR (.refl _ _) ⟨u.fall e hp he hlt hsol' hfl, rfl, by kernel_rfl⟩
  have hfl' : fallsB (nth l u.x.p).kind = false := by simpa using hfl
  have hF : ∀ w, Calls Try.prog 49 #[.int .i64 (nth l u.x.p).kind] w fun e w' => e = .returned (.bool false) ∧ Kept w w' := fun w => hfl' ▸ vfalls_any (nth l u.x.p).kind w
  refine gU 16 [] 0 ?_
  refine g_val _ _ ?_ (fun w _hs => idx0_run (P := Try.prog) (T := 22) (E := 55) (b := bl) (o := ol + u.x.p * 19) (n := e - u.x.p) (c := e - u.x.p) (sz := 19) w kR kR h0) ?_
  ·kernel_rfl
  refine gU 20 [] 0 ?_
  refine g_val _ _ ?_ (fun w _hs => Sat.rowload1 (T := 3) (i := 0) (b := bl) (off := ol) (sz := 19) (n := l.length) (k := u.x.p) (j := 0) (f := rowOf l) (v := .int .i64 (nth l u.x.p).kind) _hs kR hp kR rfl) ?_
  ·kernel_rfl
  refine g_callq _ _ _ ?_ (fun w hs => hS w) ?_
  ·kernel_rfl
  refine gU 40 [] 1 ?_
  refine g_val _ _ ?_ (fun w _hs => idx0_run (P := Try.prog) (T := 22) (E := 55) (b := bl) (o := ol + u.x.p * 19) (n := e - u.x.p) (c := e - u.x.p) (sz := 19) w kR kR h0) ?_
  ·kernel_rfl
  refine gU 42 [] 0 ?_
  refine g_val _ _ ?_ (fun w _hs => Sat.rowload1 (T := 3) (i := 0) (b := bl) (off := ol) (sz := 19) (n := l.length) (k := u.x.p) (j := 0) (f := rowOf l) (v := .int .i64 (nth l u.x.p).kind) _hs kR hp kR rfl) ?_
  ·kernel_rfl
  refine g_callq _ _ _ ?_ (fun w hs => hF w) ?_
  ·kernel_rfl
  refine gU 47 ([6]) 1 ?_
  refine g_anyW (X := GrowX W2 bs2 (rowOf l) u.x.p (e - u.x.p) 19 u.k.n u.k.oc) (appSem 22 22 (.slice u.k.A u.k.n u.k.c) (.slice (some ⟨bl, ol + u.x.p * 19, none⟩) (e - u.x.p) (e - u.x.p))) (fun g => .slice (some ⟨g.b, 0, none⟩) (u.k.n + (e - u.x.p)) g.cap) (fun g => [.row bl ol 19 l.length (rowOf l), .obj true g.b g.cs' 55, .obj true b2 [.slice (some ⟨bl, ol, none⟩) l.length cl] 22, .obj true b3 T.cs 24, .obj true b4 [.slice none 0 0] 22, .obj true b5 [.int .i64 0] 26, .obj true b6 [.slice u.k.A u.k.n u.k.c] 22, .obj true x1 [.slice (some ⟨bl, ol, none⟩) l.length cl] 22]) kR (fun w hs => appRow_run (P := Try.prog) (hp := [.row bl ol 19 l.length (rowOf l), u.k.e, .obj true b2 [.slice (some ⟨bl, ol, none⟩) l.length cl] 22, .obj true b3 T.cs 24, .obj true b4 [.slice none 0 0] 22, .obj true b5 [.int .i64 0] 26, .obj true b6 [.slice u.k.A u.k.n u.k.c] 22, .obj true x1 [.slice (some ⟨bl, ol, none⟩) l.length cl] 22]) (i := 1) (j := 0) (hs.at kR) kR (info_of kR) (u.k.row kR) kR (fun _ => rfl) (rowOf_one l) hm1 hm2 rfl hm3 hm4) (fun g => ?_)
  refine gA ([6]) 0 ?_
  exact g_endX hRd kR (.refl _ _) ⟨u.keep e hp he hlt hel hsol' hfl' g, rfl, by kernel_rfl⟩
 intro D W3 bs3 hD he hd hf
 refine gA ([6] ++ [4] ++ [5]) 0 ?_
 refine g_retM (W0 := w) (bs0 := []) [4, 5] (.tuple #[.slice u.k.A u.k.n u.k.c, .int .i64 0]) kR kR [D] kR he (fun D' hD' => by rw [List.mem_singleton.1 hD']; exact ⟨hD, hd, hf⟩) (by simp) fun w3 hs3 => ?_
 exact ⟨u.k, by rw [(pr_end u hu hG.le hZ).1], hs3.pick [1] (by decide) kR, (pr_end u hu hG.le hZ).2⟩
end Go.Proofs.Ytcncfmjfgdbfeab
