/- vlist.Append of a box. -/
import Derived.Test.YtcncfmjfgdbfeabM39
import Derived.Test.YtcncfmjfgdbfeabM27
import Derived.Test.YtcncfmjfgdbfeabM38
namespace Go.Proofs.Ytcncfmjfgdbfeab
set_option maxRecDepth 100000
set_option maxHeartbeats 4000000
open Go.RowKit
abbrev bxN (h d : Int) : Nod := ⟨5, 0, 0, 0, h, d, 0, 0, 0, 0, 0, 0, 0, 0, 0, 0, 0, 0, ⟨#[]⟩⟩
abbrev enN : Nod := ⟨6, 0, 0, 0, 0, 0, 0, 0, 0, 0, 0, 0, 0, 0, 0, 0, 0, 0, ⟨#[]⟩⟩
def boxL (h d : Int) : List Nod := [bxN h d, enN]
theorem bx_right (h d : Int) (hh : dimB h = true) (hd : dimB d = true) : rightB (bxN h d) = true := by
 simp only [dimB_iff] at hh hd
 simp [rightB, boxB, d4B, dimB, setB, onlyB]
 omega
theorem bx_good (h d : Int) (hr : rightB (bxN h d) = true) : ∃ W, Good (boxL h d) W ∧ countN (boxL h d) W = 1 := by
 refine ⟨⟨[2, 0], [], deep 0 0⟩, ⟨by simp [boxL], ?_, rfl, by decide⟩, rfl⟩
 show walkW _ 2 0 (walk0 (boxL h d)) = _
 unfold walkW
 rw [show rightB (nth (boxL h d) 0) = true from hr, cond_true]
 rfl
theorem bx_count (h d : Int) (hh : dimB h = true) (hd : dimB d = true) (b : Nat) (w : World) (hb : Sat w [] [.row b 0 19 2 (rowOf (boxL h d))] w) :
  Calls Try.prog 41 #[.slice (some ⟨b, 0, none⟩) 2 2] w fun e w' => e = .returned (.tuple #[.int .i64 1, .int .i64 0]) ∧ Kept w w' := by
 obtain ⟨W, h1, h2⟩ := bx_good h d (bx_right h d hh hd)
 have := goodCount_any (boxL h d) b 0 2 W h1 w hb
 rw [h2] at this
 exact this
theorem gcheck0 (a b c d f : Int) (hg : glueB a b c d f = true) (w : World) : Calls Try.prog 40 #[.agg #[.int .i64 a, .int .i64 b, .int .i64 c, .int .i64 d, .int .i64 f]] w fun e w' => e = .returned (.int .i64 0) ∧ Kept w w' := by
 have := gcheck_any a b c d f w
 rw [hg] at this
 exact this
theorem two_sat {w0 w : World} {b q : Nat} {cs cs2 : List Value} {T T2 : TypeId} (h : Sat w0 [] [.obj false b cs T] w) (hb : b < w0.heap.size) (hq : w0.heap.size ≤ q) (hc : w.heap[q]? = some (.cells cs2.toArray T2 (0, 0))) : Sat w0 [] [.obj false b cs T, .obj true q cs2 T2] w := by
 refine ⟨h.kept, fun e he => ?_, fun i j e e' hij hi hj ho hl => ?_⟩
 ·rcases List.mem_cons.1 he with rfl | he
  ·exact h.holds _ (List.mem_singleton.2 rfl)
  rw [List.mem_singleton.1 he]
  exact ⟨hc, fun _ => .inl hq⟩
 match i, j, hi, hj, hij with
 | 0, _, hi, _, _ => simp at hi; subst hi; cases ho
 | 1, 0, hi, hj, _ => simp at hi hj; subst hi; subst hj; show q ≠ b; omega
 | 1, 1, _, _, hij => exact absurd rfl hij
 | 1, j + 2, _, hj, _ => simp at hj
 | i + 2, _, hi, _, _ => simp at hi
theorem obj_kept {w w' : World} {q : Nat} {o : Obj} (h : w.heap[q]? = some o) (k : Kept w w') : w'.heap[q]? = some o := by
 rw [k.block q (Array.getElem?_eq_some_iff.1 h).1]
 exact h
def W61 (w0 : World) (b : Nat) (bef h lim : Int) (A C : Value) (n : Nod) : VP := fun s v w => match s with
 | 53 => v = .int .i64 bef
 | 54 => v = .slice (some ⟨b, 0, none⟩) 2 2
 | 55 => v = .pointer (some ⟨b, 0, none⟩)
 | 56 => v = .pointer (some ⟨b, 4, none⟩)
 | 57 => v = .int .i64 h
 | 58 => v = A
 | 59 => v = C
 | 60 => v = .int .i64 lim
 | 61 => ∃ q, w0.heap.size ≤ q ∧ v = .tuple #[.slice (some ⟨q, 0, none⟩) 1 1, .int .i64 0] ∧ w.heap[q]? = some (.cells (nodC n).toArray 55 (0, 0))
 | 52 => ∃ q, w0.heap.size ≤ q ∧ v = .tuple #[.slice (some ⟨q, 0, none⟩) 1 1, .int .i64 0] ∧ w.heap[q]? = some (.cells (nodC n).toArray 55 (0, 0))
 | 62 => ∃ q, w0.heap.size ≤ q ∧ v = .slice (some ⟨q, 0, none⟩) 1 1 ∧ w.heap[q]? = some (.cells (nodC n).toArray 55 (0, 0))
 | 63 => v = .int .i64 0
 | 14 => ∃ q, w0.heap.size ≤ q ∧ v = .slice (some ⟨q, 0, none⟩) 1 1 ∧ w.heap[q]? = some (.cells (nodC n).toArray 55 (0, 0))
 | 12 => v = .int .i64 0
 | _ => True
theorem W61_kept {w0 : World} {b : Nat} {bef h lim : Int} {A C : Value} {n : Nod} : ∀ s v w w', W61 w0 b bef h lim A C n s v w → Kept w w' → W61 w0 b bef h lim A C n s v w' := by
 intro s v w w' hw k
 revert hw
 unfold W61
 split <;> intro hw <;> first | exact hw | exact hw.imp fun q hq => ⟨hq.1, hq.2.1, obj_kept hq.2.2 k⟩
def W70 (w0 : World) (b q : Nat) (d : Int) (n1 n2 n3 : Nod) : VP := fun s v w => match s with
 | 67 => v = .slice (some ⟨q, 0, none⟩) 1 1
 | 68 => v = .slice (some ⟨b, 0, none⟩) 2 2
 | 69 => ∃ bs, v = .slice (some ⟨bs, 0, none⟩) 2 2 ∧ w.heap[bs]? = some (.cells (#[.slice (some ⟨q, 0, none⟩) 1 1, .slice (some ⟨b, 0, none⟩) 2 2] : Array Value) 22 (0, 0))
 | 70 => ∃ x : CatX w0 n1 n2 n3, v = .slice (some ⟨x.b, 0, none⟩) 3 x.cap ∧ w.heap[x.b]? = some (.cells x.cs.toArray 55 (0, 0))
 | 71 => v = .slice (some ⟨b, 0, none⟩) 2 2
 | 72 => v = .pointer (some ⟨b, 0, none⟩)
 | 73 => v = .pointer (some ⟨b, 5, none⟩)
 | 74 => v = .int .i64 d
 | 10 => ∃ x : CatX w0 n1 n2 n3, v = .slice (some ⟨x.b, 0, none⟩) 3 x.cap ∧ w.heap[x.b]? = some (.cells x.cs.toArray 55 (0, 0))
 | 11 => v = .int .i64 d
 | 12 => v = .int .i64 0
 | _ => True
theorem W70_kept {w0 : World} {b q : Nat} {d : Int} {n1 n2 n3 : Nod} : ∀ s v w w', W70 w0 b q d n1 n2 n3 s v w → Kept w w' → W70 w0 b q d n1 n2 n3 s v w' := by
 intro s v w w' hw k
 revert hw
 unfold W70
 split <;> intro hw <;> first | exact hw | exact hw.imp fun q hq => ⟨hq.1, obj_kept hq.2 k⟩
theorem new_sat {w0 w : World} {q : Nat} {cs2 : List Value} {T2 : TypeId} (k : Kept w0 w) (hq : w0.heap.size ≤ q) (hc : w.heap[q]? = some (.cells cs2.toArray T2 (0, 0))) : Sat w0 [] [.obj true q cs2 T2] w := Sat.one k hq hc
theorem append_line (bef h d a0 a1 a2 a3 a4 c0 c1 c2 c3 c4 lim y x : Int) (b : Nat) (hbef : d2B bef lim = true) (hga : glueB a0 a1 a2 a3 a4 = true) (hgc : glueB c0 c1 c2 c3 c4 = true) (hh : dimB h = true) (hdd : dimB d = true) (hb : -65536000 < bef) (hy : IntKind.i64.wrap (a0 - bef) = y) (hx : IntKind.i64.wrap (y - h) = x) (hd : dimB x = true) (hl : x < lim) (w : World) (hq : Sat w [] [.obj false b (nodC (bxN h d) ++ nodC enN) 55] w) :
  Calls Try.prog 21 #[.int .i64 bef, .slice (some ⟨b, 0, none⟩) 2 2, .agg #[.int .i64 a0, .int .i64 a1, .int .i64 a2, .int .i64 a3, .int .i64 a4], .agg #[.int .i64 c0, .int .i64 c1, .int .i64 c2, .int .i64 c3, .int .i64 c4], .int .i64 lim] w fun e w' => ∃ x : CatX w (⟨7, 0, 0, 0, 0, 0, 0, c0, c1, c2, c3, c4, 0, 0, 0, 0, 0, 1, ⟨#[]⟩⟩ : Nod) (bxN h d) enN, e = .returned (.tuple #[.slice (some ⟨x.b, 0, none⟩) 3 x.cap, .int .i64 d, .int .i64 0]) ∧ Sat w [] [.obj true x.b x.cs 55] w' := by
 have hbw : b < w.heap.size := HE.holds_lt (hq.holds _ (List.mem_singleton.2 rfl)) trivial
 refine g_enter (args := [.int .i64 bef, .slice (some ⟨b, 0, none⟩) 2 2, .agg #[.int .i64 a0, .int .i64 a1, .int .i64 a2, .int .i64 a3, .int .i64 a4], .agg #[.int .i64 c0, .int .i64 c1, .int .i64 c2, .int .i64 c3, .int .i64 c4], .int .i64 lim]) [] [.obj false b (nodC (bxN h d) ++ nodC enN) 55] Try.func21 rfl Try.ntmps21 kL hq ?_
 refine g0 ?_
 refine gN fun b1 hb1 => ?_
 refine gN fun b2 hb2 => ?_
 refine g0 ?_
 refine gN fun b3 hb3 => ?_
 refine g_callq _ _ _ ?_ (fun w hs => szdims2v b3 bef lim true hbef w (hs.obj (o := true) (i := 3) kR)) ?_
 ·kernel_rfl
 refine gA (List.replicate 5 1) 1 ?_
 refine g_callq _ _ _ ?_ (fun w hs => gcheck0 a0 a1 a2 a3 a4 hga w) ?_
 ·kernel_rfl
 refine gA (List.replicate 5 2) 1 ?_
 refine g_callq _ _ _ ?_ (fun w hs => gcheck0 c0 c1 c2 c3 c4 hgc w) ?_
 ·kernel_rfl
 refine gA [] 2 ?_
 refine g_callq _ _ _ ?_ (fun w hs => bx_count h d hh hdd b w (hs.asRow (i := 0) (o := false) (cs := nodC (bxN h d) ++ nodC enN) (E := 55) kR (fun _ => rfl) rfl)) ?_
 ·kernel_rfl
 refine gA ([0, 0]) 14 ?_
 refine g_drawA (X := { q : Nat // w.heap.size ≤ q }) 14 (W61 w b bef h lim (.agg #[.int .i64 a0, .int .i64 a1, .int .i64 a2, .int .i64 a3, .int .i64 a4]) (.agg #[.int .i64 c0, .int .i64 c1, .int .i64 c2, .int .i64 c3, .int .i64 c4]) (⟨7, 0, 0, 0, 0, 0, 0, c0, c1, c2, c3, c4, 0, 0, 0, 0, 0, 1, ⟨#[]⟩⟩ : Nod)) (fun q => [(14, .slice (some ⟨q.1, 0, none⟩) 1 1), (12, .int .i64 0)]) (fun q => [.obj false b (nodC (bxN h d) ++ nodC enN) 55, .obj true q.1 (nodC (⟨7, 0, 0, 0, 0, 0, 0, c0, c1, c2, c3, c4, 0, 0, 0, 0, 0, 1, ⟨#[]⟩⟩ : Nod)) 55]) kR kR kR W61_kept ⟨⟨⟨⟨⟨⟨⟨⟨⟨⟨⟨⟨⟨⟨trivial, ?o0⟩, ?o1⟩, ?o2⟩, ?o3⟩, ?o4⟩, ?o5⟩, ?o6⟩, ?o7⟩, ?o8⟩, ?o9⟩, ?o10⟩, ?o11⟩, ?o12⟩, ?o13⟩ ?_ fun q => ?_
 case o0 =>
  exact aVal1 53 [(0, some (.int .i64 bef))] [] kR kR kR kR fun w hs => ⟨.int .i64 bef, kR, kR, rfl⟩
 case o1 =>
  exact aVal1 54 [(1, some (.slice (some ⟨b, 0, none⟩) 2 2))] [] kR kR kR kR fun w hs => ⟨.slice (some ⟨b, 0, none⟩) 2 2, kR, kR, rfl⟩
 case o2 =>
  exact aVal1 55 [(54, none)] [] kR kR kR kR fun w hs v54 h54 => by
   obtain rfl := (show v54 = .slice (some ⟨b, 0, none⟩) 2 2 from h54)
   exact ⟨.pointer (some ⟨b, 0, none⟩), kR, kR, rfl⟩
 case o3 =>
  exact aVal1 56 [(55, none)] [] kR kR kR kR fun w hs v55 h55 => by
   obtain rfl := (show v55 = .pointer (some ⟨b, 0, none⟩) from h55)
   exact ⟨.pointer (some ⟨b, 4, none⟩), kR, kR, rfl⟩
 case o4 =>
  exact aVal1 57 [(56, none)] [0] kR kR kR kR fun w hs v56 h56 => by
   obtain rfl := (show v56 = .pointer (some ⟨b, 4, none⟩) from h56)
   exact ⟨.int .i64 h, kR, kR, rfl⟩
 case o5 =>
  exact aVal1 58 [(7, some (.pointer (some ⟨b1, 0, none⟩)))] [1, 1, 1, 1, 1] kR kR kR kR fun w hs => ⟨.agg #[.int .i64 a0, .int .i64 a1, .int .i64 a2, .int .i64 a3, .int .i64 a4], kR, kR, rfl⟩
 case o6 =>
  exact aVal1 59 [(8, some (.pointer (some ⟨b2, 0, none⟩)))] [2, 2, 2, 2, 2] kR kR kR kR fun w hs => ⟨.agg #[.int .i64 c0, .int .i64 c1, .int .i64 c2, .int .i64 c3, .int .i64 c4], kR, kR, rfl⟩
 case o7 =>
  exact aVal1 60 [(4, some (.int .i64 lim))] [] kR kR kR kR fun w hs => ⟨.int .i64 lim, kR, kR, rfl⟩
 case o8 =>
  exact aCall1 61 [(53, none), (57, none), (58, none), (59, none), (60, none)] kR kR kR kR fun w1 hs v53 h53 v57 h57 v58 h58 v59 h59 v60 h60 => by
   obtain rfl := (show v53 = .int .i64 bef from h53)
   obtain rfl := (show v57 = .int .i64 h from h57)
   obtain rfl := (show v58 = .agg #[.int .i64 a0, .int .i64 a1, .int .i64 a2, .int .i64 a3, .int .i64 a4] from h58)
   obtain rfl := (show v59 = .agg #[.int .i64 c0, .int .i64 c1, .int .i64 c2, .int .i64 c3, .int .i64 c4] from h59)
   obtain rfl := (show v60 = .int .i64 lim from h60)
   exact ⟨42, #[.int .i64 bef, .int .i64 h, .agg #[.int .i64 a0, .int .i64 a1, .int .i64 a2, .int .i64 a3, .int .i64 a4], .agg #[.int .i64 c0, .int .i64 c1, .int .i64 c2, .int .i64 c3, .int .i64 c4], .int .i64 lim], kR, (inter_line bef h a0 a1 a2 a3 a4 c0 c1 c2 c3 c4 lim y x hb hy hx hd hl w1).mono fun e w' ⟨q, he, hq⟩ => ⟨_, he, hq.kept.kept, q.b, Nat.le_trans hs.kept.size q.new, rfl, hq.obj (o := true) (i := 0) rfl⟩⟩
 case o9 =>
  exact aVal1 52 [(61, none)] [] kR kR kR kR fun w hs v61 h61 => by
   obtain ⟨q, h1, rfl, h2⟩ := h61
   exact ⟨_, kR, kR, q, h1, rfl, h2⟩
 case o10 =>
  exact aVal1 62 [(52, none)] [] kR kR kR kR fun w hs v52 h52 => by
   obtain ⟨q, h1, rfl, h2⟩ := h52
   exact ⟨.slice (some ⟨q, 0, none⟩) 1 1, kR, kR, q, h1, rfl, h2⟩
 case o11 =>
  exact aVal1 63 [(52, none)] [] kR kR kR kR fun w hs v52 h52 => by
   obtain ⟨q, h1, rfl, h2⟩ := h52
   exact ⟨.int .i64 0, kR, kR, rfl⟩
 case o12 =>
  exact aVal1 14 [(62, none)] [] kR kR kR kR fun w hs v62 h62 => by
   obtain ⟨q, h1, rfl, h2⟩ := h62
   exact ⟨_, kR, kR, q, h1, rfl, h2⟩
 case o13 =>
  exact aVal1 12 [(63, none)] [] kR kR kR kR fun w hs v63 h63 => by
   obtain rfl := (show v63 = .int .i64 0 from h63)
   exact ⟨.int .i64 0, kR, kR, rfl⟩
 ·intro w1 f hs hf
  obtain ⟨q, h1, h2, h3⟩ := hf 14 kR
  exact ⟨⟨q, h1⟩, fun p hp => by
   simp only [List.mem_cons, List.not_mem_nil, or_false] at hp
   rcases hp with rfl | rfl
   ·exact ⟨h2, by kernel_rfl⟩
   exact ⟨hf 12 kR, by kernel_rfl⟩, two_sat (hs.pick [0] (by decide) kR) hbw h1 h3⟩
 obtain ⟨q, hq0⟩ := q
 refine gA [] 1 ?_
 refine g_drawA (X := CatX w (⟨7, 0, 0, 0, 0, 0, 0, c0, c1, c2, c3, c4, 0, 0, 0, 0, 0, 1, ⟨#[]⟩⟩ : Nod) (bxN h d) enN) 11 (W70 w b q d (⟨7, 0, 0, 0, 0, 0, 0, c0, c1, c2, c3, c4, 0, 0, 0, 0, 0, 1, ⟨#[]⟩⟩ : Nod) (bxN h d) enN) (fun x => [(10, .slice (some ⟨x.b, 0, none⟩) 3 x.cap), (11, .int .i64 d), (12, .int .i64 0)]) (fun x => [.obj true x.b x.cs 55]) kR kR kR W70_kept ⟨⟨⟨⟨⟨⟨⟨⟨⟨⟨⟨trivial, ?o0⟩, ?o1⟩, ?o2⟩, ?o3⟩, ?o4⟩, ?o5⟩, ?o6⟩, ?o7⟩, ?o8⟩, ?o9⟩, ?o10⟩ ?_ fun x => ?_
 case o0 =>
  exact aVal1 67 [(14, some (.slice (some ⟨q, 0, none⟩) 1 1))] [] kR kR kR kR fun w hs => ⟨.slice (some ⟨q, 0, none⟩) 1 1, kR, kR, rfl⟩
 case o1 =>
  exact aVal1 68 [(1, some (.slice (some ⟨b, 0, none⟩) 2 2))] [] kR kR kR kR fun w hs => ⟨.slice (some ⟨b, 0, none⟩) 2 2, kR, kR, rfl⟩
 case o2 =>
  exact aNew1 69 [(67, none), (68, none)] kR kR kR kR fun w1 hs v67 h67 v68 h68 => by
   obtain rfl := (show v67 = .slice (some ⟨q, 0, none⟩) 1 1 from h67)
   obtain rfl := (show v68 = .slice (some ⟨b, 0, none⟩) 2 2 from h68)
   exact ⟨.slice (some ⟨w1.heap.size, 0, none⟩) 2 2, [.slice (some ⟨q, 0, none⟩) 1 1, .slice (some ⟨b, 0, none⟩) 2 2], 22, kR, fun w' _ h => ⟨w1.heap.size, rfl, h⟩⟩
 case o3 =>
  exact aCall1 70 [(69, none)] kR kR kR kR fun w1 hs v69 h69 => by
   obtain ⟨bs, rfl, h69⟩ := h69
   exact ⟨43, #[.slice (some ⟨bs, 0, none⟩) 2 2], kR, (concat12 (⟨7, 0, 0, 0, 0, 0, 0, c0, c1, c2, c3, c4, 0, 0, 0, 0, 0, 1, ⟨#[]⟩⟩ : Nod) (bxN h d) enN bs q b w1 ((((hs.read [1, 0] [.obj false q (nodC (⟨7, 0, 0, 0, 0, 0, 0, c0, c1, c2, c3, c4, 0, 0, 0, 0, 0, 1, ⟨#[]⟩⟩ : Nod)) 55, .obj false b (nodC (bxN h d) ++ nodC enN) 55] kR).plus (by simp [HE.own]) h69).at' rfl).pick [2, 0, 1] (by decide) rfl)).mono fun e w' ⟨x, he, hx⟩ => ⟨_, he, hx.kept.kept, ⟨x.b, x.cap, x.cs, Nat.le_trans hs.kept.size x.new, x.le, x.len, x.row⟩, rfl, hx.obj (o := true) (i := 0) rfl⟩⟩
 case o4 =>
  exact aVal1 71 [(1, some (.slice (some ⟨b, 0, none⟩) 2 2))] [] kR kR kR kR fun w hs => ⟨.slice (some ⟨b, 0, none⟩) 2 2, kR, kR, rfl⟩
 case o5 =>
  exact aVal1 72 [(71, none)] [] kR kR kR kR fun w hs v71 h71 => by
   obtain rfl := (show v71 = .slice (some ⟨b, 0, none⟩) 2 2 from h71)
   exact ⟨.pointer (some ⟨b, 0, none⟩), kR, kR, rfl⟩
 case o6 =>
  exact aVal1 73 [(72, none)] [] kR kR kR kR fun w hs v72 h72 => by
   obtain rfl := (show v72 = .pointer (some ⟨b, 0, none⟩) from h72)
   exact ⟨.pointer (some ⟨b, 5, none⟩), kR, kR, rfl⟩
 case o7 =>
  exact aVal1 74 [(73, none)] [0] kR kR kR kR fun w hs v73 h73 => by
   obtain rfl := (show v73 = .pointer (some ⟨b, 5, none⟩) from h73)
   exact ⟨.int .i64 d, kR, kR, rfl⟩
 case o8 =>
  exact aVal1 10 [(70, none)] [] kR kR kR kR fun w hs v70 h70 => by
   obtain ⟨x, rfl, hx⟩ := h70
   exact ⟨_, kR, kR, x, rfl, hx⟩
 case o9 =>
  exact aVal1 11 [(74, none)] [] kR kR kR kR fun w hs v74 h74 => by
   obtain rfl := (show v74 = .int .i64 d from h74)
   exact ⟨.int .i64 d, kR, kR, rfl⟩
 case o10 =>
  exact aVal1 12 [] [] kR kR kR kR fun w hs => ⟨.int .i64 0, kR, kR, rfl⟩
 ·intro w1 f hs hf
  obtain ⟨x, h1, h2⟩ := hf 10 kR
  refine ⟨x, fun p hp => ?_, new_sat hs.kk x.new h2⟩
  simp only [List.mem_cons, List.not_mem_nil, or_false] at hp
  rcases hp with rfl | rfl | rfl
  ·exact ⟨h1, by kernel_rfl⟩
  ·exact ⟨hf 11 kR, by kernel_rfl⟩
  exact ⟨hf 12 kR, by kernel_rfl⟩
 refine gR (Value.tuple (Array.mk [Value.slice (some (Addr.mk x.b 0 none)) 3 x.cap, Value.int IntKind.i64 d, Value.int IntKind.i64 0])) fun w' hs => ?_
 exact ⟨x, rfl, hs.pick [0] (by decide) kR⟩
theorem append_base (bef h d a0 a1 a2 a3 a4 c0 c1 c2 c3 c4 lim y x : Int) (b : Nat) (hbef : d2B bef lim = true) (hga : glueB a0 a1 a2 a3 a4 = true) (hgc : glueB c0 c1 c2 c3 c4 = true) (hh : dimB h = true) (hdd : dimB d = true) (hb : -65536000 < bef) (hy : IntKind.i64.wrap (a0 - bef) = y) (hx : IntKind.i64.wrap (y - h) = x) (hd : dimB x = true) (hl : ¬ x < lim) (w : World) (hq : Sat w [] [.obj false b (nodC (bxN h d) ++ nodC enN) 55] w) :
  Calls Try.prog 21 #[.int .i64 bef, .slice (some ⟨b, 0, none⟩) 2 2, .agg #[.int .i64 a0, .int .i64 a1, .int .i64 a2, .int .i64 a3, .int .i64 a4], .agg #[.int .i64 c0, .int .i64 c1, .int .i64 c2, .int .i64 c3, .int .i64 c4], .int .i64 lim] w fun e w' => ∃ x : CatX w (⟨7, 0, 0, 0, 0, 0, 0, x, a1, a2, a3, a4, 0, 0, 0, 0, 0, 2, ⟨#[]⟩⟩ : Nod) (bxN h d) enN, e = .returned (.tuple #[.slice (some ⟨x.b, 0, none⟩) 3 x.cap, .int .i64 d, .int .i64 0]) ∧ Sat w [] [.obj true x.b x.cs 55] w' := by
 have hbw : b < w.heap.size := HE.holds_lt (hq.holds _ (List.mem_singleton.2 rfl)) trivial
 refine g_enter (args := [.int .i64 bef, .slice (some ⟨b, 0, none⟩) 2 2, .agg #[.int .i64 a0, .int .i64 a1, .int .i64 a2, .int .i64 a3, .int .i64 a4], .agg #[.int .i64 c0, .int .i64 c1, .int .i64 c2, .int .i64 c3, .int .i64 c4], .int .i64 lim]) [] [.obj false b (nodC (bxN h d) ++ nodC enN) 55] Try.func21 rfl Try.ntmps21 kL hq ?_
 refine g0 ?_
 refine gN fun b1 hb1 => ?_
 refine gN fun b2 hb2 => ?_
 refine g0 ?_
 refine gN fun b3 hb3 => ?_
 refine g_callq _ _ _ ?_ (fun w hs => szdims2v b3 bef lim true hbef w (hs.obj (o := true) (i := 3) kR)) ?_
 ·kernel_rfl
 refine gA (List.replicate 5 1) 1 ?_
 refine g_callq _ _ _ ?_ (fun w hs => gcheck0 a0 a1 a2 a3 a4 hga w) ?_
 ·kernel_rfl
 refine gA (List.replicate 5 2) 1 ?_
 refine g_callq _ _ _ ?_ (fun w hs => gcheck0 c0 c1 c2 c3 c4 hgc w) ?_
 ·kernel_rfl
 refine gA [] 2 ?_
 refine g_callq _ _ _ ?_ (fun w hs => bx_count h d hh hdd b w (hs.asRow (i := 0) (o := false) (cs := nodC (bxN h d) ++ nodC enN) (E := 55) kR (fun _ => rfl) rfl)) ?_
 ·kernel_rfl
 refine gA ([0, 0]) 14 ?_
 refine g_drawA (X := { q : Nat // w.heap.size ≤ q }) 14 (W61 w b bef h lim (.agg #[.int .i64 a0, .int .i64 a1, .int .i64 a2, .int .i64 a3, .int .i64 a4]) (.agg #[.int .i64 c0, .int .i64 c1, .int .i64 c2, .int .i64 c3, .int .i64 c4]) (⟨7, 0, 0, 0, 0, 0, 0, x, a1, a2, a3, a4, 0, 0, 0, 0, 0, 2, ⟨#[]⟩⟩ : Nod)) (fun q => [(14, .slice (some ⟨q.1, 0, none⟩) 1 1), (12, .int .i64 0)]) (fun q => [.obj false b (nodC (bxN h d) ++ nodC enN) 55, .obj true q.1 (nodC (⟨7, 0, 0, 0, 0, 0, 0, x, a1, a2, a3, a4, 0, 0, 0, 0, 0, 2, ⟨#[]⟩⟩ : Nod)) 55]) kR kR kR W61_kept ⟨⟨⟨⟨⟨⟨⟨⟨⟨⟨⟨⟨⟨⟨trivial, ?o0⟩, ?o1⟩, ?o2⟩, ?o3⟩, ?o4⟩, ?o5⟩, ?o6⟩, ?o7⟩, ?o8⟩, ?o9⟩, ?o10⟩, ?o11⟩, ?o12⟩, ?o13⟩ ?_ fun q => ?_
 case o0 =>
  exact aVal1 53 [(0, some (.int .i64 bef))] [] kR kR kR kR fun w hs => ⟨.int .i64 bef, kR, kR, rfl⟩
 case o1 =>
  exact aVal1 54 [(1, some (.slice (some ⟨b, 0, none⟩) 2 2))] [] kR kR kR kR fun w hs => ⟨.slice (some ⟨b, 0, none⟩) 2 2, kR, kR, rfl⟩
 case o2 =>
  exact aVal1 55 [(54, none)] [] kR kR kR kR fun w hs v54 h54 => by
   obtain rfl := (show v54 = .slice (some ⟨b, 0, none⟩) 2 2 from h54)
   exact ⟨.pointer (some ⟨b, 0, none⟩), kR, kR, rfl⟩
 case o3 =>
  exact aVal1 56 [(55, none)] [] kR kR kR kR fun w hs v55 h55 => by
   obtain rfl := (show v55 = .pointer (some ⟨b, 0, none⟩) from h55)
   exact ⟨.pointer (some ⟨b, 4, none⟩), kR, kR, rfl⟩
 case o4 =>
  exact aVal1 57 [(56, none)] [0] kR kR kR kR fun w hs v56 h56 => by
   obtain rfl := (show v56 = .pointer (some ⟨b, 4, none⟩) from h56)
   exact ⟨.int .i64 h, kR, kR, rfl⟩
 case o5 =>
  exact aVal1 58 [(7, some (.pointer (some ⟨b1, 0, none⟩)))] [1, 1, 1, 1, 1] kR kR kR kR fun w hs => ⟨.agg #[.int .i64 a0, .int .i64 a1, .int .i64 a2, .int .i64 a3, .int .i64 a4], kR, kR, rfl⟩
 case o6 =>
  exact aVal1 59 [(8, some (.pointer (some ⟨b2, 0, none⟩)))] [2, 2, 2, 2, 2] kR kR kR kR fun w hs => ⟨.agg #[.int .i64 c0, .int .i64 c1, .int .i64 c2, .int .i64 c3, .int .i64 c4], kR, kR, rfl⟩
 case o7 =>
  exact aVal1 60 [(4, some (.int .i64 lim))] [] kR kR kR kR fun w hs => ⟨.int .i64 lim, kR, kR, rfl⟩
 case o8 =>
  exact aCall1 61 [(53, none), (57, none), (58, none), (59, none), (60, none)] kR kR kR kR fun w1 hs v53 h53 v57 h57 v58 h58 v59 h59 v60 h60 => by
   obtain rfl := (show v53 = .int .i64 bef from h53)
   obtain rfl := (show v57 = .int .i64 h from h57)
   obtain rfl := (show v58 = .agg #[.int .i64 a0, .int .i64 a1, .int .i64 a2, .int .i64 a3, .int .i64 a4] from h58)
   obtain rfl := (show v59 = .agg #[.int .i64 c0, .int .i64 c1, .int .i64 c2, .int .i64 c3, .int .i64 c4] from h59)
   obtain rfl := (show v60 = .int .i64 lim from h60)
   exact ⟨42, #[.int .i64 bef, .int .i64 h, .agg #[.int .i64 a0, .int .i64 a1, .int .i64 a2, .int .i64 a3, .int .i64 a4], .agg #[.int .i64 c0, .int .i64 c1, .int .i64 c2, .int .i64 c3, .int .i64 c4], .int .i64 lim], kR, (inter_base bef h a0 a1 a2 a3 a4 c0 c1 c2 c3 c4 lim y x hb hy hx hd hl w1).mono fun e w' ⟨q, he, hq⟩ => ⟨_, he, hq.kept.kept, q.b, Nat.le_trans hs.kept.size q.new, rfl, hq.obj (o := true) (i := 0) rfl⟩⟩
 case o9 =>
  exact aVal1 52 [(61, none)] [] kR kR kR kR fun w hs v61 h61 => by
   obtain ⟨q, h1, rfl, h2⟩ := h61
   exact ⟨_, kR, kR, q, h1, rfl, h2⟩
 case o10 =>
  exact aVal1 62 [(52, none)] [] kR kR kR kR fun w hs v52 h52 => by
   obtain ⟨q, h1, rfl, h2⟩ := h52
   exact ⟨.slice (some ⟨q, 0, none⟩) 1 1, kR, kR, q, h1, rfl, h2⟩
 case o11 =>
  exact aVal1 63 [(52, none)] [] kR kR kR kR fun w hs v52 h52 => by
   obtain ⟨q, h1, rfl, h2⟩ := h52
   exact ⟨.int .i64 0, kR, kR, rfl⟩
 case o12 =>
  exact aVal1 14 [(62, none)] [] kR kR kR kR fun w hs v62 h62 => by
   obtain ⟨q, h1, rfl, h2⟩ := h62
   exact ⟨_, kR, kR, q, h1, rfl, h2⟩
 case o13 =>
  exact aVal1 12 [(63, none)] [] kR kR kR kR fun w hs v63 h63 => by
   obtain rfl := (show v63 = .int .i64 0 from h63)
   exact ⟨.int .i64 0, kR, kR, rfl⟩
 ·intro w1 f hs hf
  obtain ⟨q, h1, h2, h3⟩ := hf 14 kR
  exact ⟨⟨q, h1⟩, fun p hp => by
   simp only [List.mem_cons, List.not_mem_nil, or_false] at hp
   rcases hp with rfl | rfl
   ·exact ⟨h2, by kernel_rfl⟩
   exact ⟨hf 12 kR, by kernel_rfl⟩, two_sat (hs.pick [0] (by decide) kR) hbw h1 h3⟩
 obtain ⟨q, hq0⟩ := q
 refine gA [] 1 ?_
 refine g_drawA (X := CatX w (⟨7, 0, 0, 0, 0, 0, 0, x, a1, a2, a3, a4, 0, 0, 0, 0, 0, 2, ⟨#[]⟩⟩ : Nod) (bxN h d) enN) 11 (W70 w b q d (⟨7, 0, 0, 0, 0, 0, 0, x, a1, a2, a3, a4, 0, 0, 0, 0, 0, 2, ⟨#[]⟩⟩ : Nod) (bxN h d) enN) (fun x => [(10, .slice (some ⟨x.b, 0, none⟩) 3 x.cap), (11, .int .i64 d), (12, .int .i64 0)]) (fun x => [.obj true x.b x.cs 55]) kR kR kR W70_kept ⟨⟨⟨⟨⟨⟨⟨⟨⟨⟨⟨trivial, ?o0⟩, ?o1⟩, ?o2⟩, ?o3⟩, ?o4⟩, ?o5⟩, ?o6⟩, ?o7⟩, ?o8⟩, ?o9⟩, ?o10⟩ ?_ fun x => ?_
 case o0 =>
  exact aVal1 67 [(14, some (.slice (some ⟨q, 0, none⟩) 1 1))] [] kR kR kR kR fun w hs => ⟨.slice (some ⟨q, 0, none⟩) 1 1, kR, kR, rfl⟩
 case o1 =>
  exact aVal1 68 [(1, some (.slice (some ⟨b, 0, none⟩) 2 2))] [] kR kR kR kR fun w hs => ⟨.slice (some ⟨b, 0, none⟩) 2 2, kR, kR, rfl⟩
 case o2 =>
  exact aNew1 69 [(67, none), (68, none)] kR kR kR kR fun w1 hs v67 h67 v68 h68 => by
   obtain rfl := (show v67 = .slice (some ⟨q, 0, none⟩) 1 1 from h67)
   obtain rfl := (show v68 = .slice (some ⟨b, 0, none⟩) 2 2 from h68)
   exact ⟨.slice (some ⟨w1.heap.size, 0, none⟩) 2 2, [.slice (some ⟨q, 0, none⟩) 1 1, .slice (some ⟨b, 0, none⟩) 2 2], 22, kR, fun w' _ h => ⟨w1.heap.size, rfl, h⟩⟩
 case o3 =>
  exact aCall1 70 [(69, none)] kR kR kR kR fun w1 hs v69 h69 => by
   obtain ⟨bs, rfl, h69⟩ := h69
   exact ⟨43, #[.slice (some ⟨bs, 0, none⟩) 2 2], kR, (concat12 (⟨7, 0, 0, 0, 0, 0, 0, x, a1, a2, a3, a4, 0, 0, 0, 0, 0, 2, ⟨#[]⟩⟩ : Nod) (bxN h d) enN bs q b w1 ((((hs.read [1, 0] [.obj false q (nodC (⟨7, 0, 0, 0, 0, 0, 0, x, a1, a2, a3, a4, 0, 0, 0, 0, 0, 2, ⟨#[]⟩⟩ : Nod)) 55, .obj false b (nodC (bxN h d) ++ nodC enN) 55] kR).plus (by simp [HE.own]) h69).at' rfl).pick [2, 0, 1] (by decide) rfl)).mono fun e w' ⟨x, he, hx⟩ => ⟨_, he, hx.kept.kept, ⟨x.b, x.cap, x.cs, Nat.le_trans hs.kept.size x.new, x.le, x.len, x.row⟩, rfl, hx.obj (o := true) (i := 0) rfl⟩⟩
 case o4 =>
  exact aVal1 71 [(1, some (.slice (some ⟨b, 0, none⟩) 2 2))] [] kR kR kR kR fun w hs => ⟨.slice (some ⟨b, 0, none⟩) 2 2, kR, kR, rfl⟩
 case o5 =>
  exact aVal1 72 [(71, none)] [] kR kR kR kR fun w hs v71 h71 => by
   obtain rfl := (show v71 = .slice (some ⟨b, 0, none⟩) 2 2 from h71)
   exact ⟨.pointer (some ⟨b, 0, none⟩), kR, kR, rfl⟩
 case o6 =>
  exact aVal1 73 [(72, none)] [] kR kR kR kR fun w hs v72 h72 => by
   obtain rfl := (show v72 = .pointer (some ⟨b, 0, none⟩) from h72)
   exact ⟨.pointer (some ⟨b, 5, none⟩), kR, kR, rfl⟩
 case o7 =>
  exact aVal1 74 [(73, none)] [0] kR kR kR kR fun w hs v73 h73 => by
   obtain rfl := (show v73 = .pointer (some ⟨b, 5, none⟩) from h73)
   exact ⟨.int .i64 d, kR, kR, rfl⟩
 case o8 =>
  exact aVal1 10 [(70, none)] [] kR kR kR kR fun w hs v70 h70 => by
   obtain ⟨x, rfl, hx⟩ := h70
   exact ⟨_, kR, kR, x, rfl, hx⟩
 case o9 =>
  exact aVal1 11 [(74, none)] [] kR kR kR kR fun w hs v74 h74 => by
   obtain rfl := (show v74 = .int .i64 d from h74)
   exact ⟨.int .i64 d, kR, kR, rfl⟩
 case o10 =>
  exact aVal1 12 [] [] kR kR kR kR fun w hs => ⟨.int .i64 0, kR, kR, rfl⟩
 ·intro w1 f hs hf
  obtain ⟨x, h1, h2⟩ := hf 10 kR
  refine ⟨x, fun p hp => ?_, new_sat hs.kk x.new h2⟩
  simp only [List.mem_cons, List.not_mem_nil, or_false] at hp
  rcases hp with rfl | rfl | rfl
  ·exact ⟨h1, by kernel_rfl⟩
  ·exact ⟨hf 11 kR, by kernel_rfl⟩
  exact ⟨hf 12 kR, by kernel_rfl⟩
 refine gR (Value.tuple (Array.mk [Value.slice (some (Addr.mk x.b 0 none)) 3 x.cap, Value.int IntKind.i64 d, Value.int IntKind.i64 0])) fun w' hs => ?_
 exact ⟨x, rfl, hs.pick [0] (by decide) kR⟩
end Go.Proofs.Ytcncfmjfgdbfeab
