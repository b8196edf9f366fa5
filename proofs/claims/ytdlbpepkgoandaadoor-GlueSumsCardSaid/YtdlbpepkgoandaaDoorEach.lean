/- glue.each: whatever changes the three sizes. -/
import Derived.Test.YtdlbpepkgoandaaDoorTimes
import Derived.LoopN
namespace Go.Proofs.YtdlbpepkgoandaaDoor
open Go.RowKit

/-- the array of sizes -/
def Arr3 (w : World) (A : Nat) (x y z : Int) : Prop := w.heap[A]? = some (.cells #[.int .i64 x, .int .i64 y, .int .i64 z] 92 (0, 0))
theorem Arr3.lt {w : World} {A : Nat} {x y z : Int} (h : Arr3 w A x y z) : A < w.heap.size := lt_of_some h
theorem Arr3.kept {w w' : World} {A : Nat} {x y z : Int} (h : Arr3 w A x y z) (hk : Kept w w') : Arr3 w' A x y z := (hk.block _ h.lt).trans h
theorem Arr3.cells {w : World} {A : Nat} {x y z : Int} (h : Arr3 w A x y z) : w.cell? ⟨A, 0, none⟩ = some (.int .i64 x) ∧ w.cell? ⟨A, 1, none⟩ = some (.int .i64 y) ∧ w.cell? ⟨A, 2, none⟩ = some (.int .i64 z) ∧ (∀ o, w.frozen? ⟨A, o, none⟩ = false) := by
  unfold Arr3 at h
  refine ⟨?_, ?_, ?_, fun o => ?_⟩
  all_goals first | simp [World.cell?, h] | simp [World.frozen?, h]

/-- what glue.each answers -/
def eachOut (V0 E0 V1 E1 V2 E2 so ho : Int) : Value :=
  if E0 ≠ 0 then .tuple #[.agg #[.int .i64 0, .int .i64 0, .int .i64 0, .int .i64 0, .int .i64 0], .int .i64 E0]
  else if E1 ≠ 0 then .tuple #[.agg #[.int .i64 0, .int .i64 0, .int .i64 0, .int .i64 0, .int .i64 0], .int .i64 E1]
  else if E2 ≠ 0 then .tuple #[.agg #[.int .i64 0, .int .i64 0, .int .i64 0, .int .i64 0, .int .i64 0], .int .i64 E2]
  else .tuple #[.agg #[.int .i64 V0, .int .i64 V1, .int .i64 V2, .int .i64 (tidyO V1 so), .int .i64 (tidyO V2 ho)], .int .i64 0]

theorem made2 (w : World) (o0 o1 : Obj) : ∀ W, W = (w.alloc o0).alloc o1 → W.heap[w.heap.size]? = some o0 ∧ W.heap[w.heap.size + 1]? = some o1 := by
  intro W hW
  have e : W.heap = (w.heap.push o0).push o1 := by rw [hW]; rfl
  rw [e]
  clear e hW
  generalize w.heap = h
  refine ⟨?_, ?_⟩ <;> simp only [Array.getElem?_push, Array.size_push] <;> (repeat (first | rw [if_pos trivial] | rw [if_pos (by omega)] | rw [if_neg (by omega)]))

theorem heap_set {w : World} {A k : Nat} {v : Value} {cs : Array Value} {T : TypeId} (h : w.heap[A]? = some (.cells cs T (0, 0))) : (w.setCell ⟨A, k, none⟩ v).heap[A]? = some (.cells (cs.setIfInBounds k v) T (0, 0)) := by
  have hlt := lt_of_some h
  have h' : w.heap[A] = .cells cs T (0, 0) := by simpa [Array.getElem?_eq_getElem hlt] using h
  show (w.heap.modify A _)[A]? = _
  rw [Array.getElem?_eq_getElem (by simpa using hlt), Array.getElem_modify_self, h']
  rfl
theorem Arr3.set0 {w : World} {A : Nat} {x y z : Int} (h : Arr3 w A x y z) (v : Int) : Arr3 (w.setCell ⟨A, 0, none⟩ (.int .i64 v)) A v y z := heap_set h
theorem Arr3.set1 {w : World} {A : Nat} {x y z : Int} (h : Arr3 w A x y z) (v : Int) : Arr3 (w.setCell ⟨A, 1, none⟩ (.int .i64 v)) A x v z := heap_set h
theorem Arr3.set2 {w : World} {A : Nat} {x y z : Int} (h : Arr3 w A x y z) (v : Int) : Arr3 (w.setCell ⟨A, 2, none⟩ (.int .i64 v)) A x y v := heap_set h
theorem made_arr (w : World) (x y z : Int) : Arr3 (w.alloc (.cells #[.int .i64 x, .int .i64 y, .int .i64 z] 92)) w.heap.size x y z := by
  unfold Arr3
  have e : (w.alloc (.cells #[.int .i64 x, .int .i64 y, .int .i64 z] 92)).heap = w.heap.push (.cells #[.int .i64 x, .int .i64 y, .int .i64 z] 92) := rfl
  rw [e]
  simp
theorem below_first {w W w1 : World} (h0 : Kept w W) (h1 : Below (w.heap.size + 2) W w1) : Kept w w1 := Below.trans h0 (h1.mono (by omega))
theorem below_later {B : Nat} {W w1 w2 : World} (hs : W.heap.size = B) (h1 : Below B W w1) (h2 : Kept w1 w2) : Below B W w2 := Below.trans h1 (h2.mono (by have := h1.size; omega))
theorem eachOut_0 {V0 E0 V1 E1 V2 E2 so ho : Int} (h0 : E0 ≠ 0) : eachOut V0 E0 V1 E1 V2 E2 so ho = .tuple #[.agg #[.int .i64 0, .int .i64 0, .int .i64 0, .int .i64 0, .int .i64 0], .int .i64 E0] := by
  simp [eachOut, h0]
theorem eachOut_1 {V0 E0 V1 E1 V2 E2 so ho : Int} (h0 : E0 = 0) (h1 : E1 ≠ 0) : eachOut V0 E0 V1 E1 V2 E2 so ho = .tuple #[.agg #[.int .i64 0, .int .i64 0, .int .i64 0, .int .i64 0, .int .i64 0], .int .i64 E1] := by
  simp [eachOut, h0, h1]
theorem eachOut_2 {V0 E0 V1 E1 V2 E2 so ho : Int} (h0 : E0 = 0) (h1 : E1 = 0) (h2 : E2 ≠ 0) : eachOut V0 E0 V1 E1 V2 E2 so ho = .tuple #[.agg #[.int .i64 0, .int .i64 0, .int .i64 0, .int .i64 0, .int .i64 0], .int .i64 E2] := by
  simp [eachOut, h0, h1, h2]
theorem eachOut_3 {V0 E0 V1 E1 V2 E2 so ho : Int} (h0 : E0 = 0) (h1 : E1 = 0) (h2 : E2 = 0) : eachOut V0 E0 V1 E1 V2 E2 so ho = .tuple #[.agg #[.int .i64 V0, .int .i64 V1, .int .i64 V2, .int .i64 (tidyO V1 so), .int .i64 (tidyO V2 ho)], .int .i64 0] := by
  simp [eachOut, h0, h1, h2]
theorem okparts {n a b c d : Int} (h : Gl.okB ⟨n, a, b, c, d⟩ = true) : Hid (-1073741824 ≤ n ∧ n ≤ 1073741824) ∧ Hid (-1073741824 ≤ a ∧ a ≤ 1073741824) ∧ Hid (-1073741824 ≤ b ∧ b ≤ 1073741824) := by
  unfold Gl.okB at h
  obtain ⟨h0, h1⟩ := Bool.and_eq_true_iff.1 h
  obtain ⟨h1, h2⟩ := Bool.and_eq_true_iff.1 h1
  have a0 := dimB_yes h0
  have a1 := dimB_yes (Bool.and_eq_true_iff.1 h1).1
  have a2 := dimB_yes (Bool.and_eq_true_iff.1 h2).1
  exact ⟨Lib.hid ⟨by simp only at a0; omega, by simp only at a0; omega⟩, Lib.hid ⟨by simp only at a1; omega, by simp only at a1; omega⟩, Lib.hid ⟨by simp only at a2; omega, by simp only at a2; omega⟩⟩

set_option maxRecDepth 100000 in
set_option maxHeartbeats 4000000 in
theorem each_times (n a b c d : Int) (B : Nat) (fV fE : Int → Int) (w : World) (hok : Gl.okB ⟨n, a, b, c, d⟩ = true)
    (hf : ∀ x w', -1073741824 ≤ x → x ≤ 1073741824 → Below w.heap.size w w' → Calls Tryd.prog 39 #[.int .i64 x, .pointer (some ⟨B, 0, none⟩)] w' fun e w'' => e = .returned (.tuple #[.int .i64 (fV x), .int .i64 (fE x)]) ∧ Kept w' w'') :
    Calls Tryd.prog 38 #[.agg #[.int .i64 n, .int .i64 a, .int .i64 b, .int .i64 c, .int .i64 d], .func (Fn.func 39) #[] #[.pointer (some ⟨B, 0, none⟩)]] w fun e w' =>
      e = .returned (eachOut (fV n) (fE n) (fV a) (fE a) (fV b) (fE b) c d) ∧ Kept w w' := by
  have c1 := fun w => Lib.hid (check_any n a b c d w)
  have e1 : Gl.err ⟨n, a, b, c, d⟩ = 0 := by simp [Gl.err, hok]
  rw [e1] at c1
  obtain ⟨hn, ha, hb⟩ := okparts hok
  clear e1 hok
  have H0 := fun w' h => Lib.hid (hf n w' hn.out.1 hn.out.2 h)
  have H1 := fun w' h => Lib.hid (hf a w' ha.out.1 ha.out.2 h)
  have H2 := fun w' h => Lib.hid (hf b w' hb.out.1 hb.out.2 h)
  clear hf hn ha hb
  generalize fV n = V0 at *
  generalize fE n = E0 at *
  generalize fV a = V1 at *
  generalize fE a = E1 at *
  generalize fV b = V2 at *
  generalize fE b = E2 at *
  obtain ⟨W, hW⟩ : ∃ W, W = (w.alloc (.cells #[.int .i64 n, .int .i64 a, .int .i64 b, .int .i64 c, .int .i64 d] 33)).alloc (.cells #[.int .i64 0, .int .i64 0, .int .i64 0, .int .i64 0, .int .i64 0] 33) := ⟨_, rfl⟩
  obtain ⟨m0, m1⟩ := made2 w _ _ W hW
  have hk0 : Kept w W := by rw [hW]; exact ((Kept.refl w).alloc (Nat.le_refl _) _).alloc (by simp) _
  have hb0 := fun w1 (hk : Below (w.heap.size + 2) W w1) => Lib.hid (box_five m0 (hk.block w.heap.size (by omega)))
  have hb1 := fun w1 (hk : Below (w.heap.size + 2) W w1) => Lib.hid (box_five m1 (hk.block (w.heap.size + 1) (by omega)))
  have hWs : W.heap.size = w.heap.size + 2 := by rw [hW]; simp
  have hW' := Lib.hid hW
  have hWs := Lib.hid hWs
  clear hW m0 m1
  go_enter Tryd.func38, Tryd.ntmps38
  go_wp2_with (fail)
  rw [← hW'.out]
  refine (c1 _).out.mono ?_
  rintro e w1 ⟨rfl, k1⟩
  have b1 : Below (w.heap.size + 2) W w1 := k1.mono (by have := hWs.out; omega)
  have s1 : w.heap.size + 2 ≤ w1.heap.size := by have := k1.size; have := hWs.out; omega
  obtain ⟨p0, p1, p2, p3, p4, pf, pl⟩ := (hb0 _ b1).out
  clear k1
  have i0 : ∀ w, (Instr.index 92 (.agg #[.int .i64 n, .int .i64 a, .int .i64 b]) (.int .i64 0)).run Tryd.prog w = .ok (.int .i64 n) w := fun _ => by kernel_rfl
  have i1 : ∀ w, (Instr.index 92 (.agg #[.int .i64 n, .int .i64 a, .int .i64 b]) (.int .i64 1)).run Tryd.prog w = .ok (.int .i64 a) w := fun _ => by kernel_rfl
  have i2 : ∀ w, (Instr.index 92 (.agg #[.int .i64 n, .int .i64 a, .int .i64 b]) (.int .i64 2)).run Tryd.prog w = .ok (.int .i64 b) w := fun _ => by kernel_rfl
  go_wp2_with (fail)
  have hA0 := Lib.hid (made_arr w1 n a b)
  have b1' : Below (w.heap.size + 2) W (w1.alloc (.cells #[.int .i64 n, .int .i64 a, .int .i64 b] 92)) := b1.alloc s1 _
  clear p0 p1 p2 p3 p4 pf pl
  refine wp_loop_rounds 4 ?_
  rw [rounds_succ]
  go_wp2_with (fail)
  refine (H0 _ (below_first hk0 b1')).out.mono ?_
  rintro e w2 ⟨rfl, k2⟩
  have hA2 := hA0.out.kept k2
  have b2 := below_later hWs.out b1' k2
  have s2 : w1.heap.size < w2.heap.size := hA2.lt
  obtain ⟨x0, x1, x2, xf⟩ := hA2.cells
  obtain ⟨t0, t1, t2, t3, t4, tf, tl⟩ := (hb1 _ b2).out
  have hA2 := Lib.hid hA2
  clear k2 b1' hA0
  by_cases h0 : E0 = 0
  · have z0 : (E0 != 0) = false := by simpa using h0
    have h0 := Lib.hid h0
    have hA3 := Lib.hid (hA2.out.set0 V0)
    have b3 : Below (w.heap.size + 2) W (w2.setCell ⟨w1.heap.size, 0, none⟩ (.int .i64 V0)) := Below.setCell b2 s1 _
    clear t0 t1 t2 t3 t4 tf tl hA2
    go_wp2_with (fail)
    rw [rounds_succ]
    go_wp2_with (fail)
    refine (H1 _ (below_first hk0 b3)).out.mono ?_
    rintro e w3 ⟨rfl, k3⟩
    have hA4 := hA3.out.kept k3
    have b4 := below_later hWs.out b3 k3
    have s4 : w1.heap.size < w3.heap.size := hA4.lt
    clear x0 x1 x2 xf hA3 b3 k3 b2
    obtain ⟨x0, x1, x2, xf⟩ := hA4.cells
    obtain ⟨t0, t1, t2, t3, t4, tf, tl⟩ := (hb1 _ b4).out
    have hA4 := Lib.hid hA4
    by_cases h1 : E1 = 0
    · have z1 : (E1 != 0) = false := by simpa using h1
      have h1 := Lib.hid h1
      have hA5 := Lib.hid (hA4.out.set1 V1)
      have b5 : Below (w.heap.size + 2) W (w3.setCell ⟨w1.heap.size, 1, none⟩ (.int .i64 V1)) := Below.setCell b4 s1 _
      clear t0 t1 t2 t3 t4 tf tl hA4
      go_wp2_with (fail)
      rw [rounds_succ]
      go_wp2_with (fail)
      refine (H2 _ (below_first hk0 b5)).out.mono ?_
      rintro e w4 ⟨rfl, k4⟩
      have hA6 := hA5.out.kept k4
      have b6 := below_later hWs.out b5 k4
      have s6 : w1.heap.size < w4.heap.size := hA6.lt
      clear x0 x1 x2 xf hA5 b5 k4 b4
      obtain ⟨x0, x1, x2, xf⟩ := hA6.cells
      obtain ⟨t0, t1, t2, t3, t4, tf, tl⟩ := (hb1 _ b6).out
      have hA6 := Lib.hid hA6
      by_cases h2 : E2 = 0
      · have z2 : (E2 != 0) = false := by simpa using h2
        have HO := Lib.hid (eachOut_3 (V0 := V0) (V1 := V1) (V2 := V2) (so := c) (ho := d) h0.out h1.out h2)
        have hA7 := (hA6.out.set2 V2).cells
        have b7 : Below (w.heap.size + 2) W (w4.setCell ⟨w1.heap.size, 2, none⟩ (.int .i64 V2)) := Below.setCell b6 s1 _
        obtain ⟨y0, y1, y2, yf⟩ := hA7
        obtain ⟨p0, p1, p2, p3, p4, pf, pl⟩ := (hb0 _ b7).out
        clear t0 t1 t2 t3 t4 tf tl hA6 h2
        go_wp2_with (fail)
        rw [rounds_succ]
        go_wp2_with (fail)
        refine (made_any V0 V1 c V2 d _).mono ?_
        rintro e w5 ⟨rfl, k5⟩
        have b8 := below_later hWs.out b7 k5
        have s8 : w.heap.size + 2 ≤ w5.heap.size := by have := k5.size; simp [World.setCell] at this; omega
        obtain ⟨t0, t1, t2, t3, t4, tf, tl⟩ := (hb1 _ b8).out
        have kwz : Kept w w5 := below_first hk0 b8
        clear y0 y1 y2 yf p0 p1 p2 p3 p4 pf pl k5 x0 x1 x2 xf
        go_wp2_with (fail)
        exact bodyPost_ret (v := .tuple #[.agg #[.int .i64 V0, .int .i64 V1, .int .i64 V2, .int .i64 (tidyO V1 c), .int .i64 (tidyO V2 d)], .int .i64 0]) (by simp [results, Tryd.results38, go_sem, t0, t1, t2, t3, t4]) rfl ⟨congrArg Ending.returned HO.out.symm, (Below.setCell (Below.setCell (Below.setCell (Below.setCell (Below.setCell kwz (by simp; try omega) _) (by simp; try omega) _) (by simp; try omega) _) (by simp; try omega) _) (by simp; try omega) _)⟩
      · have z2 : (E2 != 0) = true := by simpa using h2
        have HO := Lib.hid (eachOut_2 (V0 := V0) (V1 := V1) (V2 := V2) (so := c) (ho := d) h0.out h1.out h2)
        have kwz : Kept w w4 := below_first hk0 b6
        clear h2
        go_wp2_with (fail)
        exact bodyPost_ret (v := .tuple #[.agg #[.int .i64 0, .int .i64 0, .int .i64 0, .int .i64 0, .int .i64 0], .int .i64 E2]) (by simp [results, Tryd.results38, go_sem, t0, t1, t2, t3, t4]) rfl ⟨congrArg Ending.returned HO.out.symm, (Below.setCell (Below.setCell (Below.setCell (Below.setCell (Below.setCell kwz (by simp; try omega) _) (by simp; try omega) _) (by simp; try omega) _) (by simp; try omega) _) (by simp; try omega) _)⟩
    · have z1 : (E1 != 0) = true := by simpa using h1
      have HO := Lib.hid (eachOut_1 (V0 := V0) (V1 := V1) (V2 := V2) (so := c) (ho := d) (E2 := E2) h0.out h1)
      have kwz : Kept w w3 := below_first hk0 b4
      clear h1
      go_wp2_with (fail)
      exact bodyPost_ret (v := .tuple #[.agg #[.int .i64 0, .int .i64 0, .int .i64 0, .int .i64 0, .int .i64 0], .int .i64 E1]) (by simp [results, Tryd.results38, go_sem, t0, t1, t2, t3, t4]) rfl ⟨congrArg Ending.returned HO.out.symm, (Below.setCell (Below.setCell (Below.setCell (Below.setCell (Below.setCell kwz (by simp; try omega) _) (by simp; try omega) _) (by simp; try omega) _) (by simp; try omega) _) (by simp; try omega) _)⟩
  · have z0 : (E0 != 0) = true := by simpa using h0
    have HO := Lib.hid (eachOut_0 (V0 := V0) (V1 := V1) (V2 := V2) (so := c) (ho := d) (E1 := E1) (E2 := E2) h0)
    have kwz : Kept w w2 := below_first hk0 b2
    clear h0
    go_wp2_with (fail)
    exact bodyPost_ret (v := .tuple #[.agg #[.int .i64 0, .int .i64 0, .int .i64 0, .int .i64 0, .int .i64 0], .int .i64 E0]) (by simp [results, Tryd.results38, go_sem, t0, t1, t2, t3, t4]) rfl ⟨congrArg Ending.returned HO.out.symm, (Below.setCell (Below.setCell (Below.setCell (Below.setCell (Below.setCell kwz (by simp; try omega) _) (by simp; try omega) _) (by simp; try omega) _) (by simp; try omega) _) (by simp; try omega) _)⟩

set_option maxRecDepth 100000 in
set_option maxHeartbeats 4000000 in
theorem each_over (n a b c d : Int) (B : Nat) (fV fE : Int → Int) (w : World) (hok : Gl.okB ⟨n, a, b, c, d⟩ = true)
    (hf : ∀ x w', -1073741824 ≤ x → x ≤ 1073741824 → Below w.heap.size w w' → Calls Tryd.prog 42 #[.int .i64 x, .pointer (some ⟨B, 0, none⟩)] w' fun e w'' => e = .returned (.tuple #[.int .i64 (fV x), .int .i64 (fE x)]) ∧ Kept w' w'') :
    Calls Tryd.prog 38 #[.agg #[.int .i64 n, .int .i64 a, .int .i64 b, .int .i64 c, .int .i64 d], .func (Fn.func 42) #[] #[.pointer (some ⟨B, 0, none⟩)]] w fun e w' =>
      e = .returned (eachOut (fV n) (fE n) (fV a) (fE a) (fV b) (fE b) c d) ∧ Kept w w' := by
  have c1 := fun w => Lib.hid (check_any n a b c d w)
  have e1 : Gl.err ⟨n, a, b, c, d⟩ = 0 := by simp [Gl.err, hok]
  rw [e1] at c1
  obtain ⟨hn, ha, hb⟩ := okparts hok
  clear e1 hok
  have H0 := fun w' h => Lib.hid (hf n w' hn.out.1 hn.out.2 h)
  have H1 := fun w' h => Lib.hid (hf a w' ha.out.1 ha.out.2 h)
  have H2 := fun w' h => Lib.hid (hf b w' hb.out.1 hb.out.2 h)
  clear hf hn ha hb
  generalize fV n = V0 at *
  generalize fE n = E0 at *
  generalize fV a = V1 at *
  generalize fE a = E1 at *
  generalize fV b = V2 at *
  generalize fE b = E2 at *
  obtain ⟨W, hW⟩ : ∃ W, W = (w.alloc (.cells #[.int .i64 n, .int .i64 a, .int .i64 b, .int .i64 c, .int .i64 d] 33)).alloc (.cells #[.int .i64 0, .int .i64 0, .int .i64 0, .int .i64 0, .int .i64 0] 33) := ⟨_, rfl⟩
  obtain ⟨m0, m1⟩ := made2 w _ _ W hW
  have hk0 : Kept w W := by rw [hW]; exact ((Kept.refl w).alloc (Nat.le_refl _) _).alloc (by simp) _
  have hb0 := fun w1 (hk : Below (w.heap.size + 2) W w1) => Lib.hid (box_five m0 (hk.block w.heap.size (by omega)))
  have hb1 := fun w1 (hk : Below (w.heap.size + 2) W w1) => Lib.hid (box_five m1 (hk.block (w.heap.size + 1) (by omega)))
  have hWs : W.heap.size = w.heap.size + 2 := by rw [hW]; simp
  have hW' := Lib.hid hW
  have hWs := Lib.hid hWs
  clear hW m0 m1
  go_enter Tryd.func38, Tryd.ntmps38
  go_wp2_with (fail)
  rw [← hW'.out]
  refine (c1 _).out.mono ?_
  rintro e w1 ⟨rfl, k1⟩
  have b1 : Below (w.heap.size + 2) W w1 := k1.mono (by have := hWs.out; omega)
  have s1 : w.heap.size + 2 ≤ w1.heap.size := by have := k1.size; have := hWs.out; omega
  obtain ⟨p0, p1, p2, p3, p4, pf, pl⟩ := (hb0 _ b1).out
  clear k1
  have i0 : ∀ w, (Instr.index 92 (.agg #[.int .i64 n, .int .i64 a, .int .i64 b]) (.int .i64 0)).run Tryd.prog w = .ok (.int .i64 n) w := fun _ => by kernel_rfl
  have i1 : ∀ w, (Instr.index 92 (.agg #[.int .i64 n, .int .i64 a, .int .i64 b]) (.int .i64 1)).run Tryd.prog w = .ok (.int .i64 a) w := fun _ => by kernel_rfl
  have i2 : ∀ w, (Instr.index 92 (.agg #[.int .i64 n, .int .i64 a, .int .i64 b]) (.int .i64 2)).run Tryd.prog w = .ok (.int .i64 b) w := fun _ => by kernel_rfl
  go_wp2_with (fail)
  have hA0 := Lib.hid (made_arr w1 n a b)
  have b1' : Below (w.heap.size + 2) W (w1.alloc (.cells #[.int .i64 n, .int .i64 a, .int .i64 b] 92)) := b1.alloc s1 _
  clear p0 p1 p2 p3 p4 pf pl
  refine wp_loop_rounds 4 ?_
  rw [rounds_succ]
  go_wp2_with (fail)
  refine (H0 _ (below_first hk0 b1')).out.mono ?_
  rintro e w2 ⟨rfl, k2⟩
  have hA2 := hA0.out.kept k2
  have b2 := below_later hWs.out b1' k2
  have s2 : w1.heap.size < w2.heap.size := hA2.lt
  obtain ⟨x0, x1, x2, xf⟩ := hA2.cells
  obtain ⟨t0, t1, t2, t3, t4, tf, tl⟩ := (hb1 _ b2).out
  have hA2 := Lib.hid hA2
  clear k2 b1' hA0
  by_cases h0 : E0 = 0
  · have z0 : (E0 != 0) = false := by simpa using h0
    have h0 := Lib.hid h0
    have hA3 := Lib.hid (hA2.out.set0 V0)
    have b3 : Below (w.heap.size + 2) W (w2.setCell ⟨w1.heap.size, 0, none⟩ (.int .i64 V0)) := Below.setCell b2 s1 _
    clear t0 t1 t2 t3 t4 tf tl hA2
    go_wp2_with (fail)
    rw [rounds_succ]
    go_wp2_with (fail)
    refine (H1 _ (below_first hk0 b3)).out.mono ?_
    rintro e w3 ⟨rfl, k3⟩
    have hA4 := hA3.out.kept k3
    have b4 := below_later hWs.out b3 k3
    have s4 : w1.heap.size < w3.heap.size := hA4.lt
    clear x0 x1 x2 xf hA3 b3 k3 b2
    obtain ⟨x0, x1, x2, xf⟩ := hA4.cells
    obtain ⟨t0, t1, t2, t3, t4, tf, tl⟩ := (hb1 _ b4).out
    have hA4 := Lib.hid hA4
    by_cases h1 : E1 = 0
    · have z1 : (E1 != 0) = false := by simpa using h1
      have h1 := Lib.hid h1
      have hA5 := Lib.hid (hA4.out.set1 V1)
      have b5 : Below (w.heap.size + 2) W (w3.setCell ⟨w1.heap.size, 1, none⟩ (.int .i64 V1)) := Below.setCell b4 s1 _
      clear t0 t1 t2 t3 t4 tf tl hA4
      go_wp2_with (fail)
      rw [rounds_succ]
      go_wp2_with (fail)
      refine (H2 _ (below_first hk0 b5)).out.mono ?_
      rintro e w4 ⟨rfl, k4⟩
      have hA6 := hA5.out.kept k4
      have b6 := below_later hWs.out b5 k4
      have s6 : w1.heap.size < w4.heap.size := hA6.lt
      clear x0 x1 x2 xf hA5 b5 k4 b4
      obtain ⟨x0, x1, x2, xf⟩ := hA6.cells
      obtain ⟨t0, t1, t2, t3, t4, tf, tl⟩ := (hb1 _ b6).out
      have hA6 := Lib.hid hA6
      by_cases h2 : E2 = 0
      · have z2 : (E2 != 0) = false := by simpa using h2
        have HO := Lib.hid (eachOut_3 (V0 := V0) (V1 := V1) (V2 := V2) (so := c) (ho := d) h0.out h1.out h2)
        have hA7 := (hA6.out.set2 V2).cells
        have b7 : Below (w.heap.size + 2) W (w4.setCell ⟨w1.heap.size, 2, none⟩ (.int .i64 V2)) := Below.setCell b6 s1 _
        obtain ⟨y0, y1, y2, yf⟩ := hA7
        obtain ⟨p0, p1, p2, p3, p4, pf, pl⟩ := (hb0 _ b7).out
        clear t0 t1 t2 t3 t4 tf tl hA6 h2
        go_wp2_with (fail)
        rw [rounds_succ]
        go_wp2_with (fail)
        refine (made_any V0 V1 c V2 d _).mono ?_
        rintro e w5 ⟨rfl, k5⟩
        have b8 := below_later hWs.out b7 k5
        have s8 : w.heap.size + 2 ≤ w5.heap.size := by have := k5.size; simp [World.setCell] at this; omega
        obtain ⟨t0, t1, t2, t3, t4, tf, tl⟩ := (hb1 _ b8).out
        have kwz : Kept w w5 := below_first hk0 b8
        clear y0 y1 y2 yf p0 p1 p2 p3 p4 pf pl k5 x0 x1 x2 xf
        go_wp2_with (fail)
        exact bodyPost_ret (v := .tuple #[.agg #[.int .i64 V0, .int .i64 V1, .int .i64 V2, .int .i64 (tidyO V1 c), .int .i64 (tidyO V2 d)], .int .i64 0]) (by simp [results, Tryd.results38, go_sem, t0, t1, t2, t3, t4]) rfl ⟨congrArg Ending.returned HO.out.symm, (Below.setCell (Below.setCell (Below.setCell (Below.setCell (Below.setCell kwz (by simp; try omega) _) (by simp; try omega) _) (by simp; try omega) _) (by simp; try omega) _) (by simp; try omega) _)⟩
      · have z2 : (E2 != 0) = true := by simpa using h2
        have HO := Lib.hid (eachOut_2 (V0 := V0) (V1 := V1) (V2 := V2) (so := c) (ho := d) h0.out h1.out h2)
        have kwz : Kept w w4 := below_first hk0 b6
        clear h2
        go_wp2_with (fail)
        exact bodyPost_ret (v := .tuple #[.agg #[.int .i64 0, .int .i64 0, .int .i64 0, .int .i64 0, .int .i64 0], .int .i64 E2]) (by simp [results, Tryd.results38, go_sem, t0, t1, t2, t3, t4]) rfl ⟨congrArg Ending.returned HO.out.symm, (Below.setCell (Below.setCell (Below.setCell (Below.setCell (Below.setCell kwz (by simp; try omega) _) (by simp; try omega) _) (by simp; try omega) _) (by simp; try omega) _) (by simp; try omega) _)⟩
    · have z1 : (E1 != 0) = true := by simpa using h1
      have HO := Lib.hid (eachOut_1 (V0 := V0) (V1 := V1) (V2 := V2) (so := c) (ho := d) (E2 := E2) h0.out h1)
      have kwz : Kept w w3 := below_first hk0 b4
      clear h1
      go_wp2_with (fail)
      exact bodyPost_ret (v := .tuple #[.agg #[.int .i64 0, .int .i64 0, .int .i64 0, .int .i64 0, .int .i64 0], .int .i64 E1]) (by simp [results, Tryd.results38, go_sem, t0, t1, t2, t3, t4]) rfl ⟨congrArg Ending.returned HO.out.symm, (Below.setCell (Below.setCell (Below.setCell (Below.setCell (Below.setCell kwz (by simp; try omega) _) (by simp; try omega) _) (by simp; try omega) _) (by simp; try omega) _) (by simp; try omega) _)⟩
  · have z0 : (E0 != 0) = true := by simpa using h0
    have HO := Lib.hid (eachOut_0 (V0 := V0) (V1 := V1) (V2 := V2) (so := c) (ho := d) (E1 := E1) (E2 := E2) h0)
    have kwz : Kept w w2 := below_first hk0 b2
    clear h0
    go_wp2_with (fail)
    exact bodyPost_ret (v := .tuple #[.agg #[.int .i64 0, .int .i64 0, .int .i64 0, .int .i64 0, .int .i64 0], .int .i64 E0]) (by simp [results, Tryd.results38, go_sem, t0, t1, t2, t3, t4]) rfl ⟨congrArg Ending.returned HO.out.symm, (Below.setCell (Below.setCell (Below.setCell (Below.setCell (Below.setCell kwz (by simp; try omega) _) (by simp; try omega) _) (by simp; try omega) _) (by simp; try omega) _) (by simp; try omega) _)⟩
end Go.Proofs.YtdlbpepkgoandaaDoor
