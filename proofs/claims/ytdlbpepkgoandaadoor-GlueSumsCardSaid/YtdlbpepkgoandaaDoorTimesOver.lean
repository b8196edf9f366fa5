/- glue.Times, glue.Over. -/
import Derived.Test.YtdlbpepkgoandaaDoorEach
import Derived.Test.YtdlbpepkgoandaaDoorPlus
namespace Go.Proofs.YtdlbpepkgoandaaDoor
open Go.RowKit

/-- glue, each size changed -/
def eachE (g : Gl) (fE : Int → Int) : Int := if g.okB then (if fE g.nat ≠ 0 then fE g.nat else if fE g.st ≠ 0 then fE g.st else fE g.sh) else 30
def eachG (g : Gl) (fV fE : Int → Int) : Gl := if eachE g fE = 0 then ⟨fV g.nat, fV g.st, fV g.sh, tidyO (fV g.st) g.so, tidyO (fV g.sh) g.ho⟩ else ⟨0, 0, 0, 0, 0⟩
theorem eachOut_ans (g : Gl) (fV fE : Int → Int) (h : g.okB = true) : eachOut (fV g.nat) (fE g.nat) (fV g.st) (fE g.st) (fV g.sh) (fE g.sh) g.so g.ho = ansG (eachG g fV fE) (eachE g fE) := by
  unfold eachG eachE eachOut ansG
  rw [if_pos h]
  by_cases h0 : fE g.nat = 0
  · by_cases h1 : fE g.st = 0
    · by_cases h2 : fE g.sh = 0
      · simp [h0, h1, h2]
      · simp [h0, h1, h2]
    · simp [h0, h1]
  · simp [h0]

def timesGE (g : Gl) (n : Int) : Int := eachE g (tsE n)
def timesG (g : Gl) (n : Int) : Gl := eachG g (tsV n) (tsE n)
def overGE (g : Gl) (n : Int) : Int := eachE g (fun _ => osE n)
def overG (g : Gl) (n : Int) : Gl := eachG g (osV n) (fun _ => osE n)

theorem made3w (w : World) (o0 o1 o2 : Obj) : ((w.alloc o0).alloc o1).alloc o2 = ((w.alloc o0).alloc o1).alloc o2 → (((w.alloc o0).alloc o1).alloc o2).heap.size = w.heap.size + 3 := fun _ => by simp

set_option maxHeartbeats 1000000 in
theorem tg_bad (n a b c d : Int) (B : Nat) (w : World) (hok : Gl.okB ⟨n, a, b, c, d⟩ = false) :
    Calls Tryd.prog 38 #[.agg #[.int .i64 n, .int .i64 a, .int .i64 b, .int .i64 c, .int .i64 d], .func (Fn.func 39) #[] #[.pointer (some ⟨B, 0, none⟩)]] w fun e w' =>
      e = .returned (.tuple #[.agg #[.int .i64 0, .int .i64 0, .int .i64 0, .int .i64 0, .int .i64 0], .int .i64 30]) ∧ Kept w w' := by
  have c1 := fun w => Lib.hid (check_any n a b c d w)
  have e1 : Gl.err ⟨n, a, b, c, d⟩ = 30 := by simp [Gl.err, hok]
  rw [e1] at c1
  clear e1 hok
  obtain ⟨W, hW⟩ : ∃ W, W = (w.alloc (.cells #[.int .i64 n, .int .i64 a, .int .i64 b, .int .i64 c, .int .i64 d] 33)).alloc (.cells #[.int .i64 0, .int .i64 0, .int .i64 0, .int .i64 0, .int .i64 0] 33) := ⟨_, rfl⟩
  obtain ⟨m0, m1⟩ := made2 w _ _ W hW
  have hk0 : Kept w W := by rw [hW]; exact ((Kept.refl w).alloc (Nat.le_refl _) _).alloc (by simp) _
  have hb1 := fun w1 (hk : Kept W w1) => Lib.hid (box_glue m1 hk)
  have hW' := Lib.hid hW
  clear hW m0 m1
  go_enter Tryd.func38, Tryd.ntmps38
  go_wp2_with (fail)
  rw [← hW'.out]
  refine (c1 _).out.mono ?_
  rintro e w1 ⟨rfl, k1⟩
  obtain ⟨t0, t1, t2, t3, t4, tf, tl⟩ := (hb1 _ k1).out
  have kw : Kept w w1 := Kept.trans hk0 k1
  clear k1
  go_wp2_with (fail)
  exact bodyPost_ret (v := .tuple #[.agg #[.int .i64 0, .int .i64 0, .int .i64 0, .int .i64 0, .int .i64 0], .int .i64 30]) (by simp [results, Tryd.results38, go_sem, t0, t1, t2, t3, t4]) rfl ⟨rfl, (Below.setCell (Below.setCell (Below.setCell (Below.setCell (Below.setCell kw (by simp; try omega) _) (by simp; try omega) _) (by simp; try omega) _) (by simp; try omega) _) (by simp; try omega) _)⟩

set_option maxHeartbeats 1000000 in
theorem og_bad (n a b c d : Int) (B : Nat) (w : World) (hok : Gl.okB ⟨n, a, b, c, d⟩ = false) :
    Calls Tryd.prog 38 #[.agg #[.int .i64 n, .int .i64 a, .int .i64 b, .int .i64 c, .int .i64 d], .func (Fn.func 42) #[] #[.pointer (some ⟨B, 0, none⟩)]] w fun e w' =>
      e = .returned (.tuple #[.agg #[.int .i64 0, .int .i64 0, .int .i64 0, .int .i64 0, .int .i64 0], .int .i64 30]) ∧ Kept w w' := by
  have c1 := fun w => Lib.hid (check_any n a b c d w)
  have e1 : Gl.err ⟨n, a, b, c, d⟩ = 30 := by simp [Gl.err, hok]
  rw [e1] at c1
  clear e1 hok
  obtain ⟨W, hW⟩ : ∃ W, W = (w.alloc (.cells #[.int .i64 n, .int .i64 a, .int .i64 b, .int .i64 c, .int .i64 d] 33)).alloc (.cells #[.int .i64 0, .int .i64 0, .int .i64 0, .int .i64 0, .int .i64 0] 33) := ⟨_, rfl⟩
  obtain ⟨m0, m1⟩ := made2 w _ _ W hW
  have hk0 : Kept w W := by rw [hW]; exact ((Kept.refl w).alloc (Nat.le_refl _) _).alloc (by simp) _
  have hb1 := fun w1 (hk : Kept W w1) => Lib.hid (box_glue m1 hk)
  have hW' := Lib.hid hW
  clear hW m0 m1
  go_enter Tryd.func38, Tryd.ntmps38
  go_wp2_with (fail)
  rw [← hW'.out]
  refine (c1 _).out.mono ?_
  rintro e w1 ⟨rfl, k1⟩
  obtain ⟨t0, t1, t2, t3, t4, tf, tl⟩ := (hb1 _ k1).out
  have kw : Kept w w1 := Kept.trans hk0 k1
  clear k1
  go_wp2_with (fail)
  exact bodyPost_ret (v := .tuple #[.agg #[.int .i64 0, .int .i64 0, .int .i64 0, .int .i64 0, .int .i64 0], .int .i64 30]) (by simp [results, Tryd.results38, go_sem, t0, t1, t2, t3, t4]) rfl ⟨rfl, (Below.setCell (Below.setCell (Below.setCell (Below.setCell (Below.setCell kw (by simp; try omega) _) (by simp; try omega) _) (by simp; try omega) _) (by simp; try omega) _) (by simp; try omega) _)⟩

set_option maxHeartbeats 1000000 in
theorem tg_any (g : Gl) (n : Int) (w : World) :
    Calls Tryd.prog 13 #[.agg #[.int .i64 g.nat, .int .i64 g.st, .int .i64 g.sh, .int .i64 g.so, .int .i64 g.ho], .int .i64 n] w fun e w' => e = .returned (ansG (timesG g n) (timesGE g n)) ∧ Kept w w' := by
  obtain ⟨W, hW⟩ : ∃ W, W = ((w.alloc (.cells #[.int .i64 g.nat, .int .i64 g.st, .int .i64 g.sh, .int .i64 g.so, .int .i64 g.ho] 33)).alloc (.cells #[.int .i64 n] 3)).alloc (.cells #[.int .i64 0, .int .i64 0, .int .i64 0, .int .i64 0, .int .i64 0] 33) := ⟨_, rfl⟩
  obtain ⟨m0, m1, m2⟩ := made3 w _ _ _ W hW
  have hk0 : Kept w W := by rw [hW]; exact (((Kept.refl w).alloc (Nat.le_refl _) _).alloc (by simp) _).alloc (by simp; omega) _
  have hb2 := fun w1 (hk : Kept W w1) => Lib.hid (box_glue (B := w.heap.size + 1 + 1) m2 hk)
  have hn : NumAt W (w.heap.size + 1) n := m1
  have Hc : Hid (Calls Tryd.prog 38 #[.agg #[.int .i64 g.nat, .int .i64 g.st, .int .i64 g.sh, .int .i64 g.so, .int .i64 g.ho], .func (Fn.func 39) #[] #[.pointer (some ⟨w.heap.size + 1, 0, none⟩)]] W fun e w' =>
      e = .returned (ansG (timesG g n) (timesGE g n)) ∧ Kept W w') := by
    refine Lib.hid ?_
    cases hok : g.okB
    · have e1 : timesGE g n = 30 := by simp [timesGE, eachE, hok]
      have e2 : timesG g n = ⟨0, 0, 0, 0, 0⟩ := by
        have := e1
        unfold timesGE at this
        unfold timesG eachG
        rw [this]
        rfl
      rw [e1, e2]
      exact tg_bad g.nat g.st g.sh g.so g.ho (w.heap.size + 1) W hok
    · have e : ansG (timesG g n) (timesGE g n) = eachOut (tsV n g.nat) (tsE n g.nat) (tsV n g.st) (tsE n g.st) (tsV n g.sh) (tsE n g.sh) g.so g.ho := (eachOut_ans g (tsV n) (tsE n) hok).symm
      rw [e]
      exact each_times g.nat g.st g.sh g.so g.ho (w.heap.size + 1) (tsV n) (tsE n) W hok (fun x w' h0 h1 hb => tstep_any x n _ w' ((hb.block _ (by have := hn.lt; omega)).trans hn))
  have hW' := Lib.hid hW
  clear hW m0 m1 m2 hn
  generalize timesG g n = G at *
  generalize timesGE g n = E at *
  go_enter Tryd.func13, Tryd.ntmps13
  go_wp2_with (fail)
  rw [← hW'.out]
  refine Hc.out.mono ?_
  rintro e w1 ⟨rfl, k1⟩
  obtain ⟨t0, t1, t2, t3, t4, tf, tl⟩ := (hb2 _ k1).out
  have kw : Kept w w1 := Kept.trans hk0 k1
  clear k1
  go_wp2_with (fail)
  exact bodyPost_ret (v := ansG G E) (by simp [results, Tryd.results13, go_sem, t0, t1, t2, t3, t4]) rfl ⟨rfl, (Below.setCell (Below.setCell (Below.setCell (Below.setCell (Below.setCell kw (by simp; try omega) _) (by simp; try omega) _) (by simp; try omega) _) (by simp; try omega) _) (by simp; try omega) _)⟩

set_option maxHeartbeats 1000000 in
theorem og_any (g : Gl) (n : Int) (w : World) :
    Calls Tryd.prog 15 #[.agg #[.int .i64 g.nat, .int .i64 g.st, .int .i64 g.sh, .int .i64 g.so, .int .i64 g.ho], .int .i64 n] w fun e w' => e = .returned (ansG (overG g n) (overGE g n)) ∧ Kept w w' := by
  obtain ⟨W, hW⟩ : ∃ W, W = ((w.alloc (.cells #[.int .i64 g.nat, .int .i64 g.st, .int .i64 g.sh, .int .i64 g.so, .int .i64 g.ho] 33)).alloc (.cells #[.int .i64 n] 3)).alloc (.cells #[.int .i64 0, .int .i64 0, .int .i64 0, .int .i64 0, .int .i64 0] 33) := ⟨_, rfl⟩
  obtain ⟨m0, m1, m2⟩ := made3 w _ _ _ W hW
  have hk0 : Kept w W := by rw [hW]; exact (((Kept.refl w).alloc (Nat.le_refl _) _).alloc (by simp) _).alloc (by simp; omega) _
  have hb2 := fun w1 (hk : Kept W w1) => Lib.hid (box_glue (B := w.heap.size + 1 + 1) m2 hk)
  have hn : NumAt W (w.heap.size + 1) n := m1
  have Hc : Hid (Calls Tryd.prog 38 #[.agg #[.int .i64 g.nat, .int .i64 g.st, .int .i64 g.sh, .int .i64 g.so, .int .i64 g.ho], .func (Fn.func 42) #[] #[.pointer (some ⟨w.heap.size + 1, 0, none⟩)]] W fun e w' =>
      e = .returned (ansG (overG g n) (overGE g n)) ∧ Kept W w') := by
    refine Lib.hid ?_
    cases hok : g.okB
    · have e1 : overGE g n = 30 := by simp [overGE, eachE, hok]
      have e2 : overG g n = ⟨0, 0, 0, 0, 0⟩ := by
        have := e1
        unfold overGE at this
        unfold overG eachG
        rw [this]
        rfl
      rw [e1, e2]
      exact og_bad g.nat g.st g.sh g.so g.ho (w.heap.size + 1) W hok
    · have e : ansG (overG g n) (overGE g n) = eachOut (osV n g.nat) (osE n) (osV n g.st) (osE n) (osV n g.sh) (osE n) g.so g.ho := (eachOut_ans g (osV n) (fun _ => osE n) hok).symm
      rw [e]
      exact each_over g.nat g.st g.sh g.so g.ho (w.heap.size + 1) (osV n) (fun _ => osE n) W hok (fun x w' h0 h1 hb => ostep_any x n _ w' ((hb.block _ (by have := hn.lt; omega)).trans hn) h0 h1)
  have hW' := Lib.hid hW
  clear hW m0 m1 m2 hn
  generalize overG g n = G at *
  generalize overGE g n = E at *
  go_enter Tryd.func15, Tryd.ntmps15
  go_wp2_with (fail)
  rw [← hW'.out]
  refine Hc.out.mono ?_
  rintro e w1 ⟨rfl, k1⟩
  obtain ⟨t0, t1, t2, t3, t4, tf, tl⟩ := (hb2 _ k1).out
  have kw : Kept w w1 := Kept.trans hk0 k1
  clear k1
  go_wp2_with (fail)
  exact bodyPost_ret (v := ansG G E) (by simp [results, Tryd.results15, go_sem, t0, t1, t2, t3, t4]) rfl ⟨rfl, (Below.setCell (Below.setCell (Below.setCell (Below.setCell (Below.setCell kw (by simp; try omega) _) (by simp; try omega) _) (by simp; try omega) _) (by simp; try omega) _) (by simp; try omega) _)⟩
end Go.Proofs.YtdlbpepkgoandaaDoor
