/- galleyref02.Plus, Times, Over: what the program's own answer. -/
import Derived.Test.YtdlbpepkgoandaaDoorGRef2
namespace Go.Proofs.YtdlbpepkgoandaaDoor
open Go.RowKit

theorem dimB_of {n : Int} (h : -1073741823 ≤ n ∧ n ≤ 1073741823) : dimB n = true := decide_eq_true h
theorem dimB_not {n : Int} (h : ¬ (-1073741823 ≤ n ∧ n ≤ 1073741823)) : dimB n = false := decide_eq_false h

theorem flex_same {a x b y : Int} (ha : -1073741823 ≤ a ∧ a ≤ 1073741823) (hb : -1073741823 ≤ b ∧ b ≤ 1073741823) :
    (pE a x b y = 0 ∧ dimB (jN a x b y) = true ∧ pN a x b y = jN a x b y ∧ tidyO (pN a x b y) (pO a x b y) = tidyO (jN a x b y) (jO a x b y)) ∨ (pE a x b y = 20 ∧ dimB (jN a x b y) = false) := by
  by_cases h0 : a = 0
  · subst h0
    left
    refine ⟨by simp [pE], by simp [jN]; exact dimB_of hb, by simp [pN, jN], ?_⟩
    by_cases hb0 : b = 0
    · simp [tidyO, pN, jN, hb0]
    · simp [tidyO, pN, pO, jO, jN, hb0]
  · by_cases h1 : b = 0
    · subst h1
      left
      refine ⟨by simp [pE], by simp [jN, h0]; exact dimB_of ha, by simp [pN, jN, h0], ?_⟩
      simp [tidyO, pN, pO, jO, jN, h0]
    · by_cases h2 : x < y
      · left
        refine ⟨by simp [pE, h0, h1, h2], by simp [jN, h0, h1, h2]; exact dimB_of hb, by simp [pN, jN, h0, h1, h2], ?_⟩
        simp [tidyO, pN, pO, jO, jN, h0, h1, h2]
      · by_cases h3 : x = y
        · subst h3
          have e1 : pE a x b x = addE a b := by simp [pE, h0, h1]
          have e2 : jN a x b x = a + b := by simp [jN, h0, h1]
          have e3 : pN a x b x = addV a b := by simp [pN, h0, h1]
          rw [e1, e2, e3, addE_dim ha hb, addV_dim ha hb]
          by_cases hr : -1073741823 ≤ a + b ∧ a + b ≤ 1073741823
          · left
            refine ⟨if_pos hr, dimB_of hr, if_pos hr, ?_⟩
            rw [if_pos hr]
            by_cases hz : a + b = 0
            · simp [tidyO, hz]
            · simp [tidyO, hz, pO, jO, e2, h0, h1]
          · right
            exact ⟨if_neg hr, dimB_not hr⟩
        · have h4 : y < x := by omega
          left
          refine ⟨by simp [pE, h0, h1, h2, h4], by simp [jN, h0, h1, h2, h3]; exact dimB_of ha, by simp [pN, jN, h0, h1, h2, h3, h4], ?_⟩
          simp [tidyO, pN, pO, jO, jN, h0, h1, h2, h3, h4]

theorem rplus_same (a b : Gl) (hA : a.okB = true) (hB : b.okB = true) :
    ansG (plusG a b) (plusE a b) = ansG (rightG (a.nat + b.nat) (jN a.st a.so b.st b.so) (jN a.sh a.ho b.sh b.ho) (jO a.st a.so b.st b.so) (jO a.sh a.ho b.sh b.ho)) (rightE (a.nat + b.nat) (jN a.st a.so b.st b.so) (jN a.sh a.ho b.sh b.ho)) := by
  obtain ⟨a0, a1, a2, _, _⟩ := ok_cases hA
  obtain ⟨b0, b1, b2, _, _⟩ := ok_cases hB
  have hok : (a.okB && b.okB) = true := by simp [hA, hB]
  have n1 := addE_dim a0 b0
  have n2 := addV_dim a0 b0
  have bad : plusE a b ≠ 0 → plusG a b = ⟨0, 0, 0, 0, 0⟩ := fun h => by unfold plusG; rw [if_neg h]
  have e20 : ¬ (addE a.nat b.nat = 0 ∧ pE a.st a.so b.st b.so = 0 ∧ pE a.sh a.ho b.sh b.ho = 0) → plusE a b = 20 := fun h => by unfold plusE; rw [if_pos hok, if_neg h]
  by_cases hr : -1073741823 ≤ a.nat + b.nat ∧ a.nat + b.nat ≤ 1073741823
  · rw [if_pos hr] at n1 n2
    have d0 := dimB_of hr
    rcases flex_same (x := a.so) (y := b.so) a1 b1 with ⟨s1, s2, s3, s4⟩ | ⟨s1, s2⟩
    · rcases flex_same (x := a.ho) (y := b.ho) a2 b2 with ⟨r1, r2, r3, r4⟩ | ⟨r1, r2⟩
      · have hE : plusE a b = 0 := by unfold plusE; rw [if_pos hok, if_pos ⟨n1, s1, r1⟩]
        have hG : plusG a b = ⟨a.nat + b.nat, jN a.st a.so b.st b.so, jN a.sh a.ho b.sh b.ho, tidyO (jN a.st a.so b.st b.so) (jO a.st a.so b.st b.so), tidyO (jN a.sh a.ho b.sh b.ho) (jO a.sh a.ho b.sh b.ho)⟩ := by
          unfold plusG; rw [if_pos hE, n2, s4, r4, s3, r3]
        rw [hE, hG]
        unfold rightG rightE
        rw [d0, s2, r2]; rfl
      · have hE : plusE a b = 20 := e20 (fun h => by omega)
        rw [hE, bad (by omega)]
        unfold rightG rightE
        rw [d0, s2, r2]; rfl
    · have hE : plusE a b = 20 := e20 (fun h => by omega)
      rw [hE, bad (by omega)]
      unfold rightG rightE
      rw [d0, s2]; rfl
  · rw [if_neg hr] at n1
    have hE : plusE a b = 20 := e20 (fun h => by omega)
    rw [hE, bad (by omega)]
    unfold rightG rightE
    rw [dimB_not hr]; rfl

theorem ts_same {x n : Int} (hx : -1073741823 ≤ x ∧ x ≤ 1073741823) : (tsE n x = 0 ∧ dimB (rtV x n) = true ∧ tsV n x = rtV x n) ∨ (tsE n x = 20 ∧ dimB (rtV x n) = false) := by
  by_cases h0 : x = 0
  · subst h0
    exact .inl ⟨by simp [tsE], by simp [rtV]; decide, by simp [tsV, rtV]⟩
  · have hfx := fit_dim hx
    have hf0 : fitB 0 = true := by decide
    by_cases hn : fitB n = true
    · obtain ⟨n0, n1⟩ := fit_yes hn
      have hv : rtV x n = x * n := by
        unfold rtV
        rw [if_neg h0]
        split
        · rename_i hz; rw [hz]; simp
        · rw [if_neg (by omega), if_neg (by omega)]
      have hc : n * x + 0 = x * n := by rw [Int.add_zero, Int.mul_comm]
      have eE : timesE n x 0 = dimE (x * n) := by unfold timesE; rw [hn, hfx, hf0, hc]; rfl
      have eV : timesV n x 0 = dimV (x * n) := by unfold timesV; rw [hn, hfx, hf0, hc]; rfl
      rw [hv]
      by_cases hr : -1073741823 ≤ x * n ∧ x * n ≤ 1073741823
      · have hg : greatB (x * n) = false := by unfold greatB; simp [hr]
        have z1 : timesE n x 0 = 0 := by rw [eE]; unfold dimE; simp [hg]
        have z2 : timesV n x 0 = x * n := by rw [eV]; unfold dimV; simp [hg]
        exact .inl ⟨by simp [tsE, z1], dimB_of hr, by simp [tsV, h0, z1, z2]⟩
      · have hg : greatB (x * n) = true := by
          unfold greatB
          rw [decide_eq_false hr]; rfl
        have z1 : timesE n x 0 = 20 := by rw [eE]; unfold dimE; simp [hg]
        exact .inr ⟨by simp [tsE, h0, z1], dimB_not hr⟩
    · have hn : fitB n = false := by simpa using hn
      have z1 : timesE n x 0 = 11 := by unfold timesE; rw [hn]; rfl
      refine .inr ⟨by simp [tsE, h0, z1], ?_⟩
      have hn2 := fit_no hn
      apply dimB_not
      unfold rtV
      rw [if_neg h0, if_neg (by omega)]
      split
      · omega
      · split
        · omega
        · have : n = 2147483648 ∨ n = -2147483648 := by omega
          rcases this with rfl | rfl <;> omega

theorem each_same (g : Gl) (fV fE V : Int → Int) (hok : g.okB = true) (h : ∀ x, -1073741823 ≤ x ∧ x ≤ 1073741823 → (fE x = 0 ∧ dimB (V x) = true ∧ fV x = V x) ∨ (fE x = 20 ∧ dimB (V x) = false)) :
    ansG (eachG g fV fE) (eachE g fE) = ansG (rightG (V g.nat) (V g.st) (V g.sh) g.so g.ho) (rightE (V g.nat) (V g.st) (V g.sh)) := by
  obtain ⟨a0, a1, a2, _, _⟩ := ok_cases hok
  rcases h _ a0 with ⟨p1, p2, p3⟩ | ⟨p1, p2⟩
  · rcases h _ a1 with ⟨q1, q2, q3⟩ | ⟨q1, q2⟩
    · rcases h _ a2 with ⟨r1, r2, r3⟩ | ⟨r1, r2⟩
      · have hE : eachE g fE = 0 := by unfold eachE; rw [if_pos hok]; simp [p1, q1, r1]
        have hG : eachG g fV fE = ⟨V g.nat, V g.st, V g.sh, tidyO (V g.st) g.so, tidyO (V g.sh) g.ho⟩ := by unfold eachG; rw [if_pos hE, p3, q3, r3]
        rw [hE, hG]
        unfold rightG rightE
        rw [p2, q2, r2]; rfl
      · have hE : eachE g fE = 20 := by unfold eachE; rw [if_pos hok]; simp [p1, q1, r1]
        have hG : eachG g fV fE = ⟨0, 0, 0, 0, 0⟩ := by unfold eachG; rw [if_neg (by omega)]
        rw [hE, hG]
        unfold rightG rightE
        rw [p2, q2, r2]; rfl
    · have hE : eachE g fE = 20 := by unfold eachE; rw [if_pos hok]; simp [p1, q1]
      have hG : eachG g fV fE = ⟨0, 0, 0, 0, 0⟩ := by unfold eachG; rw [if_neg (by omega)]
      rw [hE, hG]
      unfold rightG rightE
      rw [p2, q2]; rfl
  · have hE : eachE g fE = 20 := by unfold eachE; rw [if_pos hok]; simp [p1]
    have hG : eachG g fV fE = ⟨0, 0, 0, 0, 0⟩ := by unfold eachG; rw [if_neg (by omega)]
    rw [hE, hG]
    unfold rightG rightE
    rw [p2]; rfl


set_option maxHeartbeats 1000000 in
theorem rplus_bad1 (a b : Gl) (w : World) (hA : a.okB = false) :
    Calls Tryd.prog 12 #[.agg #[.int .i64 a.nat, .int .i64 a.st, .int .i64 a.sh, .int .i64 a.so, .int .i64 a.ho], .agg #[.int .i64 b.nat, .int .i64 b.st, .int .i64 b.sh, .int .i64 b.so, .int .i64 b.ho]] w fun e w' => e = .returned (.tuple #[.agg #[.int .i64 0, .int .i64 0, .int .i64 0, .int .i64 0, .int .i64 0], .int .i64 30]) ∧ Kept w w' := by
  have c1 := fun w => Lib.hid (rcheck_any a.nat a.st a.sh a.so a.ho w)
  have e1 : Gl.err ⟨a.nat, a.st, a.sh, a.so, a.ho⟩ = 30 := by show Gl.err a = 30; simp [Gl.err, hA]
  rw [e1] at c1
  clear e1 hA
  obtain ⟨W, hW⟩ : ∃ W, W = ((w.alloc (.cells #[.int .i64 a.nat, .int .i64 a.st, .int .i64 a.sh, .int .i64 a.so, .int .i64 a.ho] 33)).alloc (.cells #[.int .i64 b.nat, .int .i64 b.st, .int .i64 b.sh, .int .i64 b.so, .int .i64 b.ho] 33)).alloc (.cells #[.int .i64 0, .int .i64 0, .int .i64 0, .int .i64 0, .int .i64 0] 33) := ⟨_, rfl⟩
  obtain ⟨m0, m1, m2⟩ := made3 w _ _ _ W hW
  have hk0 : Kept w W := by rw [hW]; exact (((Kept.refl w).alloc (Nat.le_refl _) _).alloc (by simp) _).alloc (by simp; omega) _
  have hb0 := fun w1 (hk : Kept W w1) => Lib.hid (box_glue m0 hk)
  have hb1 := fun w1 (hk : Kept W w1) => Lib.hid (box_glue m1 hk)
  have hb2 := fun w1 (hk : Kept W w1) => Lib.hid (box_glue (B := w.heap.size + 1 + 1) m2 hk)
  have hW' := Lib.hid hW
  clear hW m0 m1 m2
  go_enter Tryd.func12, Tryd.ntmps12
  go_wp2_with (fail)
  rw [← hW'.out]
  refine (c1 _).out.mono ?_
  rintro e w1 ⟨rfl, k1⟩
  obtain ⟨t0, t1, t2, t3, t4, tf, tl⟩ := (hb2 _ k1).out
  have kw : Kept w w1 := Kept.trans hk0 k1
  clear k1
  go_wp2_with (fail)
  exact bodyPost_ret (v := (.tuple #[.agg #[.int .i64 0, .int .i64 0, .int .i64 0, .int .i64 0, .int .i64 0], .int .i64 30])) (by simp [results, Tryd.results12, go_sem, t0, t1, t2, t3, t4]) rfl ⟨rfl, (Below.setCell (Below.setCell (Below.setCell (Below.setCell (Below.setCell kw (by simp; try omega) _) (by simp; try omega) _) (by simp; try omega) _) (by simp; try omega) _) (by simp; try omega) _)⟩

set_option maxHeartbeats 1000000 in
theorem rplus_bad2 (a b : Gl) (w : World) (hA : a.okB = true) (hB : b.okB = false) :
    Calls Tryd.prog 12 #[.agg #[.int .i64 a.nat, .int .i64 a.st, .int .i64 a.sh, .int .i64 a.so, .int .i64 a.ho], .agg #[.int .i64 b.nat, .int .i64 b.st, .int .i64 b.sh, .int .i64 b.so, .int .i64 b.ho]] w fun e w' => e = .returned (.tuple #[.agg #[.int .i64 0, .int .i64 0, .int .i64 0, .int .i64 0, .int .i64 0], .int .i64 30]) ∧ Kept w w' := by
  have c1 := fun w => Lib.hid (rcheck_any a.nat a.st a.sh a.so a.ho w)
  have c2 := fun w => Lib.hid (rcheck_any b.nat b.st b.sh b.so b.ho w)
  have e1 : Gl.err ⟨a.nat, a.st, a.sh, a.so, a.ho⟩ = 0 := by show Gl.err a = 0; simp [Gl.err, hA]
  have e2 : Gl.err ⟨b.nat, b.st, b.sh, b.so, b.ho⟩ = 30 := by show Gl.err b = 30; simp [Gl.err, hB]
  rw [e1] at c1
  rw [e2] at c2
  clear e1 e2 hA hB
  obtain ⟨W, hW⟩ : ∃ W, W = ((w.alloc (.cells #[.int .i64 a.nat, .int .i64 a.st, .int .i64 a.sh, .int .i64 a.so, .int .i64 a.ho] 33)).alloc (.cells #[.int .i64 b.nat, .int .i64 b.st, .int .i64 b.sh, .int .i64 b.so, .int .i64 b.ho] 33)).alloc (.cells #[.int .i64 0, .int .i64 0, .int .i64 0, .int .i64 0, .int .i64 0] 33) := ⟨_, rfl⟩
  obtain ⟨m0, m1, m2⟩ := made3 w _ _ _ W hW
  have hk0 : Kept w W := by rw [hW]; exact (((Kept.refl w).alloc (Nat.le_refl _) _).alloc (by simp) _).alloc (by simp; omega) _
  have hb0 := fun w1 (hk : Kept W w1) => Lib.hid (box_glue m0 hk)
  have hb1 := fun w1 (hk : Kept W w1) => Lib.hid (box_glue m1 hk)
  have hb2 := fun w1 (hk : Kept W w1) => Lib.hid (box_glue (B := w.heap.size + 1 + 1) m2 hk)
  have hW' := Lib.hid hW
  clear hW m0 m1 m2
  go_enter Tryd.func12, Tryd.ntmps12
  go_wp2_with (fail)
  rw [← hW'.out]
  refine (c1 _).out.mono ?_
  rintro e w1 ⟨rfl, k1⟩
  obtain ⟨q0, q1, q2, q3, q4, qf, ql⟩ := (hb1 _ k1).out
  go_wp2_with (fail)
  refine (c2 _).out.mono ?_
  rintro e w2 ⟨rfl, k2⟩
  have k12 : Kept W w2 := Kept.trans k1 k2
  clear q0 q1 q2 q3 q4 qf ql k1 k2
  obtain ⟨t0, t1, t2, t3, t4, tf, tl⟩ := (hb2 _ k12).out
  have kw : Kept w w2 := Kept.trans hk0 k12
  clear k12
  go_wp2_with (fail)
  exact bodyPost_ret (v := (.tuple #[.agg #[.int .i64 0, .int .i64 0, .int .i64 0, .int .i64 0, .int .i64 0], .int .i64 30])) (by simp [results, Tryd.results12, go_sem, t0, t1, t2, t3, t4]) rfl ⟨rfl, (Below.setCell (Below.setCell (Below.setCell (Below.setCell (Below.setCell kw (by simp; try omega) _) (by simp; try omega) _) (by simp; try omega) _) (by simp; try omega) _) (by simp; try omega) _)⟩

set_option maxHeartbeats 2000000 in
theorem rplus_good (a b : Gl) (w : World) (hA : a.okB = true) (hB : b.okB = true) :
    Calls Tryd.prog 12 #[.agg #[.int .i64 a.nat, .int .i64 a.st, .int .i64 a.sh, .int .i64 a.so, .int .i64 a.ho], .agg #[.int .i64 b.nat, .int .i64 b.st, .int .i64 b.sh, .int .i64 b.so, .int .i64 b.ho]] w fun e w' => e = .returned (ansG (plusG a b) (plusE a b)) ∧ Kept w w' := by
  rw [rplus_same a b hA hB]
  have c1 := fun w => Lib.hid (rcheck_any a.nat a.st a.sh a.so a.ho w)
  have c2 := fun w => Lib.hid (rcheck_any b.nat b.st b.sh b.so b.ho w)
  have e1 : Gl.err ⟨a.nat, a.st, a.sh, a.so, a.ho⟩ = 0 := by show Gl.err a = 0; simp [Gl.err, hA]
  have e2 : Gl.err ⟨b.nat, b.st, b.sh, b.so, b.ho⟩ = 0 := by show Gl.err b = 0; simp [Gl.err, hB]
  rw [e1] at c1
  rw [e2] at c2
  obtain ⟨⟨u0, v0⟩, a1, a2, _, _⟩ := ok_cases hA
  obtain ⟨⟨u1, v1⟩, b1, b2, _, _⟩ := ok_cases hB
  have j1 := fun w => Lib.hid (joined_any a.st a.so b.st b.so w a1 b1)
  have j2 := fun w => Lib.hid (joined_any a.sh a.ho b.sh b.ho w a2 b2)
  have hr := fun w => Lib.hid (rright_any (a.nat + b.nat) (jN a.st a.so b.st b.so) (jN a.sh a.ho b.sh b.ho) (jO a.st a.so b.st b.so) (jO a.sh a.ho b.sh b.ho) w)
  clear e1 e2 hA hB a1 a2 b1 b2
  generalize rightG (a.nat + b.nat) (jN a.st a.so b.st b.so) (jN a.sh a.ho b.sh b.ho) (jO a.st a.so b.st b.so) (jO a.sh a.ho b.sh b.ho) = G at *
  generalize rightE (a.nat + b.nat) (jN a.st a.so b.st b.so) (jN a.sh a.ho b.sh b.ho) = E at *
  generalize jN a.st a.so b.st b.so = N1 at *
  generalize jO a.st a.so b.st b.so = O1 at *
  generalize jN a.sh a.ho b.sh b.ho = N2 at *
  generalize jO a.sh a.ho b.sh b.ho = O2 at *
  obtain ⟨W, hW⟩ : ∃ W, W = ((w.alloc (.cells #[.int .i64 a.nat, .int .i64 a.st, .int .i64 a.sh, .int .i64 a.so, .int .i64 a.ho] 33)).alloc (.cells #[.int .i64 b.nat, .int .i64 b.st, .int .i64 b.sh, .int .i64 b.so, .int .i64 b.ho] 33)).alloc (.cells #[.int .i64 0, .int .i64 0, .int .i64 0, .int .i64 0, .int .i64 0] 33) := ⟨_, rfl⟩
  obtain ⟨m0, m1, m2⟩ := made3 w _ _ _ W hW
  have hk0 : Kept w W := by rw [hW]; exact (((Kept.refl w).alloc (Nat.le_refl _) _).alloc (by simp) _).alloc (by simp; omega) _
  have hb0 := fun w1 (hk : Kept W w1) => Lib.hid (box_glue m0 hk)
  have hb1 := fun w1 (hk : Kept W w1) => Lib.hid (box_glue m1 hk)
  have hb2 := fun w1 (hk : Kept W w1) => Lib.hid (box_glue (B := w.heap.size + 1 + 1) m2 hk)
  have hW' := Lib.hid hW
  clear hW m0 m1 m2
  go_enter Tryd.func12, Tryd.ntmps12
  go_wp2_with (fail)
  rw [← hW'.out]
  refine (c1 _).out.mono ?_
  rintro e w1 ⟨rfl, k1⟩
  obtain ⟨q0, q1, q2, q3, q4, qf, ql⟩ := (hb1 _ k1).out
  go_wp2_with (fail)
  refine (c2 _).out.mono ?_
  rintro e w2 ⟨rfl, k2⟩
  have k12 : Kept W w2 := Kept.trans k1 k2
  clear q0 q1 q2 q3 q4 qf ql k1 k2
  obtain ⟨p0, p1, p2, p3, p4, pf, pl⟩ := (hb0 _ k12).out
  obtain ⟨q0, q1, q2, q3, q4, qf, ql⟩ := (hb1 _ k12).out
  go_wp2_with (fail)
  refine (j1 _).out.mono ?_
  rintro e w' ⟨rfl, rfl⟩
  go_wp2_with (fail)
  refine (j2 _).out.mono ?_
  rintro e w' ⟨rfl, rfl⟩
  go_wp2_with (fail)
  refine (hr _).out.mono ?_
  rintro e w3 ⟨rfl, k3⟩
  have k23 : Kept w2 w3 := Kept.trans ((Kept.refl w2).alloc (Nat.le_refl _) _) k3
  have k13 : Kept W w3 := Kept.trans k12 k23
  clear p0 p1 p2 p3 p4 pf pl q0 q1 q2 q3 q4 qf ql k3 k12 k23
  obtain ⟨t0, t1, t2, t3, t4, tf, tl⟩ := (hb2 _ k13).out
  have kw : Kept w w3 := Kept.trans hk0 k13
  clear k13
  go_wp2_with (fail)
  exact bodyPost_ret (v := ansG G E) (by simp [results, Tryd.results12, go_sem, t0, t1, t2, t3, t4]) rfl ⟨rfl, (Below.setCell (Below.setCell (Below.setCell (Below.setCell (Below.setCell kw (by simp; try omega) _) (by simp; try omega) _) (by simp; try omega) _) (by simp; try omega) _) (by simp; try omega) _)⟩

theorem rplus_any (a b : Gl) (w : World) :
    Calls Tryd.prog 12 #[.agg #[.int .i64 a.nat, .int .i64 a.st, .int .i64 a.sh, .int .i64 a.so, .int .i64 a.ho], .agg #[.int .i64 b.nat, .int .i64 b.st, .int .i64 b.sh, .int .i64 b.so, .int .i64 b.ho]] w fun e w' => e = .returned (ansG (plusG a b) (plusE a b)) ∧ Kept w w' := by
  cases hA : a.okB
  · have e1 : plusE a b = 30 := by simp [plusE, hA]
    have e2 : plusG a b = ⟨0, 0, 0, 0, 0⟩ := by simp [plusG, e1]
    rw [e1, e2]
    exact rplus_bad1 a b w hA
  · cases hB : b.okB
    · have e1 : plusE a b = 30 := by simp [plusE, hB]
      have e2 : plusG a b = ⟨0, 0, 0, 0, 0⟩ := by simp [plusG, e1]
      rw [e1, e2]
      exact rplus_bad2 a b w hA hB
    · exact rplus_good a b w hA hB


set_option maxHeartbeats 1000000 in
theorem rtg_bad (g : Gl) (n : Int) (w : World) (hA : g.okB = false) :
    Calls Tryd.prog 14 #[.agg #[.int .i64 g.nat, .int .i64 g.st, .int .i64 g.sh, .int .i64 g.so, .int .i64 g.ho], .int .i64 n] w fun e w' => e = .returned (.tuple #[.agg #[.int .i64 0, .int .i64 0, .int .i64 0, .int .i64 0, .int .i64 0], .int .i64 30]) ∧ Kept w w' := by
  have c1 := fun w => Lib.hid (rcheck_any g.nat g.st g.sh g.so g.ho w)
  have e1 : Gl.err ⟨g.nat, g.st, g.sh, g.so, g.ho⟩ = 30 := by show Gl.err g = 30; simp [Gl.err, hA]
  rw [e1] at c1
  clear e1 hA
  obtain ⟨W, hW⟩ : ∃ W, W = (w.alloc (.cells #[.int .i64 g.nat, .int .i64 g.st, .int .i64 g.sh, .int .i64 g.so, .int .i64 g.ho] 33)).alloc (.cells #[.int .i64 0, .int .i64 0, .int .i64 0, .int .i64 0, .int .i64 0] 33) := ⟨_, rfl⟩
  obtain ⟨m0, m1⟩ := made2 w _ _ W hW
  have hk0 : Kept w W := by rw [hW]; exact ((Kept.refl w).alloc (Nat.le_refl _) _).alloc (by simp) _
  have hb0 := fun w1 (hk : Kept W w1) => Lib.hid (box_glue m0 hk)
  have hb1 := fun w1 (hk : Kept W w1) => Lib.hid (box_glue m1 hk)
  have hW' := Lib.hid hW
  clear hW m0 m1
  go_enter Tryd.func14, Tryd.ntmps14
  go_wp2_with (fail)
  rw [← hW'.out]
  refine (c1 _).out.mono ?_
  rintro e w1 ⟨rfl, k1⟩
  obtain ⟨t0, t1, t2, t3, t4, tf, tl⟩ := (hb1 _ k1).out
  have kw : Kept w w1 := Kept.trans hk0 k1
  clear k1
  go_wp2_with (fail)
  exact bodyPost_ret (v := (.tuple #[.agg #[.int .i64 0, .int .i64 0, .int .i64 0, .int .i64 0, .int .i64 0], .int .i64 30])) (by simp [results, Tryd.results14, go_sem, t0, t1, t2, t3, t4]) rfl ⟨rfl, (Below.setCell (Below.setCell (Below.setCell (Below.setCell (Below.setCell kw (by simp; try omega) _) (by simp; try omega) _) (by simp; try omega) _) (by simp; try omega) _) (by simp; try omega) _)⟩


set_option maxHeartbeats 2000000 in
theorem rtg_good (g : Gl) (n : Int) (w : World) (hok : g.okB = true) :
    Calls Tryd.prog 14 #[.agg #[.int .i64 g.nat, .int .i64 g.st, .int .i64 g.sh, .int .i64 g.so, .int .i64 g.ho], .int .i64 n] w fun e w' => e = .returned (ansG (timesG g n) (timesGE g n)) ∧ Kept w w' := by
  have es : ansG (timesG g n) (timesGE g n) = _ := each_same g (tsV n) (tsE n) (fun x => rtV x n) hok (fun x hx => ts_same hx)
  rw [es]
  clear es
  have c1 := fun w => Lib.hid (rcheck_any g.nat g.st g.sh g.so g.ho w)
  have e1 : Gl.err ⟨g.nat, g.st, g.sh, g.so, g.ho⟩ = 0 := by show Gl.err g = 0; simp [Gl.err, hok]
  rw [e1] at c1
  obtain ⟨a0, a1, a2, _, _⟩ := ok_cases hok
  have j0 := fun w => Lib.hid (rtimes_any g.nat n w a0)
  have j1 := fun w => Lib.hid (rtimes_any g.st n w a1)
  have j2 := fun w => Lib.hid (rtimes_any g.sh n w a2)
  have hr := fun w => Lib.hid (rright_any (rtV g.nat n) (rtV g.st n) (rtV g.sh n) g.so g.ho w)
  clear e1 hok a0 a1 a2
  generalize rightG (rtV g.nat n) (rtV g.st n) (rtV g.sh n) g.so g.ho = G at *
  generalize rightE (rtV g.nat n) (rtV g.st n) (rtV g.sh n) = E at *
  generalize rtV g.nat n = V0 at *
  generalize rtV g.st n = V1 at *
  generalize rtV g.sh n = V2 at *
  obtain ⟨W, hW⟩ : ∃ W, W = (w.alloc (.cells #[.int .i64 g.nat, .int .i64 g.st, .int .i64 g.sh, .int .i64 g.so, .int .i64 g.ho] 33)).alloc (.cells #[.int .i64 0, .int .i64 0, .int .i64 0, .int .i64 0, .int .i64 0] 33) := ⟨_, rfl⟩
  obtain ⟨m0, m1⟩ := made2 w _ _ W hW
  have hk0 : Kept w W := by rw [hW]; exact ((Kept.refl w).alloc (Nat.le_refl _) _).alloc (by simp) _
  have hb0 := fun w1 (hk : Kept W w1) => Lib.hid (box_glue m0 hk)
  have hb1 := fun w1 (hk : Kept W w1) => Lib.hid (box_glue m1 hk)
  have hW' := Lib.hid hW
  have HM := Lib.hid m1
  clear hW m0 m1
  go_enter Tryd.func14, Tryd.ntmps14
  go_wp2_with (fail)
  rw [← hW'.out]
  refine (c1 _).out.mono ?_
  rintro e w1 ⟨rfl, k1⟩
  obtain ⟨p0, p1, p2, p3, p4, pf, pl⟩ := (hb0 _ k1).out
  go_wp2_with (fail)
  refine (j0 _).out.mono ?_
  rintro e w' ⟨rfl, rfl⟩
  go_wp2_with (fail)
  refine (j1 _).out.mono ?_
  rintro e w' ⟨rfl, rfl⟩
  go_wp2_with (fail)
  refine (j2 _).out.mono ?_
  rintro e w' ⟨rfl, rfl⟩
  go_wp2_with (fail)
  refine (hr _).out.mono ?_
  rintro e w2 ⟨rfl, k2⟩
  have hs1 : w.heap.size + 1 < w1.heap.size := (hb1 _ k1).out.2.2.2.2.2.2
  have b1 : Below w.heap.size w w1 := Kept.trans hk0 k1
  have t1b : w2.heap[w.heap.size + 1]? = w1.heap[w.heap.size + 1]? := (k2.block _ (by simp [World.setCell]; omega)).trans ((Below.heap_setCell _ _ _ _ (by simp)).trans ((Below.heap_setCell _ _ _ _ (by simp)).trans (Below.heap_setCell _ _ _ _ (by simp))))
  obtain ⟨t0, t1, t2, t3, t4, tf, tl⟩ := box_five ((k1.block _ (lt_of_some HM.out)).trans HM.out) t1b
  have kw : Kept w w2 := Below.trans (Below.setCell (Below.setCell (Below.setCell b1 (Nat.le_refl _) _) (Nat.le_refl _) _) (Nat.le_refl _) _) (k2.mono (by simp [World.setCell]; omega))
  clear p0 p1 p2 p3 p4 pf pl k1 k2 b1 t1b
  go_wp2_with (fail)
  exact bodyPost_ret (v := ansG G E) (by simp [results, Tryd.results14, go_sem, t0, t1, t2, t3, t4]) rfl ⟨rfl, (Below.setCell (Below.setCell (Below.setCell (Below.setCell (Below.setCell kw (by simp; try omega) _) (by simp; try omega) _) (by simp; try omega) _) (by simp; try omega) _) (by simp; try omega) _)⟩

theorem rtg_any (g : Gl) (n : Int) (w : World) :
    Calls Tryd.prog 14 #[.agg #[.int .i64 g.nat, .int .i64 g.st, .int .i64 g.sh, .int .i64 g.so, .int .i64 g.ho], .int .i64 n] w fun e w' => e = .returned (ansG (timesG g n) (timesGE g n)) ∧ Kept w w' := by
  cases hok : g.okB
  · have e1 : timesGE g n = 30 := by simp [timesGE, eachE, hok]
    have e2 : timesG g n = ⟨0, 0, 0, 0, 0⟩ := by
      have := e1
      unfold timesGE at this
      unfold timesG eachG
      rw [this]; rfl
    rw [e1, e2]
    exact rtg_bad g n w hok
  · exact rtg_good g n w hok


set_option maxHeartbeats 1000000 in
theorem rog_bad (g : Gl) (n : Int) (w : World) (hA : g.okB = false) :
    Calls Tryd.prog 16 #[.agg #[.int .i64 g.nat, .int .i64 g.st, .int .i64 g.sh, .int .i64 g.so, .int .i64 g.ho], .int .i64 n] w fun e w' => e = .returned (.tuple #[.agg #[.int .i64 0, .int .i64 0, .int .i64 0, .int .i64 0, .int .i64 0], .int .i64 30]) ∧ Kept w w' := by
  have c1 := fun w => Lib.hid (rcheck_any g.nat g.st g.sh g.so g.ho w)
  have e1 : Gl.err ⟨g.nat, g.st, g.sh, g.so, g.ho⟩ = 30 := by show Gl.err g = 30; simp [Gl.err, hA]
  rw [e1] at c1
  clear e1 hA
  obtain ⟨W, hW⟩ : ∃ W, W = (w.alloc (.cells #[.int .i64 g.nat, .int .i64 g.st, .int .i64 g.sh, .int .i64 g.so, .int .i64 g.ho] 33)).alloc (.cells #[.int .i64 0, .int .i64 0, .int .i64 0, .int .i64 0, .int .i64 0] 33) := ⟨_, rfl⟩
  obtain ⟨m0, m1⟩ := made2 w _ _ W hW
  have hk0 : Kept w W := by rw [hW]; exact ((Kept.refl w).alloc (Nat.le_refl _) _).alloc (by simp) _
  have hb0 := fun w1 (hk : Kept W w1) => Lib.hid (box_glue m0 hk)
  have hb1 := fun w1 (hk : Kept W w1) => Lib.hid (box_glue m1 hk)
  have hW' := Lib.hid hW
  clear hW m0 m1
  go_enter Tryd.func16, Tryd.ntmps16
  go_wp2_with (fail)
  rw [← hW'.out]
  refine (c1 _).out.mono ?_
  rintro e w1 ⟨rfl, k1⟩
  obtain ⟨t0, t1, t2, t3, t4, tf, tl⟩ := (hb1 _ k1).out
  have kw : Kept w w1 := Kept.trans hk0 k1
  clear k1
  go_wp2_with (fail)
  exact bodyPost_ret (v := (.tuple #[.agg #[.int .i64 0, .int .i64 0, .int .i64 0, .int .i64 0, .int .i64 0], .int .i64 30])) (by simp [results, Tryd.results16, go_sem, t0, t1, t2, t3, t4]) rfl ⟨rfl, (Below.setCell (Below.setCell (Below.setCell (Below.setCell (Below.setCell kw (by simp; try omega) _) (by simp; try omega) _) (by simp; try omega) _) (by simp; try omega) _) (by simp; try omega) _)⟩


set_option maxHeartbeats 2000000 in
theorem rog_zero (g : Gl) (w : World) (hok : g.okB = true) :
    Calls Tryd.prog 16 #[.agg #[.int .i64 g.nat, .int .i64 g.st, .int .i64 g.sh, .int .i64 g.so, .int .i64 g.ho], .int .i64 0] w fun e w' => e = .returned (.tuple #[.agg #[.int .i64 0, .int .i64 0, .int .i64 0, .int .i64 0, .int .i64 0], .int .i64 20]) ∧ Kept w w' := by
  have c1 := fun w => Lib.hid (rcheck_any g.nat g.st g.sh g.so g.ho w)
  have e1 : Gl.err ⟨g.nat, g.st, g.sh, g.so, g.ho⟩ = 0 := by show Gl.err g = 0; simp [Gl.err, hok]
  rw [e1] at c1
  clear e1 hok
  obtain ⟨W, hW⟩ : ∃ W, W = (w.alloc (.cells #[.int .i64 g.nat, .int .i64 g.st, .int .i64 g.sh, .int .i64 g.so, .int .i64 g.ho] 33)).alloc (.cells #[.int .i64 0, .int .i64 0, .int .i64 0, .int .i64 0, .int .i64 0] 33) := ⟨_, rfl⟩
  obtain ⟨m0, m1⟩ := made2 w _ _ W hW
  have hk0 : Kept w W := by rw [hW]; exact ((Kept.refl w).alloc (Nat.le_refl _) _).alloc (by simp) _
  have hb0 := fun w1 (hk : Kept W w1) => Lib.hid (box_glue m0 hk)
  have hb1 := fun w1 (hk : Kept W w1) => Lib.hid (box_glue m1 hk)
  have hW' := Lib.hid hW
  clear hW m0 m1
  go_enter Tryd.func16, Tryd.ntmps16
  go_wp2_with (fail)
  rw [← hW'.out]
  refine (c1 _).out.mono ?_
  rintro e w1 ⟨rfl, k1⟩
  obtain ⟨t0, t1, t2, t3, t4, tf, tl⟩ := (hb1 _ k1).out
  have kw : Kept w w1 := Kept.trans hk0 k1
  clear k1
  go_wp2_with (fail)
  exact bodyPost_ret (v := .tuple #[.agg #[.int .i64 0, .int .i64 0, .int .i64 0, .int .i64 0, .int .i64 0], .int .i64 20]) (by simp [results, Tryd.results16, go_sem, t0, t1, t2, t3, t4]) rfl ⟨rfl, (Below.setCell (Below.setCell (Below.setCell (Below.setCell (Below.setCell kw (by simp; try omega) _) (by simp; try omega) _) (by simp; try omega) _) (by simp; try omega) _) (by simp; try omega) _)⟩

theorem os_same {x n : Int} (hn : ¬ n = 0) (hx : -1073741823 ≤ x ∧ x ≤ 1073741823) : (osE n = 0 ∧ dimB (x.tdiv n) = true ∧ osV n x = x.tdiv n) ∨ (osE n = 20 ∧ dimB (x.tdiv n) = false) :=
  .inl ⟨by simp [osE, hn], dimB_of (tdiv_bd hx.1 hx.2), by simp [osV, hn]⟩

set_option maxHeartbeats 2000000 in
theorem rog_good (g : Gl) (n : Int) (w : World) (hok : g.okB = true) (hn : ¬ n = 0) :
    Calls Tryd.prog 16 #[.agg #[.int .i64 g.nat, .int .i64 g.st, .int .i64 g.sh, .int .i64 g.so, .int .i64 g.ho], .int .i64 n] w fun e w' => e = .returned (ansG (overG g n) (overGE g n)) ∧ Kept w w' := by
  have es : ansG (overG g n) (overGE g n) = _ := each_same g (osV n) (fun _ => osE n) (fun x => x.tdiv n) hok (fun x hx => os_same hn hx)
  rw [es]
  clear es
  have c1 := fun w => Lib.hid (rcheck_any g.nat g.st g.sh g.so g.ho w)
  have e1 : Gl.err ⟨g.nat, g.st, g.sh, g.so, g.ho⟩ = 0 := by show Gl.err g = 0; simp [Gl.err, hok]
  rw [e1] at c1
  obtain ⟨a0, a1, a2, _, _⟩ := ok_cases hok
  have y0 := tdiv_bd (n := n) a0.1 a0.2
  have y1 := tdiv_bd (n := n) a1.1 a1.2
  have y2 := tdiv_bd (n := n) a2.1 a2.2
  have w0 : wrap64 (g.nat.tdiv n) = g.nat.tdiv n := w64 (by omega) (by omega)
  have w1 : wrap64 (g.st.tdiv n) = g.st.tdiv n := w64 (by omega) (by omega)
  have w2 : wrap64 (g.sh.tdiv n) = g.sh.tdiv n := w64 (by omega) (by omega)
  have hnb : (n == 0) = false := by simpa using hn
  have hr := fun w => Lib.hid (rright_any (g.nat.tdiv n) (g.st.tdiv n) (g.sh.tdiv n) g.so g.ho w)
  clear e1 hok a0 a1 a2 y0 y1 y2
  generalize rightG (g.nat.tdiv n) (g.st.tdiv n) (g.sh.tdiv n) g.so g.ho = G at *
  generalize rightE (g.nat.tdiv n) (g.st.tdiv n) (g.sh.tdiv n) = E at *
  obtain ⟨W, hW⟩ : ∃ W, W = (w.alloc (.cells #[.int .i64 g.nat, .int .i64 g.st, .int .i64 g.sh, .int .i64 g.so, .int .i64 g.ho] 33)).alloc (.cells #[.int .i64 0, .int .i64 0, .int .i64 0, .int .i64 0, .int .i64 0] 33) := ⟨_, rfl⟩
  obtain ⟨m0, m1⟩ := made2 w _ _ W hW
  have hk0 : Kept w W := by rw [hW]; exact ((Kept.refl w).alloc (Nat.le_refl _) _).alloc (by simp) _
  have hb0 := fun w1 (hk : Kept W w1) => Lib.hid (box_glue m0 hk)
  have hb1 := fun w1 (hk : Kept W w1) => Lib.hid (box_glue m1 hk)
  have hW' := Lib.hid hW
  have HM := Lib.hid m1
  clear hW m0 m1
  go_enter Tryd.func16, Tryd.ntmps16
  go_wp2_with (fail)
  rw [← hW'.out]
  refine (c1 _).out.mono ?_
  rintro e w1 ⟨rfl, k1⟩
  obtain ⟨p0, p1, p2, p3, p4, pf, pl⟩ := (hb0 _ k1).out
  go_wp2_with (fail)
  refine (hr _).out.mono ?_
  rintro e w2 ⟨rfl, k2⟩
  have hs1 : w.heap.size + 1 < w1.heap.size := (hb1 _ k1).out.2.2.2.2.2.2
  have b1 : Below w.heap.size w w1 := Kept.trans hk0 k1
  have t1b : w2.heap[w.heap.size + 1]? = w1.heap[w.heap.size + 1]? := (k2.block _ (by simp [World.setCell]; omega)).trans ((Below.heap_setCell _ _ _ _ (by simp)).trans ((Below.heap_setCell _ _ _ _ (by simp)).trans (Below.heap_setCell _ _ _ _ (by simp))))
  obtain ⟨t0, t1, t2, t3, t4, tf, tl⟩ := box_five ((k1.block _ (lt_of_some HM.out)).trans HM.out) t1b
  have kw : Kept w w2 := Below.trans (Below.setCell (Below.setCell (Below.setCell b1 (Nat.le_refl _) _) (Nat.le_refl _) _) (Nat.le_refl _) _) (k2.mono (by simp [World.setCell]; omega))
  clear p0 p1 p2 p3 p4 pf pl k1 k2 b1 t1b
  go_wp2_with (fail)
  exact bodyPost_ret (v := ansG G E) (by simp [results, Tryd.results16, go_sem, t0, t1, t2, t3, t4]) rfl ⟨rfl, (Below.setCell (Below.setCell (Below.setCell (Below.setCell (Below.setCell kw (by simp; try omega) _) (by simp; try omega) _) (by simp; try omega) _) (by simp; try omega) _) (by simp; try omega) _)⟩

theorem rog_any (g : Gl) (n : Int) (w : World) :
    Calls Tryd.prog 16 #[.agg #[.int .i64 g.nat, .int .i64 g.st, .int .i64 g.sh, .int .i64 g.so, .int .i64 g.ho], .int .i64 n] w fun e w' => e = .returned (ansG (overG g n) (overGE g n)) ∧ Kept w w' := by
  cases hok : g.okB
  · have e1 : overGE g n = 30 := by simp [overGE, eachE, hok]
    have e2 : overG g n = ⟨0, 0, 0, 0, 0⟩ := by
      have := e1
      unfold overGE at this
      unfold overG eachG
      rw [this]; rfl
    rw [e1, e2]
    exact rog_bad g n w hok
  · by_cases hn : n = 0
    · subst hn
      have e1 : overGE g 0 = 20 := by simp [overGE, eachE, hok, osE]
      have e2 : overG g 0 = ⟨0, 0, 0, 0, 0⟩ := by
        have := e1
        unfold overGE at this
        unfold overG eachG
        rw [this]; rfl
      rw [e1, e2]
      exact rog_zero g w hok
    · exact rog_good g n w hok hn

end Go.Proofs.YtdlbpepkgoandaaDoor
