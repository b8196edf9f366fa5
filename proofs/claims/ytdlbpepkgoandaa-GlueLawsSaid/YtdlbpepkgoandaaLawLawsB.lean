/- The walk of galleylaw02.GlueLaws, where the product is not divided. -/
import Derived.Test.YtdlbpepkgoandaaLawLaws
namespace Go.Proofs.Ytdlbpepkgoandaa
open Go.RowKit

set_option maxRecDepth 100000 in
set_option maxHeartbeats 8000000 in
theorem laws_B (a b c : Gl) (n : Int) (w : World) (hI0 : timesGE a n ≠ 0) :
    Calls Try.prog 7 #[.agg #[.int .i64 a.nat, .int .i64 a.st, .int .i64 a.sh, .int .i64 a.so, .int .i64 a.ho], .agg #[.int .i64 b.nat, .int .i64 b.st, .int .i64 b.sh, .int .i64 b.so, .int .i64 b.ho], .agg #[.int .i64 c.nat, .int .i64 c.st, .int .i64 c.sh, .int .i64 c.so, .int .i64 c.ho], .int .i64 n] w fun e w' => e = .returned (.bool true) ∧ Kept w w' := by
  have hab := fun w => Lib.hid (plus_any a b w)
  have hba := fun w => Lib.hid (plus_any b a w)
  rw [plusE_comm b a, plusG_comm b a] at hba
  have haa := fun w => Lib.hid (plus_any a a w)
  have h2 := fun w => Lib.hid (tg_any a 2 w)
  rw [(twice a).1, (twice a).2] at haa
  have hn := fun w => Lib.hid (tg_any a n w)
  have hbc := fun w => Lib.hid (plus_any b c w)
  have hpc := fun w => Lib.hid (plus_any (plusG a b) c w)
  have haq := fun w => Lib.hid (plus_any a (plusG b c) w)
  have HXY := Lib.hid (fun s0 s1 s2 s3 s4 s5 h0 h1 h2 h3 => assoc a b c ⟨s0, s1⟩ ⟨s2, s3⟩ ⟨s4, s5⟩ h0 h1 h2 h3)
  generalize plusG (plusG a b) c = X at *
  generalize plusE (plusG a b) c = K at *
  generalize plusG a (plusG b c) = Y at *
  generalize plusE a (plusG b c) = L at *
  have y0 : (timesGE a n == 0) = false := zne hI0
  clear hI0
  generalize hP : plusG a b = P at *
  generalize hE : plusE a b = E at *
  generalize timesG a 2 = T at *
  generalize timesGE a 2 = F at *
  generalize hQ : plusG b c = Q at *
  generalize hJ : plusE b c = J at *
  have HP := Lib.hid hP
  have HE := Lib.hid hE
  have HQ := Lib.hid hQ
  have HJ := Lib.hid hJ
  clear hP hE hQ hJ
  generalize timesG a n = M at *
  generalize timesGE a n = I at *
  obtain ⟨W, hW⟩ : ∃ W, W = ((w.alloc (gobj a)).alloc (gobj b)).alloc (gobj c) := ⟨_, rfl⟩
  have ga : GBox W w.heap.size a := by rw [hW]; exact ((gmade w a).kept (kalloc _ _)).kept (kalloc _ _)
  have gb : GBox W (w.heap.size + 1) b := by rw [hW]; have := (gmade (w.alloc (gobj a)) b).kept (kalloc _ (gobj c)); simpa using this
  have gc : GBox W (w.heap.size + 1 + 1) c := by rw [hW]; have := gmade ((w.alloc (gobj a)).alloc (gobj b)) c; simpa using this
  have k0 : Kept w W := by rw [hW]; exact ((kalloc _ _).trans (kalloc _ _)).trans (kalloc _ _)
  have HW := Lib.hid hW
  clear hW
  go_enter Try.func7, Try.ntmps7
  go_wp2_with (fail)
  rw [← HW.out]
  refine (hab _).out.mono ?_
  rintro e w1 ⟨rfl, k1⟩
  have kw := k0.trans k1
  replace ga := ga.kept k1
  replace gb := gb.kept k1
  replace gc := gc.kept k1
  clear k1 k0 HW
  obtain ⟨p0, p1, p2, p3, p4, pf, pl⟩ := (id ga : GBox _ _ _)
  obtain ⟨q0, q1, q2, q3, q4, qf, ql⟩ := (id gb : GBox _ _ _)
  go_wp2_with (fail)
  refine (hba _).out.mono ?_
  rintro e w2 ⟨rfl, k2⟩
  replace kw := knew kw k2
  replace ga := gold ga k2
  replace gb := gold gb k2
  replace gc := gold gc k2
  have gp := gnew k2
  clear k2
  clear p0 p1 p2 p3 p4 pf pl q0 q1 q2 q3 q4 qf ql
  obtain ⟨q0, q1, q2, q3, q4, qf, ql⟩ := (id gp : GBox _ _ _)
  obtain ⟨p0, p1, p2, p3, p4, pf, pl⟩ := (id ga : GBox _ _ _)
  have hEE : (E != E) = false := by simp
  go_wp2_with (fail)
  refine (num_any _ _).mono ?_
  rintro e w' ⟨rfl, rfl⟩
  go_wp2_with (fail)
  refine (num_any _ _).mono ?_
  rintro e w' ⟨rfl, rfl⟩
  go_wp2_with (fail)
  refine (haa _).out.mono ?_
  rintro e w3 ⟨rfl, k3⟩
  replace kw := knew kw k3
  replace ga := gold ga k3
  replace gb := gold gb k3
  replace gc := gold gc k3
  replace gp := gold gp k3
  clear k3
  clear p0 p1 p2 p3 p4 pf pl q0 q1 q2 q3 q4 qf ql
  obtain ⟨p0, p1, p2, p3, p4, pf, pl⟩ := (id ga : GBox _ _ _)
  go_wp2_with (fail)
  refine (h2 _).out.mono ?_
  rintro e w4 ⟨rfl, k4⟩
  replace kw := knew kw k4
  replace ga := gold ga k4
  replace gb := gold gb k4
  replace gc := gold gc k4
  replace gp := gold gp k4
  have gt := gnew k4
  clear k4
  clear p0 p1 p2 p3 p4 pf pl
  obtain ⟨q0, q1, q2, q3, q4, qf, ql⟩ := (id gt : GBox _ _ _)
  obtain ⟨p0, p1, p2, p3, p4, pf, pl⟩ := (id ga : GBox _ _ _)
  have hFF : (F != F) = false := by simp
  go_wp2_with (fail)
  refine (num_any _ _).mono ?_
  rintro e w' ⟨rfl, rfl⟩
  go_wp2_with (fail)
  refine (num_any _ _).mono ?_
  rintro e w' ⟨rfl, rfl⟩
  go_wp2_with (fail)
  refine (hn _).out.mono ?_
  rintro e w5 ⟨rfl, k5⟩
  replace kw := knew kw k5
  replace ga := gold ga k5
  replace gb := gold gb k5
  replace gc := gold gc k5
  replace gp := gold gp k5
  clear k5
  clear p0 p1 p2 p3 p4 pf pl q0 q1 q2 q3 q4 qf ql
  clear gt
  obtain ⟨q0, q1, q2, q3, q4, qf, ql⟩ := (id gb : GBox _ _ _)
  obtain ⟨r0, r1, r2, r3, r4, rf, rl⟩ := (id gc : GBox _ _ _)
  go_wp2_with (fail)
  refine (num_any _ _).mono ?_
  rintro e w' ⟨rfl, rfl⟩
  go_wp2_with (fail)
  clear q0 q1 q2 q3 q4 qf ql r0 r1 r2 r3 r4 rf rl
  refine (hbc _).out.mono ?_
  rintro e w8 ⟨rfl, k8⟩
  replace kw := knew kw k8
  replace ga := gold ga k8
  replace gb := gold gb k8
  replace gc := gold gc k8
  replace gp := gold gp k8
  clear k8
  by_cases hE0 : E = 0
  · have z0 : (E != 0) = false := zgood hE0
    have hE0 := Lib.hid hE0
    by_cases hJ0 : J = 0
    · have z1 : (J != 0) = false := zgood hJ0
      have hJ0 := Lib.hid hJ0
      obtain ⟨p0, p1, p2, p3, p4, pf, pl⟩ := (id ga : GBox _ _ _)
      obtain ⟨q0, q1, q2, q3, q4, qf, ql⟩ := (id gb : GBox _ _ _)
      obtain ⟨r0, r1, r2, r3, r4, rf, rl⟩ := (id gc : GBox _ _ _)
      by_cases s0 : 0 ≤ a.st
      · have d0 : ¬ a.st < 0 := by omega
        by_cases s1 : 0 ≤ a.sh
        · have d1 : ¬ a.sh < 0 := by omega
          by_cases s2 : 0 ≤ b.st
          · have d2 : ¬ b.st < 0 := by omega
            by_cases s3 : 0 ≤ b.sh
            · have d3 : ¬ b.sh < 0 := by omega
              by_cases s4 : 0 ≤ c.st
              · have d4 : ¬ c.st < 0 := by omega
                by_cases s5 : 0 ≤ c.sh
                · have d5 : ¬ c.sh < 0 := by omega
                  obtain ⟨x0, x1, x2, x3, x4, xf, xl⟩ := (id gp : GBox _ _ _)
                  go_wp2_with (fail)
                  refine (num_any _ _).mono ?_
                  rintro e w' ⟨rfl, rfl⟩
                  go_wp2_with (fail)
                  refine (num_any _ _).mono ?_
                  rintro e w' ⟨rfl, rfl⟩
                  go_wp2_with (fail)
                  refine (hpc _).out.mono ?_
                  rintro e w9 ⟨rfl, k9⟩
                  have gq := gnew k9
                  replace kw := knew kw k9
                  replace ga := gold ga k9
                  clear k9
                  clear p0 p1 p2 p3 p4 pf pl q0 q1 q2 q3 q4 qf ql r0 r1 r2 r3 r4 rf rl x0 x1 x2 x3 x4 xf xl
                  obtain ⟨p0, p1, p2, p3, p4, pf, pl⟩ := (id ga : GBox _ _ _)
                  obtain ⟨q0, q1, q2, q3, q4, qf, ql⟩ := (id gq : GBox _ _ _)
                  go_wp2_with (fail)
                  refine (haq _).out.mono ?_
                  rintro e w10 ⟨rfl, k10⟩
                  have gx := gnew k10
                  replace kw := knew kw k10
                  clear k10
                  clear p0 p1 p2 p3 p4 pf pl q0 q1 q2 q3 q4 qf ql
                  by_cases hK0 : K = 0
                  · have z2 : (K != 0) = false := zgood hK0
                    by_cases hL0 : L = 0
                    · have z3 : (L != 0) = false := zgood hL0
                      obtain rfl : X = Y := HXY.out s0 s1 s2 s3 s4 s5 hE0.out hJ0.out hK0 hL0
                      clear hK0 hL0
                      obtain ⟨p0, p1, p2, p3, p4, pf, pl⟩ := (id gx : GBox _ _ _)
                      go_wp2_with (fail)
                      refine (num_any _ _).mono ?_
                      rintro e w' ⟨rfl, rfl⟩
                      go_wp2_with (fail)
                      refine (num_any _ _).mono ?_
                      rintro e w' ⟨rfl, rfl⟩
                      go_wp2_with (fail)
                      refine (live_any _).mono ?_
                      rintro e wl ⟨rfl, kl⟩
                      go_wp2_with (fail)
                      go_ret
                      exact ⟨rfl, (kw.trans (kalloc _ _)).trans kl⟩

                    · have z3 : (L != 0) = true := zbad hL0
                      clear hK0 hL0
                      go_wp2_with (fail)
                      refine (num_any _ _).mono ?_
                      rintro e w' ⟨rfl, rfl⟩
                      go_wp2_with (fail)
                      refine (num_any _ _).mono ?_
                      rintro e w' ⟨rfl, rfl⟩
                      go_wp2_with (fail)
                      refine (live_any _).mono ?_
                      rintro e wl ⟨rfl, kl⟩
                      go_wp2_with (fail)
                      go_ret
                      exact ⟨rfl, (kw.trans (kalloc _ _)).trans kl⟩

                  · have z2 : (K != 0) = true := zbad hK0
                    clear hK0
                    go_wp2_with (fail)
                    refine (num_any _ _).mono ?_
                    rintro e w' ⟨rfl, rfl⟩
                    go_wp2_with (fail)
                    refine (live_any _).mono ?_
                    rintro e wl ⟨rfl, kl⟩
                    go_wp2_with (fail)
                    go_ret
                    exact ⟨rfl, (kw.trans (kalloc _ _)).trans kl⟩

                · have d5 : c.sh < 0 := by omega
                  go_wp2_with (fail)
                  refine (num_any _ _).mono ?_
                  rintro e w' ⟨rfl, rfl⟩
                  go_wp2_with (fail)
                  refine (num_any _ _).mono ?_
                  rintro e w' ⟨rfl, rfl⟩
                  go_wp2_with (fail)
                  refine (live_any _).mono ?_
                  rintro e wl ⟨rfl, kl⟩
                  go_wp2_with (fail)
                  go_ret
                  exact ⟨rfl, (kw.trans (kalloc _ _)).trans kl⟩

              · have d4 : c.st < 0 := by omega
                go_wp2_with (fail)
                refine (num_any _ _).mono ?_
                rintro e w' ⟨rfl, rfl⟩
                go_wp2_with (fail)
                refine (num_any _ _).mono ?_
                rintro e w' ⟨rfl, rfl⟩
                go_wp2_with (fail)
                refine (live_any _).mono ?_
                rintro e wl ⟨rfl, kl⟩
                go_wp2_with (fail)
                go_ret
                exact ⟨rfl, (kw.trans (kalloc _ _)).trans kl⟩

            · have d3 : b.sh < 0 := by omega
              go_wp2_with (fail)
              refine (num_any _ _).mono ?_
              rintro e w' ⟨rfl, rfl⟩
              go_wp2_with (fail)
              refine (num_any _ _).mono ?_
              rintro e w' ⟨rfl, rfl⟩
              go_wp2_with (fail)
              refine (live_any _).mono ?_
              rintro e wl ⟨rfl, kl⟩
              go_wp2_with (fail)
              go_ret
              exact ⟨rfl, (kw.trans (kalloc _ _)).trans kl⟩

          · have d2 : b.st < 0 := by omega
            go_wp2_with (fail)
            refine (num_any _ _).mono ?_
            rintro e w' ⟨rfl, rfl⟩
            go_wp2_with (fail)
            refine (num_any _ _).mono ?_
            rintro e w' ⟨rfl, rfl⟩
            go_wp2_with (fail)
            refine (live_any _).mono ?_
            rintro e wl ⟨rfl, kl⟩
            go_wp2_with (fail)
            go_ret
            exact ⟨rfl, (kw.trans (kalloc _ _)).trans kl⟩

        · have d1 : a.sh < 0 := by omega
          go_wp2_with (fail)
          refine (num_any _ _).mono ?_
          rintro e w' ⟨rfl, rfl⟩
          go_wp2_with (fail)
          refine (num_any _ _).mono ?_
          rintro e w' ⟨rfl, rfl⟩
          go_wp2_with (fail)
          refine (live_any _).mono ?_
          rintro e wl ⟨rfl, kl⟩
          go_wp2_with (fail)
          go_ret
          exact ⟨rfl, (kw.trans (kalloc _ _)).trans kl⟩

      · have d0 : a.st < 0 := by omega
        go_wp2_with (fail)
        refine (num_any _ _).mono ?_
        rintro e w' ⟨rfl, rfl⟩
        go_wp2_with (fail)
        refine (num_any _ _).mono ?_
        rintro e w' ⟨rfl, rfl⟩
        go_wp2_with (fail)
        refine (live_any _).mono ?_
        rintro e wl ⟨rfl, kl⟩
        go_wp2_with (fail)
        go_ret
        exact ⟨rfl, (kw.trans (kalloc _ _)).trans kl⟩

    · have z1 : (J != 0) = true := zbad hJ0
      clear hJ0
      go_wp2_with (fail)
      refine (num_any _ _).mono ?_
      rintro e w' ⟨rfl, rfl⟩
      go_wp2_with (fail)
      refine (num_any _ _).mono ?_
      rintro e w' ⟨rfl, rfl⟩
      go_wp2_with (fail)
      refine (live_any _).mono ?_
      rintro e wl ⟨rfl, kl⟩
      go_wp2_with (fail)
      go_ret
      exact ⟨rfl, (kw.trans (kalloc _ _)).trans kl⟩

  · have z0 : (E != 0) = true := zbad hE0
    clear hE0
    go_wp2_with (fail)
    refine (num_any _ _).mono ?_
    rintro e w' ⟨rfl, rfl⟩
    go_wp2_with (fail)
    refine (live_any _).mono ?_
    rintro e wl ⟨rfl, kl⟩
    go_wp2_with (fail)
    go_ret
    exact ⟨rfl, (kw.trans (kalloc _ _)).trans kl⟩

set_option maxRecDepth 100000 in
set_option maxHeartbeats 8000000 in
theorem laws_C (a b c : Gl) (n : Int) (w : World) (hI0 : timesGE a n = 0) (hn0 : n = 0) :
    Calls Try.prog 7 #[.agg #[.int .i64 a.nat, .int .i64 a.st, .int .i64 a.sh, .int .i64 a.so, .int .i64 a.ho], .agg #[.int .i64 b.nat, .int .i64 b.st, .int .i64 b.sh, .int .i64 b.so, .int .i64 b.ho], .agg #[.int .i64 c.nat, .int .i64 c.st, .int .i64 c.sh, .int .i64 c.so, .int .i64 c.ho], .int .i64 n] w fun e w' => e = .returned (.bool true) ∧ Kept w w' := by
  have hab := fun w => Lib.hid (plus_any a b w)
  have hba := fun w => Lib.hid (plus_any b a w)
  rw [plusE_comm b a, plusG_comm b a] at hba
  have haa := fun w => Lib.hid (plus_any a a w)
  have h2 := fun w => Lib.hid (tg_any a 2 w)
  rw [(twice a).1, (twice a).2] at haa
  have hn := fun w => Lib.hid (tg_any a n w)
  have hbc := fun w => Lib.hid (plus_any b c w)
  have hpc := fun w => Lib.hid (plus_any (plusG a b) c w)
  have haq := fun w => Lib.hid (plus_any a (plusG b c) w)
  have HXY := Lib.hid (fun s0 s1 s2 s3 s4 s5 h0 h1 h2 h3 => assoc a b c ⟨s0, s1⟩ ⟨s2, s3⟩ ⟨s4, s5⟩ h0 h1 h2 h3)
  generalize plusG (plusG a b) c = X at *
  generalize plusE (plusG a b) c = K at *
  generalize plusG a (plusG b c) = Y at *
  generalize plusE a (plusG b c) = L at *
  have y0 : (timesGE a n == 0) = true := zeq hI0
  have y1 : (n != 0) = false := zgood hn0
  clear hI0 hn0
  generalize hP : plusG a b = P at *
  generalize hE : plusE a b = E at *
  generalize timesG a 2 = T at *
  generalize timesGE a 2 = F at *
  generalize hQ : plusG b c = Q at *
  generalize hJ : plusE b c = J at *
  have HP := Lib.hid hP
  have HE := Lib.hid hE
  have HQ := Lib.hid hQ
  have HJ := Lib.hid hJ
  clear hP hE hQ hJ
  generalize timesG a n = M at *
  generalize timesGE a n = I at *
  obtain ⟨W, hW⟩ : ∃ W, W = ((w.alloc (gobj a)).alloc (gobj b)).alloc (gobj c) := ⟨_, rfl⟩
  have ga : GBox W w.heap.size a := by rw [hW]; exact ((gmade w a).kept (kalloc _ _)).kept (kalloc _ _)
  have gb : GBox W (w.heap.size + 1) b := by rw [hW]; have := (gmade (w.alloc (gobj a)) b).kept (kalloc _ (gobj c)); simpa using this
  have gc : GBox W (w.heap.size + 1 + 1) c := by rw [hW]; have := gmade ((w.alloc (gobj a)).alloc (gobj b)) c; simpa using this
  have k0 : Kept w W := by rw [hW]; exact ((kalloc _ _).trans (kalloc _ _)).trans (kalloc _ _)
  have HW := Lib.hid hW
  clear hW
  go_enter Try.func7, Try.ntmps7
  go_wp2_with (fail)
  rw [← HW.out]
  refine (hab _).out.mono ?_
  rintro e w1 ⟨rfl, k1⟩
  have kw := k0.trans k1
  replace ga := ga.kept k1
  replace gb := gb.kept k1
  replace gc := gc.kept k1
  clear k1 k0 HW
  obtain ⟨p0, p1, p2, p3, p4, pf, pl⟩ := (id ga : GBox _ _ _)
  obtain ⟨q0, q1, q2, q3, q4, qf, ql⟩ := (id gb : GBox _ _ _)
  go_wp2_with (fail)
  refine (hba _).out.mono ?_
  rintro e w2 ⟨rfl, k2⟩
  replace kw := knew kw k2
  replace ga := gold ga k2
  replace gb := gold gb k2
  replace gc := gold gc k2
  have gp := gnew k2
  clear k2
  clear p0 p1 p2 p3 p4 pf pl q0 q1 q2 q3 q4 qf ql
  obtain ⟨q0, q1, q2, q3, q4, qf, ql⟩ := (id gp : GBox _ _ _)
  obtain ⟨p0, p1, p2, p3, p4, pf, pl⟩ := (id ga : GBox _ _ _)
  have hEE : (E != E) = false := by simp
  go_wp2_with (fail)
  refine (num_any _ _).mono ?_
  rintro e w' ⟨rfl, rfl⟩
  go_wp2_with (fail)
  refine (num_any _ _).mono ?_
  rintro e w' ⟨rfl, rfl⟩
  go_wp2_with (fail)
  refine (haa _).out.mono ?_
  rintro e w3 ⟨rfl, k3⟩
  replace kw := knew kw k3
  replace ga := gold ga k3
  replace gb := gold gb k3
  replace gc := gold gc k3
  replace gp := gold gp k3
  clear k3
  clear p0 p1 p2 p3 p4 pf pl q0 q1 q2 q3 q4 qf ql
  obtain ⟨p0, p1, p2, p3, p4, pf, pl⟩ := (id ga : GBox _ _ _)
  go_wp2_with (fail)
  refine (h2 _).out.mono ?_
  rintro e w4 ⟨rfl, k4⟩
  replace kw := knew kw k4
  replace ga := gold ga k4
  replace gb := gold gb k4
  replace gc := gold gc k4
  replace gp := gold gp k4
  have gt := gnew k4
  clear k4
  clear p0 p1 p2 p3 p4 pf pl
  obtain ⟨q0, q1, q2, q3, q4, qf, ql⟩ := (id gt : GBox _ _ _)
  obtain ⟨p0, p1, p2, p3, p4, pf, pl⟩ := (id ga : GBox _ _ _)
  have hFF : (F != F) = false := by simp
  go_wp2_with (fail)
  refine (num_any _ _).mono ?_
  rintro e w' ⟨rfl, rfl⟩
  go_wp2_with (fail)
  refine (num_any _ _).mono ?_
  rintro e w' ⟨rfl, rfl⟩
  go_wp2_with (fail)
  refine (hn _).out.mono ?_
  rintro e w5 ⟨rfl, k5⟩
  replace kw := knew kw k5
  replace ga := gold ga k5
  replace gb := gold gb k5
  replace gc := gold gc k5
  replace gp := gold gp k5
  clear k5
  clear p0 p1 p2 p3 p4 pf pl q0 q1 q2 q3 q4 qf ql
  clear gt
  obtain ⟨q0, q1, q2, q3, q4, qf, ql⟩ := (id gb : GBox _ _ _)
  obtain ⟨r0, r1, r2, r3, r4, rf, rl⟩ := (id gc : GBox _ _ _)
  go_wp2_with (fail)
  refine (num_any _ _).mono ?_
  rintro e w' ⟨rfl, rfl⟩
  go_wp2_with (fail)
  clear q0 q1 q2 q3 q4 qf ql r0 r1 r2 r3 r4 rf rl
  refine (hbc _).out.mono ?_
  rintro e w8 ⟨rfl, k8⟩
  replace kw := knew kw k8
  replace ga := gold ga k8
  replace gb := gold gb k8
  replace gc := gold gc k8
  replace gp := gold gp k8
  clear k8
  by_cases hE0 : E = 0
  · have z0 : (E != 0) = false := zgood hE0
    have hE0 := Lib.hid hE0
    by_cases hJ0 : J = 0
    · have z1 : (J != 0) = false := zgood hJ0
      have hJ0 := Lib.hid hJ0
      obtain ⟨p0, p1, p2, p3, p4, pf, pl⟩ := (id ga : GBox _ _ _)
      obtain ⟨q0, q1, q2, q3, q4, qf, ql⟩ := (id gb : GBox _ _ _)
      obtain ⟨r0, r1, r2, r3, r4, rf, rl⟩ := (id gc : GBox _ _ _)
      by_cases s0 : 0 ≤ a.st
      · have d0 : ¬ a.st < 0 := by omega
        by_cases s1 : 0 ≤ a.sh
        · have d1 : ¬ a.sh < 0 := by omega
          by_cases s2 : 0 ≤ b.st
          · have d2 : ¬ b.st < 0 := by omega
            by_cases s3 : 0 ≤ b.sh
            · have d3 : ¬ b.sh < 0 := by omega
              by_cases s4 : 0 ≤ c.st
              · have d4 : ¬ c.st < 0 := by omega
                by_cases s5 : 0 ≤ c.sh
                · have d5 : ¬ c.sh < 0 := by omega
                  obtain ⟨x0, x1, x2, x3, x4, xf, xl⟩ := (id gp : GBox _ _ _)
                  go_wp2_with (fail)
                  refine (num_any _ _).mono ?_
                  rintro e w' ⟨rfl, rfl⟩
                  go_wp2_with (fail)
                  refine (num_any _ _).mono ?_
                  rintro e w' ⟨rfl, rfl⟩
                  go_wp2_with (fail)
                  refine (hpc _).out.mono ?_
                  rintro e w9 ⟨rfl, k9⟩
                  have gq := gnew k9
                  replace kw := knew kw k9
                  replace ga := gold ga k9
                  clear k9
                  clear p0 p1 p2 p3 p4 pf pl q0 q1 q2 q3 q4 qf ql r0 r1 r2 r3 r4 rf rl x0 x1 x2 x3 x4 xf xl
                  obtain ⟨p0, p1, p2, p3, p4, pf, pl⟩ := (id ga : GBox _ _ _)
                  obtain ⟨q0, q1, q2, q3, q4, qf, ql⟩ := (id gq : GBox _ _ _)
                  go_wp2_with (fail)
                  refine (haq _).out.mono ?_
                  rintro e w10 ⟨rfl, k10⟩
                  have gx := gnew k10
                  replace kw := knew kw k10
                  clear k10
                  clear p0 p1 p2 p3 p4 pf pl q0 q1 q2 q3 q4 qf ql
                  by_cases hK0 : K = 0
                  · have z2 : (K != 0) = false := zgood hK0
                    by_cases hL0 : L = 0
                    · have z3 : (L != 0) = false := zgood hL0
                      obtain rfl : X = Y := HXY.out s0 s1 s2 s3 s4 s5 hE0.out hJ0.out hK0 hL0
                      clear hK0 hL0
                      obtain ⟨p0, p1, p2, p3, p4, pf, pl⟩ := (id gx : GBox _ _ _)
                      go_wp2_with (fail)
                      refine (num_any _ _).mono ?_
                      rintro e w' ⟨rfl, rfl⟩
                      go_wp2_with (fail)
                      refine (num_any _ _).mono ?_
                      rintro e w' ⟨rfl, rfl⟩
                      go_wp2_with (fail)
                      refine (live_any _).mono ?_
                      rintro e wl ⟨rfl, kl⟩
                      go_wp2_with (fail)
                      go_ret
                      exact ⟨rfl, (kw.trans (kalloc _ _)).trans kl⟩

                    · have z3 : (L != 0) = true := zbad hL0
                      clear hK0 hL0
                      go_wp2_with (fail)
                      refine (num_any _ _).mono ?_
                      rintro e w' ⟨rfl, rfl⟩
                      go_wp2_with (fail)
                      refine (num_any _ _).mono ?_
                      rintro e w' ⟨rfl, rfl⟩
                      go_wp2_with (fail)
                      refine (live_any _).mono ?_
                      rintro e wl ⟨rfl, kl⟩
                      go_wp2_with (fail)
                      go_ret
                      exact ⟨rfl, (kw.trans (kalloc _ _)).trans kl⟩

                  · have z2 : (K != 0) = true := zbad hK0
                    clear hK0
                    go_wp2_with (fail)
                    refine (num_any _ _).mono ?_
                    rintro e w' ⟨rfl, rfl⟩
                    go_wp2_with (fail)
                    refine (live_any _).mono ?_
                    rintro e wl ⟨rfl, kl⟩
                    go_wp2_with (fail)
                    go_ret
                    exact ⟨rfl, (kw.trans (kalloc _ _)).trans kl⟩

                · have d5 : c.sh < 0 := by omega
                  go_wp2_with (fail)
                  refine (num_any _ _).mono ?_
                  rintro e w' ⟨rfl, rfl⟩
                  go_wp2_with (fail)
                  refine (num_any _ _).mono ?_
                  rintro e w' ⟨rfl, rfl⟩
                  go_wp2_with (fail)
                  refine (live_any _).mono ?_
                  rintro e wl ⟨rfl, kl⟩
                  go_wp2_with (fail)
                  go_ret
                  exact ⟨rfl, (kw.trans (kalloc _ _)).trans kl⟩

              · have d4 : c.st < 0 := by omega
                go_wp2_with (fail)
                refine (num_any _ _).mono ?_
                rintro e w' ⟨rfl, rfl⟩
                go_wp2_with (fail)
                refine (num_any _ _).mono ?_
                rintro e w' ⟨rfl, rfl⟩
                go_wp2_with (fail)
                refine (live_any _).mono ?_
                rintro e wl ⟨rfl, kl⟩
                go_wp2_with (fail)
                go_ret
                exact ⟨rfl, (kw.trans (kalloc _ _)).trans kl⟩

            · have d3 : b.sh < 0 := by omega
              go_wp2_with (fail)
              refine (num_any _ _).mono ?_
              rintro e w' ⟨rfl, rfl⟩
              go_wp2_with (fail)
              refine (num_any _ _).mono ?_
              rintro e w' ⟨rfl, rfl⟩
              go_wp2_with (fail)
              refine (live_any _).mono ?_
              rintro e wl ⟨rfl, kl⟩
              go_wp2_with (fail)
              go_ret
              exact ⟨rfl, (kw.trans (kalloc _ _)).trans kl⟩

          · have d2 : b.st < 0 := by omega
            go_wp2_with (fail)
            refine (num_any _ _).mono ?_
            rintro e w' ⟨rfl, rfl⟩
            go_wp2_with (fail)
            refine (num_any _ _).mono ?_
            rintro e w' ⟨rfl, rfl⟩
            go_wp2_with (fail)
            refine (live_any _).mono ?_
            rintro e wl ⟨rfl, kl⟩
            go_wp2_with (fail)
            go_ret
            exact ⟨rfl, (kw.trans (kalloc _ _)).trans kl⟩

        · have d1 : a.sh < 0 := by omega
          go_wp2_with (fail)
          refine (num_any _ _).mono ?_
          rintro e w' ⟨rfl, rfl⟩
          go_wp2_with (fail)
          refine (num_any _ _).mono ?_
          rintro e w' ⟨rfl, rfl⟩
          go_wp2_with (fail)
          refine (live_any _).mono ?_
          rintro e wl ⟨rfl, kl⟩
          go_wp2_with (fail)
          go_ret
          exact ⟨rfl, (kw.trans (kalloc _ _)).trans kl⟩

      · have d0 : a.st < 0 := by omega
        go_wp2_with (fail)
        refine (num_any _ _).mono ?_
        rintro e w' ⟨rfl, rfl⟩
        go_wp2_with (fail)
        refine (num_any _ _).mono ?_
        rintro e w' ⟨rfl, rfl⟩
        go_wp2_with (fail)
        refine (live_any _).mono ?_
        rintro e wl ⟨rfl, kl⟩
        go_wp2_with (fail)
        go_ret
        exact ⟨rfl, (kw.trans (kalloc _ _)).trans kl⟩

    · have z1 : (J != 0) = true := zbad hJ0
      clear hJ0
      go_wp2_with (fail)
      refine (num_any _ _).mono ?_
      rintro e w' ⟨rfl, rfl⟩
      go_wp2_with (fail)
      refine (num_any _ _).mono ?_
      rintro e w' ⟨rfl, rfl⟩
      go_wp2_with (fail)
      refine (live_any _).mono ?_
      rintro e wl ⟨rfl, kl⟩
      go_wp2_with (fail)
      go_ret
      exact ⟨rfl, (kw.trans (kalloc _ _)).trans kl⟩

  · have z0 : (E != 0) = true := zbad hE0
    clear hE0
    go_wp2_with (fail)
    refine (num_any _ _).mono ?_
    rintro e w' ⟨rfl, rfl⟩
    go_wp2_with (fail)
    refine (live_any _).mono ?_
    rintro e wl ⟨rfl, kl⟩
    go_wp2_with (fail)
    go_ret
    exact ⟨rfl, (kw.trans (kalloc _ _)).trans kl⟩

theorem glueLaws_walk (an ast ash aso aho bn bst bsh bso bho cn cst csh cso cho n : Int) (w : World) :
    Calls Try.prog 7 #[.agg #[.int .i64 an, .int .i64 ast, .int .i64 ash, .int .i64 aso, .int .i64 aho], .agg #[.int .i64 bn, .int .i64 bst, .int .i64 bsh, .int .i64 bso, .int .i64 bho], .agg #[.int .i64 cn, .int .i64 cst, .int .i64 csh, .int .i64 cso, .int .i64 cho], .int .i64 n] w fun e w' => e = .returned (.bool true) ∧ Kept w w' := by
  by_cases hI : timesGE ⟨an, ast, ash, aso, aho⟩ n = 0
  · by_cases hn : n = 0
    · exact laws_C ⟨an, ast, ash, aso, aho⟩ ⟨bn, bst, bsh, bso, bho⟩ ⟨cn, cst, csh, cso, cho⟩ n w hI hn
    · exact laws_A ⟨an, ast, ash, aso, aho⟩ ⟨bn, bst, bsh, bso, bho⟩ ⟨cn, cst, csh, cso, cho⟩ n w hI hn
  · exact laws_B ⟨an, ast, ash, aso, aho⟩ ⟨bn, bst, bsh, bso, bho⟩ ⟨cn, cst, csh, cso, cho⟩ n w hI
end Go.Proofs.Ytdlbpepkgoandaa
