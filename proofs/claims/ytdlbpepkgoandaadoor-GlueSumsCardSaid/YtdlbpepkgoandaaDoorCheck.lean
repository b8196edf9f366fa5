/- glue.Check. -/
import Derived.Test.YtdlbpepkgoandaaDoorGlue
namespace Go.Proofs.YtdlbpepkgoandaaDoor
open Go.RowKit

def Gl.err (g : Gl) : Int := if g.okB then 0 else 30

theorem bsize {W w1 : World} (hb : Below W.heap.size W w1) : W.heap.size ≤ w1.heap.size := hb.size

set_option maxHeartbeats 1000000 in
theorem check_any (n a b c d : Int) (w : World) :
    Calls Tryd.prog 18 #[.agg #[.int .i64 n, .int .i64 a, .int .i64 b, .int .i64 c, .int .i64 d]] w fun e w' => e = .returned (.int .i64 (Gl.err ⟨n, a, b, c, d⟩)) ∧ Kept w w' := by
  cases hn : dimB n
  · have e1 : Gl.err ⟨n, a, b, c, d⟩ = 30 := by simp [Gl.err, Gl.okB, hn]
    rw [e1]
    have Hn := fun w => Lib.hid (dimension_no n hn w)
    clear e1 hn
    go_enter Tryd.func18, Tryd.ntmps18
    go_wp2_with (fail)
    refine (Hn _).out.mono ?_
    rintro e w' ⟨rfl, rfl⟩
    go_wp2_with (fail)
    go_ret
    exact ⟨rfl, (Kept.refl _).alloc (Nat.le_refl _) _⟩
  · have Hn := fun w => Lib.hid (dimension_yes n hn w)
    have Hr1 := fun w => Lib.hid (right_any a c w)
    have Hr2 := fun w => Lib.hid (right_any b d w)
    cases hr1 : rightB a c
    · have e1 : Gl.err ⟨n, a, b, c, d⟩ = 30 := by simp [Gl.err, Gl.okB, hr1]
      rw [e1]
      rw [hr1] at Hr1
      clear e1 hn hr1
      go_enter Tryd.func18, Tryd.ntmps18
      go_wp2_with (fail)
      refine (Hn _).out.mono ?_
      rintro e w' ⟨rfl, rfl⟩
      go_wp2_with (fail)
      refine (stretch_any _ _ _ _ _ _).mono ?_
      rintro e w1 ⟨rfl, k1⟩
      go_wp2_with (fail)
      refine (Hr1 _).out.mono ?_
      rintro e w2 ⟨rfl, k2⟩
      go_wp2_with (fail)
      go_ret
      exact ⟨rfl, Kept.trans ((Kept.refl w).alloc (Nat.le_refl _) _) (Kept.trans k1 k2)⟩
    · cases hr2 : rightB b d
      · have e1 : Gl.err ⟨n, a, b, c, d⟩ = 30 := by simp [Gl.err, Gl.okB, hr2]
        rw [e1]
        rw [hr1] at Hr1
        rw [hr2] at Hr2
        clear e1 hn hr1 hr2
        go_enter Tryd.func18, Tryd.ntmps18
        go_wp2_with (fail)
        refine (Hn _).out.mono ?_
        rintro e w' ⟨rfl, rfl⟩
        go_wp2_with (fail)
        refine (stretch_any _ _ _ _ _ _).mono ?_
        rintro e w1 ⟨rfl, k1⟩
        go_wp2_with (fail)
        refine (Hr1 _).out.mono ?_
        rintro e w2 ⟨rfl, k2⟩
        have k3 : Kept (w.alloc _) w2 := k1.trans k2
        clear k1 k2
        obtain ⟨bc, bf⟩ := bcell k3
        go_wp2_with (fail)
        refine (shrink_any _ _ _ _ _ _).mono ?_
        rintro e w4 ⟨rfl, k4⟩
        go_wp2_with (fail)
        refine (Hr2 _).out.mono ?_
        rintro e w5 ⟨rfl, k5⟩
        go_wp2_with (fail)
        go_ret
        exact ⟨rfl, Kept.trans ((Kept.refl w).alloc (Nat.le_refl _) _) (Kept.trans k3 (Kept.trans k4 k5))⟩
      · have e1 : Gl.err ⟨n, a, b, c, d⟩ = 0 := by simp [Gl.err, Gl.okB, hn, hr1, hr2]
        rw [e1]
        rw [hr1] at Hr1
        rw [hr2] at Hr2
        clear e1 hn hr1 hr2
        go_enter Tryd.func18, Tryd.ntmps18
        go_wp2_with (fail)
        refine (Hn _).out.mono ?_
        rintro e w' ⟨rfl, rfl⟩
        go_wp2_with (fail)
        refine (stretch_any _ _ _ _ _ _).mono ?_
        rintro e w1 ⟨rfl, k1⟩
        go_wp2_with (fail)
        refine (Hr1 _).out.mono ?_
        rintro e w2 ⟨rfl, k2⟩
        have k3 : Kept (w.alloc _) w2 := k1.trans k2
        clear k1 k2
        obtain ⟨bc, bf⟩ := bcell k3
        go_wp2_with (fail)
        refine (shrink_any _ _ _ _ _ _).mono ?_
        rintro e w4 ⟨rfl, k4⟩
        go_wp2_with (fail)
        refine (Hr2 _).out.mono ?_
        rintro e w5 ⟨rfl, k5⟩
        go_wp2_with (fail)
        go_ret
        exact ⟨rfl, Kept.trans ((Kept.refl w).alloc (Nat.le_refl _) _) (Kept.trans k3 (Kept.trans k4 k5))⟩
end Go.Proofs.YtdlbpepkgoandaaDoor
