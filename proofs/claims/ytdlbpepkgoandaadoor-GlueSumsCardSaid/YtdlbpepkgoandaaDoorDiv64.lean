/- math/bits.Div64: two words divided by one. -/
import Derived.Test.YtdlbpepkgoandaaDoorDiv
import Derived.Test.YtdlbpepkgoandaaDoorDivFacts
import Derived.Deep.DeepCutAuto
import Derived.Deep.CutBlock
import Derived.Laws.Shifts
namespace Go.Proofs.YtdlbpepkgoandaaDoor
open Go.RowKit

/-- a digit behind its loop -/
def DigitIs (w : World) (d : Nat) (q r : Value) (w' : World) : Prop := q = .int .u64 d ∧ (∃ x : Nat, r = .int .u64 x) ∧ w = w'
/-- a digit at its loop's head -/
def DigitAt (Y a U v : Nat) (g : Nat) (q r : Value) : Prop := ∃ x y : Nat, q = .int .u64 x ∧ r = .int .u64 y ∧ DivM.Inv Y a U v x y ∧ y < 4294967296 ∧ x ≤ 4294967297 ∧ x = g

set_option maxRecDepth 100000 in
set_option maxHeartbeats 4000000 in
theorem div64_any (hi lo y : Nat) (hhi : 0 < hi) (hlo : lo < 18446744073709551616) (hy0 : hi < y) (hy : y < 18446744073709551616) (w : World) :
    Calls Tryd.prog 52 #[.int .u64 hi, .int .u64 lo, .int .u64 y] w fun e w' => e = .returned (.tuple #[.int .u64 (((hi * 18446744073709551616 + lo) / y : Nat) : Int), .int .u64 (((hi * 18446744073709551616 + lo) % y : Nat) : Int)]) ∧ Kept w w' := by
  have h1 : ¬ (y : Int) = 0 := by omega
  have h2 : ¬ (y : Int) ≤ hi := by omega
  have h3 : ¬ (hi : Int) = 0 := by omega
  obtain ⟨s, hs, hs63, y1, y2⟩ := DivM.len_facts (y := y) (by omega) hy
  obtain ⟨Y, a, b, U, V, v1, v0, eY, hY, Y64, ea, ha, eb, hb, hab, ha2, eU, hU, eV, ev1, hv1, ev0, hv0, hN⟩ := DivM.cut (hi := hi) (lo := lo) hlo hy0 hs63 y1 y2
  have hl := fun w => Lib.hid (Tryd.bits_LeadingZeros64 (y : Int) w (by omega) (by omega))
  rw [Int.toNat_natCast, hs] at hl
  clear hs
  have HN := Lib.hid hN; clear hN
  have HY := Lib.hid hY; clear hY
  have hY0 : 0 < Y := by omega
  obtain ⟨q0, r0, eq0, er0, p0, p1, hinv, hr0, hq0⟩ := DivM.start hab ha ha2 hb hU hv1
  have Hinv := Lib.hid hinv; clear hinv
  have Hab := Lib.hid hab; clear hab
  go_enter Tryd.func52, Tryd.ntmps52
  go_wp2_with (fail)
  refine (hl _).out.mono ?_
  rintro e w' ⟨rfl, rfl⟩
  have emin : min s 64 = s := by omega
  have ha0 : ¬ (a:Int) = 0 := by omega
  go_upto_block 0 with fail
  go_cut [15, 16] (fun q r wx => DigitIs w' ((U * 4294967296 + v1) / Y) q r wx)
  case first =>
    go_wp2_with fail
    go_loopg [15, 16] q0 (fun g q r wx => w' = wx ∧ DigitAt Y a U v1 g q r)
    case atStart => exact ⟨rfl, q0, r0, rfl, rfl, Hinv.out, hr0, hq0, rfl⟩
    case round =>
      obtain ⟨rfl, x, z, rfl, rfl, hiv, hz, hx, rfl⟩ := hrel
      obtain ⟨t0, t1⟩ := DivM.test_facts (q := x) hb hx
      have t2 : (0:Int) ≤ 4294967296 * (z:Int) := by omega
      by_cases hc : 4294967296 ≤ x ∨ 4294967296 * z + v1 < x * b
      · obtain ⟨hx1, hst⟩ := DivM.inv_step Hab.out hU hv1 hiv hc
        have hbr : 4294967296 ≤ z + a → x - 1 = (U * 4294967296 + v1) / Y := fun hg => DivM.inv_break Hab.out hY0 hb hst (by omega) hg
        have Hst := Lib.hid hst; clear hst hiv
        have Hbr := Lib.hid hbr; clear hbr
        have hsub : ((x - 1 : Nat) : Int) = (x : Int) - 1 := by omega
        have Hsub := Lib.hid hsub; clear hsub
        have hc' : ¬ (4294967296 : Int) ≤ (x : Int) → 4294967296 * (z:Int) + (v1:Int) < (x:Int) * (b:Int) := by
          intro hn
          rcases hc with hc | hc
          · omega
          · rw [← Int.natCast_mul]; omega
        clear hc
        by_cases hg : 4294967296 ≤ z + a
        · have hg' : (4294967296 : Int) ≤ (z : Int) + a := by omega
          by_cases hx2 : (4294967296 : Int) ≤ (x : Int)
          all_goals
            go_wp2
            go_meet
            exact ⟨by rw [← Hbr.out hg, Hsub.out], ⟨z + a, by rw [Int.natCast_add]⟩, rfl⟩
        · have hg' : ¬ (4294967296 : Int) ≤ (z : Int) + a := by omega
          by_cases hx2 : (4294967296 : Int) ≤ (x : Int)
          all_goals
            go_wp2
            go_roundg (x - 1)
            case rel => exact ⟨rfl, x - 1, z + a, by rw [Hsub.out], by rw [Int.natCast_add], Hst.out, by omega, by omega, rfl⟩
            case measure => omega
      · have hc1 : ¬ (4294967296 : Int) ≤ (x : Int) := by omega
        have hc2 : ¬ 4294967296 * (z:Int) + (v1:Int) < (x:Int) * (b:Int) := by
          rw [← Int.natCast_mul]; omega
        have hend := DivM.inv_end Hab.out hY0 hiv (by omega)
        have Hend := Lib.hid hend; clear hend hiv
        clear hc
        go_wp2
        go_meet
        exact ⟨by rw [← Hend.out], ⟨z, rfl⟩, rfl⟩
  case rest =>
    obtain ⟨rfl, ⟨xr, rfl⟩, rfl⟩ := hcut
    obtain ⟨Q1, hQ1⟩ : ∃ Q1 : Nat, (U * 4294967296 + v1) / Y = Q1 := ⟨_, rfl⟩
    obtain ⟨R1, hR1⟩ : ∃ R1 : Nat, (U * 4294967296 + v1) % Y = R1 := ⟨_, rfl⟩
    have eR := DivM.rest_wrap (v := v1) hY0 Y64 hQ1.symm
    rw [hR1] at eR
    have hU2 : R1 < Y := by rw [← hR1]; exact Nat.mod_lt _ hY0
    have hQl : Q1 < 4294967296 := by rw [← hQ1]; exact DivM.lt32 hU hv1
    rw [hQ1]
    have HQ1 := Lib.hid hQ1; clear hQ1
    have HR1 := Lib.hid hR1; clear hR1
    obtain ⟨q5, r5, eq5, er5, p5, p6, hinv5, hr5, hq5⟩ := DivM.start Hab.out ha ha2 hb hU2 hv0
    have Hinv5 := Lib.hid hinv5; clear hinv5
    go_upto_block 2 with fail
    go_cut [18, 16] (fun q r wx => DigitIs w' ((R1 * 4294967296 + v0) / Y) q r wx)
    case first =>
      go_wp2_with fail
      go_loopg [18, 16] q5 (fun g q r wx => w' = wx ∧ DigitAt Y a R1 v0 g q r)
      case atStart => exact ⟨rfl, q5, r5, rfl, rfl, Hinv5.out, hr5, hq5, rfl⟩
      case round =>
        obtain ⟨rfl, x, z, rfl, rfl, hiv, hz, hx, rfl⟩ := hrel
        obtain ⟨t0, t1⟩ := DivM.test_facts (q := x) hb hx
        have t2 : (0:Int) ≤ 4294967296 * (z:Int) := by omega
        by_cases hc : 4294967296 ≤ x ∨ 4294967296 * z + v0 < x * b
        · obtain ⟨hx1, hst⟩ := DivM.inv_step Hab.out hU2 hv0 hiv hc
          have hbr : 4294967296 ≤ z + a → x - 1 = (R1 * 4294967296 + v0) / Y := fun hg => DivM.inv_break Hab.out hY0 hb hst (by omega) hg
          have Hst := Lib.hid hst; clear hst hiv
          have Hbr := Lib.hid hbr; clear hbr
          have hsub : ((x - 1 : Nat) : Int) = (x : Int) - 1 := by omega
          have Hsub := Lib.hid hsub; clear hsub
          have hc' : ¬ (4294967296 : Int) ≤ (x : Int) → 4294967296 * (z:Int) + (v0:Int) < (x:Int) * (b:Int) := by
            intro hn
            rcases hc with hc | hc
            · omega
            · rw [← Int.natCast_mul]; omega
          clear hc
          by_cases hg : 4294967296 ≤ z + a
          · have hg' : (4294967296 : Int) ≤ (z : Int) + a := by omega
            by_cases hx2 : (4294967296 : Int) ≤ (x : Int)
            all_goals
              go_wp2
              go_meet
              exact ⟨by rw [← Hbr.out hg, Hsub.out], ⟨z + a, by rw [Int.natCast_add]⟩, rfl⟩
          · have hg' : ¬ (4294967296 : Int) ≤ (z : Int) + a := by omega
            by_cases hx2 : (4294967296 : Int) ≤ (x : Int)
            all_goals
              go_wp2
              go_roundg (x - 1)
              case rel => exact ⟨rfl, x - 1, z + a, by rw [Hsub.out], by rw [Int.natCast_add], Hst.out, by omega, by omega, rfl⟩
              case measure => omega
        · have hc1 : ¬ (4294967296 : Int) ≤ (x : Int) := by omega
          have hc2 : ¬ 4294967296 * (z:Int) + (v0:Int) < (x:Int) * (b:Int) := by
            rw [← Int.natCast_mul]; omega
          have hend := DivM.inv_end Hab.out hY0 hiv (by omega)
          have Hend := Lib.hid hend; clear hend hiv
          clear hc
          go_wp2
          go_meet
          exact ⟨by rw [← Hend.out], ⟨z, rfl⟩, rfl⟩

    case rest =>
      obtain ⟨rfl, ⟨xr, rfl⟩, rfl⟩ := hcut
      obtain ⟨Q0, hQ0⟩ : ∃ Q0 : Nat, (R1 * 4294967296 + v0) / Y = Q0 := ⟨_, rfl⟩
      obtain ⟨R0, hR0⟩ : ∃ R0 : Nat, (R1 * 4294967296 + v0) % Y = R0 := ⟨_, rfl⟩
      have eR0 := DivM.rest_wrap (v := v0) hY0 Y64 hQ0.symm
      rw [hR0] at eR0
      have hQ0l : Q0 < 4294967296 := by rw [← hQ0]; exact DivM.lt32 hU2 hv0
      rw [hQ0]
      have hfin := DivM.whole (q1 := Q1) (q0 := Q0) (r1 := R1) (r0 := R0) (y := y) (s := s) (N := hi * 18446744073709551616 + lo) HN.out.symm rfl (by omega) (by rw [← HY.out]; exact HQ1.out.symm) (by rw [← HY.out]; exact HR1.out.symm) (by rw [← HY.out]; exact hQ0.symm) (by rw [← HY.out]; exact hR0.symm)
      have Hfin := Lib.hid hfin; clear hfin
      clear hQ0 hR0
      go_wp2
      go_ret2
      refine ⟨ret_ii ?_ ?_, Kept.refl _⟩
      · rw [← Hfin.out.1]
        omega
      · rw [← Hfin.out.2, Int.natCast_ediv, Int.natCast_pow]
        rfl

/-- whatever the high word -/
theorem div64_all (hi lo y : Nat) (hlo : lo < 18446744073709551616) (hy0 : hi < y) (hy : y < 18446744073709551616) (w : World) :
    Calls Tryd.prog 52 #[.int .u64 hi, .int .u64 lo, .int .u64 y] w fun e w' => e = .returned (.tuple #[.int .u64 (((hi * 18446744073709551616 + lo) / y : Nat) : Int), .int .u64 (((hi * 18446744073709551616 + lo) % y : Nat) : Int)]) ∧ Kept w w' := by
  rcases Nat.eq_zero_or_pos hi with h | h
  · subst h
    rw [Nat.zero_mul, Nat.zero_add]
    exact div64_low lo y hlo (by omega) hy w
  · exact div64_any hi lo y h hlo hy0 hy w
end Go.Proofs.YtdlbpepkgoandaaDoor
