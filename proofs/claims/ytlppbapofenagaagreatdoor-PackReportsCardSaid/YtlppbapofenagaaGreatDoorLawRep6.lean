/- The walk of galleylaw06.PackReports. -/
import Derived.Test.YtlppbapofenagaaGreatDoorRefRep
import Derived.Test.YtlppbapofenagaaGreatDoorKnow6
namespace Go.Proofs.YtlppbapofenagaaGreatDoor
open Go.RowKit

theorem wf_i64 {n : Int} (h : (Lit.int .i64 n).wf = true) : -9223372036854775808 ≤ n ∧ n ≤ 9223372036854775807 := by
  simp only [Lit.wf, Bool.and_eq_true, decide_eq_true_eq] at h
  exact h
set_option maxHeartbeats 2000000 in
set_option linter.unusedVariables false in
theorem packReports_walk (d : Bool) (s : Int) (w0 : (Lit.int .i64 s).wf = true) (b : Int) (w1 : (Lit.int .i64 b).wf = true) (o : Int) (w2 : (Lit.int .i64 o).wf = true) (l : Int) (w3 : (Lit.int .i64 l).wf = true) (f : Int) (w4 : (Lit.int .i64 f).wf = true) (w : World) (ht : Tabs w) :
    Calls Tryz.prog 3 #[.bool d, .int .i64 s, .int .i64 b, .int .i64 o, .int .i64 l, .int .i64 f] w fun e w' => e = .returned (.bool true) ∧ Kept w w' := by
  obtain ⟨b0, b1⟩ := wf_i64 w1
  have H1 := fun w => Lib.hid (report_any d s b o l f b0 b1 w)
  have H2 := fun w => Lib.hid (refReport_any d s b o l f b0 b1 w)
  have HT := Lib.hid ht
  clear w0 w1 w2 w3 w4 b0 b1 ht
  generalize reportL d s b o l f = R at *
  go_enter Tryz.func3, Tryz.ntmps3
  go_wp2_with (fail)
  refine ((H1 _).out HT.out).mono ?_
  rintro e w2 ⟨rfl, k2⟩
  go_wp2_with (fail)
  refine ((H2 _).out).mono ?_
  rintro e w3 ⟨rfl, k3⟩
  go_wp2_with (fail)
  refine (live6_any _).mono ?_
  rintro e w4 ⟨rfl, k4⟩
  go_wp2
  go_ret
  exact ⟨ret_bool (by first | rfl | simp), k2.trans (k3.trans k4)⟩
end Go.Proofs.YtlppbapofenagaaGreatDoor
