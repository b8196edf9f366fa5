/- math/bits.Div64 where the high word is 0. -/
import Derived.Test.YtdlbpepkgoandaaDoorShelf
import Derived.Test.YtdlbpepkgoandaaDoorBase
namespace Go.Proofs.YtdlbpepkgoandaaDoor
open Go.RowKit

theorem u64_in {a : Int} (h0 : 0 ≤ a) (h : a < 18446744073709551616) : IntKind.u64.wrap a = a := by
  rw [IntKind.wrap_u64]; omega

theorem div64_low (lo y : Nat) (hlo : lo < 18446744073709551616) (hy0 : 0 < y) (hy : y < 18446744073709551616) (w : World) :
    Calls Tryd.prog 52 #[.int .u64 0, .int .u64 lo, .int .u64 y] w fun e w' => e = .returned (.tuple #[.int .u64 ((lo / y : Nat) : Int), .int .u64 ((lo % y : Nat) : Int)]) ∧ Kept w w' := by
  have h1 : ¬ (y : Int) = 0 := by omega
  have h2 : ¬ (y : Int) ≤ 0 := by omega
  have q : ((lo / y : Nat) : Int) = (lo : Int) / (y : Int) := rfl
  have r : ((lo % y : Nat) : Int) = (lo : Int) % (y : Int) := rfl
  rw [q, r]
  have q1 : (lo : Int) / (y : Int) ≤ lo := by rw [← q]; have := Nat.div_le_self lo y; omega
  have q0 : 0 ≤ (lo : Int) / (y : Int) := by rw [← q]; exact Int.natCast_nonneg _
  clear q r
  go_enter Tryd.func52, Tryd.ntmps52
  go_wp2
  go_quiet (fail)
  go_wp2
  go_ret2
  exact ⟨rfl, below_drewN (Kept.refl _) _⟩
end Go.Proofs.YtdlbpepkgoandaaDoor
