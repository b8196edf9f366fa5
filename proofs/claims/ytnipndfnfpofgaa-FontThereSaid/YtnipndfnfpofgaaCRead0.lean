/- font's reader of no bytes. -/
import Derived.Test.YtnipndfnfpofgaaCRead2
namespace Go.Proofs.Ytnipndfnfpofgaa
open Go.RowKit

/-- a reader of nothing -/
def Rd0 (w : World) (R : Nat) : Prop := ∃ A c, w.cell? ⟨R, 0, none⟩ = some (.slice A 0 c)
theorem Rd0.kept {w w' : World} {R : Nat} (h : Rd0 w R) (hR : R < w.heap.size) (hk : Kept w w') : Rd0 w' R := by
  obtain ⟨A, c, h⟩ := h
  exact ⟨A, c, (hk.cell (p := ⟨R, 0, none⟩) hR).trans h⟩

set_option maxHeartbeats 1000000 in
theorem take_0 (w : World) (R : Nat) (h : Rd0 w R) :
    Calls Try.prog 119 #[.pointer (some ⟨R, 0, none⟩), .int .i64 2] w fun e w' => e = .panicked giveUp ∧ w' = w := by
  obtain ⟨A, c, h⟩ := h
  go_enter Try.func119, Try.ntmps119
  go_wp2_with (fail)
  refine (need_no _).mono ?_
  rintro e w1 ⟨rfl, rfl⟩
  go_wp2_with (fail)
  exact ⟨rfl, rfl, rfl⟩
set_option maxHeartbeats 1000000 in
theorem half_0 (w : World) (R : Nat) (h : Rd0 w R) :
    Calls Try.prog 118 #[.pointer (some ⟨R, 0, none⟩)] w fun e w' => e = .panicked giveUp ∧ w' = w := by
  have ht := Lib.hid (take_0 w R h)
  clear h
  go_enter Try.func118, Try.ntmps118
  go_wp2_with (fail)
  refine ht.out.mono ?_
  rintro e w1 ⟨rfl, rfl⟩
  go_wp2_with (fail)
  exact ⟨rfl, rfl, rfl⟩
set_option maxRecDepth 100000 in
set_option maxHeartbeats 4000000 in
theorem counts_0 (w : World) (R : Nat) (h : Rd0 w R) (hR : R < w.heap.size) :
    Calls Try.prog 80 #[.pointer (some ⟨R, 0, none⟩)] w fun e w' => e = .panicked giveUp ∧ Kept w w' := by
  have hh := fun w' (hk : Kept w w') => Lib.hid (half_0 w' R (h.kept hR hk))
  obtain ⟨A, c, h⟩ := h
  obtain ⟨W, hW⟩ : ∃ W, W = w.alloc (.cells #[.int .i64 0, .int .i64 0, .int .i64 0, .int .i64 0, .int .i64 0, .int .i64 0, .int .i64 0, .int .i64 0, .int .i64 0, .int .i64 0, .int .i64 0, .int .i64 0] 80) := ⟨_, rfl⟩
  have hk0 : Kept w W := by rw [hW]; exact walloc _ _
  have HW := Lib.hid hW
  clear hW
  go_enter Try.func80, Try.ntmps80
  go_wp2_with (fail)
  rw [← HW.out]
  refine (hh _ hk0).out.mono ?_
  rintro e w1 ⟨rfl, rfl⟩
  exact ⟨rfl, rfl, hk0⟩
set_option maxRecDepth 100000 in
set_option maxHeartbeats 4000000 in
theorem rfont_0 (w : World) (R : Nat) (h : Rd0 w R) (hR : R < w.heap.size) :
    Calls Try.prog 49 #[.pointer (some ⟨R, 0, none⟩)] w fun e w' => e = .panicked giveUp ∧ Kept w w' := by
  obtain ⟨W, hW⟩ : ∃ W, W = w.alloc (.cells #[.int .u32 0, .int .i64 0, .int .i64 0, .slice none 0 0, .slice none 0 0, .slice none 0 0, .slice none 0 0, .slice none 0 0] 28) := ⟨_, rfl⟩
  have hk0 : Kept w W := by rw [hW]; exact walloc _ _
  have hc := Lib.hid (counts_0 W R (h.kept hR hk0) (Nat.lt_of_lt_of_le hR hk0.size))
  have HW := Lib.hid hW
  clear hW h
  go_enter Try.func49, Try.ntmps49
  go_wp2_with (fail)
  rw [← HW.out]
  refine hc.out.mono ?_
  rintro e w1 ⟨rfl, k1⟩
  exact ⟨rfl, rfl, hk0.trans k1⟩
end Go.Proofs.Ytnipndfnfpofgaa
