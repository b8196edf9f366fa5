/- glue.each and the two closures that glue.Times and glue.Over hand it. -/
import Derived.Test.YtdlbpepkgoandaaDoorFlex
namespace Go.Proofs.YtdlbpepkgoandaaDoor
open Go.RowKit

/-- the box of the number that a closure has captured -/
def NumAt (w : World) (B : Nat) (n : Int) : Prop := w.heap[B]? = some (.cells #[.int .i64 n] 3 (0, 0))
theorem NumAt.cell {w : World} {B : Nat} {n : Int} (h : NumAt w B n) : w.cell? ⟨B, 0, none⟩ = some (.int .i64 n) := by
  unfold NumAt at h
  simp [World.cell?, h]
theorem NumAt.lt {w : World} {B : Nat} {n : Int} (h : NumAt w B n) : B < w.heap.size := lt_of_some h
theorem NumAt.kept {w w' : World} {B : Nat} {n : Int} (h : NumAt w B n) (hk : Kept w w') : NumAt w' B n := (hk.block _ h.lt).trans h

def tsV (n x : Int) : Int := if x = 0 then 0 else if timesE n x 0 = 0 then timesV n x 0 else 0
def tsE (n x : Int) : Int := if x = 0 then 0 else if timesE n x 0 = 0 then 0 else 20

set_option maxHeartbeats 1000000 in
theorem tstep_any (x n : Int) (B : Nat) (w : World) (h : NumAt w B n) :
    Calls Tryd.prog 39 #[.int .i64 x, .pointer (some ⟨B, 0, none⟩)] w fun e w' => e = .returned (.tuple #[.int .i64 (tsV n x), .int .i64 (tsE n x)]) ∧ Kept w w' := by
  have c := h.cell
  have l := h.lt
  clear h
  by_cases hx : x = 0
  · subst hx
    have e1 : tsV n 0 = 0 := by simp [tsV]
    have e2 : tsE n 0 = 0 := by simp [tsE]
    rw [e1, e2]
    clear e1 e2
    go_enter Tryd.func39, Tryd.ntmps39
    go_wp2
    go_ret2
    exact ⟨rfl, Kept.refl _⟩
  · have hxb : (x == 0) = false := by simpa using hx
    have ht := fun w => Lib.hid (times_any n x 0 w)
    by_cases hE : timesE n x 0 = 0
    · have e1 : tsV n x = timesV n x 0 := by simp [tsV, hx, hE]
      have e2 : tsE n x = 0 := by simp [tsE, hE]
      rw [e1, e2]
      rw [hE] at ht
      clear e1 e2 hE hx
      generalize timesV n x 0 = V at *
      go_enter Tryd.func39, Tryd.ntmps39
      go_wp2_with (fail)
      refine (ht _).out.mono ?_
      rintro e w1 ⟨rfl, k1⟩
      go_wp2_with (fail)
      go_ret2
      exact ⟨rfl, k1⟩
    · have e1 : tsV n x = 0 := by simp [tsV, hx, hE]
      have e2 : tsE n x = 20 := by simp [tsE, hx, hE]
      have hEb : (timesE n x 0 != 0) = true := by simpa using hE
      rw [e1, e2]
      clear e1 e2 hE hx
      generalize timesV n x 0 = V at *
      generalize timesE n x 0 = E at *
      go_enter Tryd.func39, Tryd.ntmps39
      go_wp2_with (fail)
      refine (ht _).out.mono ?_
      rintro e w1 ⟨rfl, k1⟩
      go_wp2_with (fail)
      go_ret2
      exact ⟨rfl, k1⟩

def osV (n x : Int) : Int := if n = 0 then 0 else x.tdiv n
def osE (n : Int) : Int := if n = 0 then 20 else 0

set_option maxHeartbeats 1000000 in
theorem ostep_any (x n : Int) (B : Nat) (w : World) (h : NumAt w B n) (h0 : -1073741824 ≤ x) (h1 : x ≤ 1073741824) :
    Calls Tryd.prog 42 #[.int .i64 x, .pointer (some ⟨B, 0, none⟩)] w fun e w' => e = .returned (.tuple #[.int .i64 (osV n x), .int .i64 (osE n)]) ∧ Kept w w' := by
  have c := h.cell
  have l := h.lt
  clear h
  by_cases hn : n = 0
  · subst hn
    have e1 : osV 0 x = 0 := by simp [osV]
    have e2 : osE 0 = 20 := by simp [osE]
    rw [e1, e2]
    clear e1 e2
    go_enter Tryd.func42, Tryd.ntmps42
    go_wp2
    go_ret2
    exact ⟨rfl, Kept.refl _⟩
  · have e1 : osV n x = x.tdiv n := by simp [osV, hn]
    have e2 : osE n = 0 := by simp [osE, hn]
    have hnb : (n == 0) = false := by simpa using hn
    obtain ⟨d0, d1⟩ := tdiv_bd (n := n) h0 h1
    have hw : wrap64 (x.tdiv n) = x.tdiv n := w64 (by omega) (by omega)
    rw [e1, e2]
    clear e1 e2
    go_enter Tryd.func42, Tryd.ntmps42
    go_wp2
    go_ret2
    exact ⟨rfl, Kept.refl _⟩

end Go.Proofs.YtdlbpepkgoandaaDoor
