/- flex.tidy, made, flex.plus. -/
import Derived.Test.YtdlbpepkgoandaaDoorCheck
import Derived.Test.YtdlbpepkgoandaaDoorAdds
import Derived.Deep.RegionWith
import Derived.Outline
namespace Go.Proofs.YtdlbpepkgoandaaDoor
open Go.RowKit

def tidyO (a o : Int) : Int := if a = 0 then 0 else o

set_option maxHeartbeats 1000000 in
theorem tidy_any (a o : Int) (w : World) :
    Calls Tryd.prog 63 #[.agg #[.int .i64 a, .int .i64 o]] w fun e w' => e = .returned (.agg #[.int .i64 a, .int .i64 (tidyO a o)]) ∧ Kept w w' := by
  by_cases ha : a = 0
  · subst ha
    have e1 : tidyO 0 o = 0 := by simp [tidyO]
    rw [e1]
    clear e1
    go_enter Tryd.func63, Tryd.ntmps63
    go_wp2
    exact bodyPost_ret (v := .agg #[.int .i64 0, .int .i64 0]) (by simp [results, Tryd.results63, go_sem]) rfl ⟨rfl, ((Kept.refl _).alloc (Nat.le_refl _) _).alloc (by simp) _⟩
  · have e1 : tidyO a o = o := by simp [tidyO, ha]
    have hb : (a == 0) = false := by simpa using ha
    rw [e1]
    clear e1 ha
    go_enter Tryd.func63, Tryd.ntmps63
    go_wp2
    exact bodyPost_ret (v := .agg #[.int .i64 a, .int .i64 o]) (by simp [results, Tryd.results63, go_sem]) rfl ⟨rfl, ((Kept.refl _).alloc (Nat.le_refl _) _).alloc (by simp) _⟩

/-- a box of two numbers, as a later world has it -/
theorem box_two {w w1 : World} {B : Nat} {x y : Int} {T : TypeId} (h : w.heap[B]? = some (.cells #[.int .i64 x, .int .i64 y] T (0, 0))) (hk : Kept w w1) :
    w1.cell? ⟨B, 0, none⟩ = some (.int .i64 x) ∧ w1.cell? ⟨B, 1, none⟩ = some (.int .i64 y) ∧ w1.frozen? ⟨B, 0, none⟩ = false ∧ w1.frozen? ⟨B, 1, none⟩ = false ∧ B < w1.heap.size := by
  have hB : B < w.heap.size := by
    rcases Nat.lt_or_ge B w.heap.size with h' | h'
    · exact h'
    · simp [Array.getElem?_eq_none h'] at h
  have h1 := (hk.block B hB).trans h
  have hs := hk.size
  exact ⟨by simp [World.cell?, h1], by simp [World.cell?, h1], by simp [World.frozen?, h1], by simp [World.frozen?, h1], by omega⟩

/-- a box of five cells, as a later world has it -/
theorem box_five {w w1 : World} {B : Nat} {T : TypeId} {z0 z1 z2 z3 z4 : Value} (h : w.heap[B]? = some (.cells #[z0, z1, z2, z3, z4] T (0, 0))) (hk : w1.heap[B]? = w.heap[B]?) :
    w1.cell? ⟨B, 0, none⟩ = some z0 ∧ w1.cell? ⟨B, 1, none⟩ = some z1 ∧ w1.cell? ⟨B, 2, none⟩ = some z2 ∧ w1.cell? ⟨B, 3, none⟩ = some z3 ∧ w1.cell? ⟨B, 4, none⟩ = some z4 ∧ (∀ o, w1.frozen? ⟨B, o, none⟩ = false) ∧ B < w1.heap.size := by
  have h1 := hk.trans h
  refine ⟨?_, ?_, ?_, ?_, ?_, fun o => ?_, ?_⟩
  case refine_7 =>
    rcases Nat.lt_or_ge B w1.heap.size with h' | h'
    · exact h'
    · simp [Array.getElem?_eq_none h'] at h1
  all_goals first | simp [World.cell?, h1] | simp [World.frozen?, h1]

theorem lt_of_some {w : World} {b : Nat} {o : Obj} (h : w.heap[b]? = some o) : b < w.heap.size := by
  rcases Nat.lt_or_ge b w.heap.size with h' | h'
  · exact h'
  · simp [Array.getElem?_eq_none h'] at h

theorem made3 (w : World) (o0 o1 o2 : Obj) : ∀ W, W = ((w.alloc o0).alloc o1).alloc o2 → W.heap[w.heap.size]? = some o0 ∧ W.heap[w.heap.size + 1]? = some o1 ∧ W.heap[w.heap.size + 2]? = some o2 := by
  intro W hW
  have e : W.heap = ((w.heap.push o0).push o1).push o2 := by rw [hW]; rfl
  rw [e]
  clear e hW
  generalize w.heap = h
  refine ⟨?_, ?_, ?_⟩ <;> simp only [Array.getElem?_push, Array.size_push] <;> (repeat (first | rw [if_pos trivial] | rw [if_pos (by omega)] | rw [if_neg (by omega)]))

set_option maxHeartbeats 2000000 in
theorem made_any (n a o b q : Int) (w : World) :
    Calls Tryd.prog 35 #[.int .i64 n, .agg #[.int .i64 a, .int .i64 o], .agg #[.int .i64 b, .int .i64 q]] w fun e w' => e = .returned (.agg #[.int .i64 n, .int .i64 a, .int .i64 b, .int .i64 (tidyO a o), .int .i64 (tidyO b q)]) ∧ Kept w w' := by
  obtain ⟨W, hW⟩ : ∃ W, W = ((w.alloc (.cells #[.int .i64 a, .int .i64 o] 53)).alloc (.cells #[.int .i64 b, .int .i64 q] 53)).alloc (.cells #[.int .i64 0, .int .i64 0, .int .i64 0, .int .i64 0, .int .i64 0] 33) := ⟨_, rfl⟩
  obtain ⟨m0, m1, m2⟩ := made3 w _ _ _ W hW
  have hk0 : Kept w W := by rw [hW]; exact (((Kept.refl w).alloc (Nat.le_refl _) _).alloc (by simp; try omega) _).alloc (by simp; omega) _
  obtain ⟨s0, s1, s2, s3, s4⟩ := box_two m0 (Kept.refl W)
  obtain ⟨t0, t1, t2, t3, t4⟩ := box_two m1 (Kept.refl W)
  have hb0 := fun w1 (hk : Kept W w1) => Lib.hid (box_two m0 hk)
  have hb1 := fun w1 (hk : Kept W w1) => Lib.hid (box_two m1 hk)
  have hW' := Lib.hid hW
  clear hW m0 m1
  have m2 := Lib.hid m2
  go_enter Tryd.func35, Tryd.ntmps35
  go_wp2
  rw [← hW'.out]
  go_region_with ((go_at_call 63; refine (tidy_any _ _ _).mono ?_; rintro e w1 ⟨rfl, k1⟩; have kb : Kept W w1 := Kept.trans (by first | assumption | exact (Kept.refl W) | exact Below.drew (Kept.refl W)) k1; clear k1; obtain ⟨p0, p1, p2, p3, p4⟩ := (hb0 _ kb).out; obtain ⟨r0, r1, r2, r3, r4⟩ := (hb1 _ kb).out; have hz : w.heap.size + 1 < w1.heap.size := r4))
  all_goals
    obtain ⟨v0, v1, v2, v3, v4, vf, vl⟩ := box_five m2.out (kb.block (w.heap.size + 2) (by have := lt_of_some m2.out; omega))
    have kw : Kept w w1 := Kept.trans hk0 kb
    clear kb hk0
    go_wp2
    exact bodyPost_ret (v := .agg #[.int .i64 n, .int .i64 a, .int .i64 b, .int .i64 (tidyO a o), .int .i64 (tidyO b q)]) (by simp [results, Tryd.results35, go_sem, v0, v1, v2, v3, v4]) rfl ⟨rfl, (Below.setCell (Below.setCell (Below.setCell (Below.setCell (Below.setCell (Below.setCell (Below.setCell (Below.setCell (Below.setCell kw (by simp; try omega) _) (by simp; try omega) _) (by simp; try omega) _) (by simp; try omega) _) (by simp; try omega) _) (by simp; try omega) _) (by simp; try omega) _) (by simp; try omega) _) (by simp; try omega) _)⟩
end Go.Proofs.YtdlbpepkgoandaaDoor
