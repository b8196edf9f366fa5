/- The law's live: three pieces of 0 plus 1, five thirds of it each. -/
import Derived.Test.YtdlbpepkgoandaaDoorSizes
import Derived.Test.YtdlbpepkgoandaaDoorInts
namespace Go.Proofs.YtdlbpepkgoandaaDoor
open Go.RowKit

def liveL : List Gl := [⟨0, 1, 0, 0, 0⟩, ⟨0, 1, 0, 0, 0⟩, ⟨0, 1, 0, 0, 0⟩]

theorem live_ok : szOk liveL 1 0 5 3 := by
  refine ⟨⟨by decide, by decide, by decide, by decide, by decide, by decide⟩, fun _ k hk => ?_⟩
  have hk' : k ≤ 3 := hk
  obtain rfl | rfl | rfl | rfl : k = 0 ∨ k = 1 ∨ k = 2 ∨ k = 3 := by omega
  all_goals decide +kernel

theorem live_sizes : szAt 1 0 5 3 liveL 0 = 2 ∧ szAt 1 0 5 3 liveL 1 = 1 ∧ szAt 1 0 5 3 liveL 2 = 2 := by decide +kernel

theorem GAt.three {w : World} {b : Nat} {g : Gl} {B : Nat} (hB : b < B)
    (h0 : w.cell? ⟨b, 0, none⟩ = some (.int .i64 g.nat)) (h1 : w.cell? ⟨b, 1, none⟩ = some (.int .i64 g.st)) (h2 : w.cell? ⟨b, 2, none⟩ = some (.int .i64 g.sh)) (h3 : w.cell? ⟨b, 3, none⟩ = some (.int .i64 g.so)) (h4 : w.cell? ⟨b, 4, none⟩ = some (.int .i64 g.ho))
    (h5 : w.cell? ⟨b, 5, none⟩ = some (.int .i64 g.nat)) (h6 : w.cell? ⟨b, 6, none⟩ = some (.int .i64 g.st)) (h7 : w.cell? ⟨b, 7, none⟩ = some (.int .i64 g.sh)) (h8 : w.cell? ⟨b, 8, none⟩ = some (.int .i64 g.so)) (h9 : w.cell? ⟨b, 9, none⟩ = some (.int .i64 g.ho))
    (h10 : w.cell? ⟨b, 10, none⟩ = some (.int .i64 g.nat)) (h11 : w.cell? ⟨b, 11, none⟩ = some (.int .i64 g.st)) (h12 : w.cell? ⟨b, 12, none⟩ = some (.int .i64 g.sh)) (h13 : w.cell? ⟨b, 13, none⟩ = some (.int .i64 g.so)) (h14 : w.cell? ⟨b, 14, none⟩ = some (.int .i64 g.ho)) :
    GAt w (some ⟨b, 0, none⟩) [g, g, g] B := by
  intro _
  refine ⟨b, 0, rfl, hB, fun k hk => ?_⟩
  have hk' : k < 3 := hk
  obtain rfl | rfl | rfl : k = 0 ∨ k = 1 ∨ k = 2 := by omega
  · exact ⟨h0, h1, h2, h3, h4⟩
  · exact ⟨h5, h6, h7, h8, h9⟩
  · exact ⟨h10, h11, h12, h13, h14⟩

theorem IAt.of_row {w : World} {b : Nat} {xs : List Int} {f : Nat → Value} {B : Nat} {n : Nat} (h : w.rowIs b 3 n f) (hB : b < B) (hn : xs.length = n) (he : ∀ i (hi : i < xs.length), f i = .int .i64 xs[i]) : IAt w (some ⟨b, 0, none⟩) xs B := by
  intro _
  refine ⟨b, 0, rfl, hB, fun k hk => ?_⟩
  rw [Nat.zero_add, h.cell (by omega), he k hk]

theorem IAt.three {w : World} {b : Nat} {x y z : Int} {B : Nat} (hB : b < B) (h0 : w.cell? ⟨b, 0, none⟩ = some (.int .i64 x)) (h1 : w.cell? ⟨b, 1, none⟩ = some (.int .i64 y)) (h2 : w.cell? ⟨b, 2, none⟩ = some (.int .i64 z)) : IAt w (some ⟨b, 0, none⟩) [x, y, z] B := by
  intro _
  refine ⟨b, 0, rfl, hB, fun k hk => ?_⟩
  have hk' : k < 3 := hk
  obtain rfl | rfl | rfl : k = 0 ∨ k = 1 ∨ k = 2 := by omega
  · exact h0
  · exact h1
  · exact h2

set_option maxHeartbeats 2000000 in
theorem live_any (w : World) :
    Calls Tryd.prog 22 #[] w fun e w' => e = .returned (.bool true) ∧ Kept w w' := by
  have hsz := fun A w h => Lib.hid (sizes_good A liveL 3 1 0 5 3 w h live_ok)
  have hsz' : ∀ A w, GAt w A liveL w.heap.size → Hid (Calls Tryd.prog 49 #[.slice A 3 3, .int .i64 1, .int .i64 0, .int .i64 5, .int .i64 3] w fun e w' =>
      ∃ b, e = .returned (.tuple #[.slice (some ⟨b, 0, none⟩) 3 3, .int .i64 0]) ∧ w.heap.size ≤ b ∧ w'.rowIs b 3 3 (fun j => .int .i64 (szAt 1 0 5 3 liveL j)) ∧ Kept w w') := hsz
  clear hsz
  have hin : ∀ A B w, IAt w A [2, 1, 2] w.heap.size → IAt w B [2, 1, 2] w.heap.size → Hid (Calls Tryd.prog 50 #[.slice A 3 3, .slice B 3 3] w fun e w' => e = .returned (.bool true) ∧ Kept w w') :=
    fun A B w h1 h2 => Lib.hid (ints_any A B [2, 1, 2] [2, 1, 2] 3 3 w (by decide) (by decide) h1 h2)
  go_enter Tryd.func22, Tryd.ntmps22
  go_wp2_with (fail)
  refine (hsz' _ _ ?_).out.mono ?_
  · exact GAt.three (g := ⟨0, 1, 0, 0, 0⟩) (by simp) (by go_simp) (by go_simp) (by go_simp) (by go_simp) (by go_simp) (by go_simp) (by go_simp) (by go_simp) (by go_simp) (by go_simp) (by go_simp) (by go_simp) (by go_simp) (by go_simp) (by go_simp)
  rintro e w1 ⟨b, rfl, hb, hrow, k1⟩
  go_wp2_with (fail)
  refine (num_any _ _).mono ?_
  rintro e w2 ⟨rfl, rfl⟩
  go_wp2_with (fail)
  refine (hin _ _ _ ?_ ?_).out.mono ?_
  · refine IAt.below (IAt.of_row (xs := [2, 1, 2]) hrow hrow.lt rfl ?_) ((Kept.refl w1).alloc (Nat.le_refl _) _) |>.more (by simp)
    intro i hi
    have hi' : i < 3 := hi
    obtain ⟨s0, s1, s2⟩ := live_sizes
    obtain rfl | rfl | rfl : i = 0 ∨ i = 1 ∨ i = 2 := by omega
    · rw [s0]; rfl
    · rw [s1]; rfl
    · rw [s2]; rfl
  · exact IAt.three (by simp) (by go_simp) (by go_simp) (by go_simp)
  rintro e w3 ⟨rfl, k3⟩
  go_wp2_with (fail)
  go_ret
  exact ⟨rfl, Kept.trans (((Kept.refl w).alloc (Nat.le_refl _) _).alloc (by simp) _) (Kept.trans k1 (Kept.trans ((Kept.refl w1).alloc (Nat.le_refl _) _) k3))⟩
end Go.Proofs.YtdlbpepkgoandaaDoor
