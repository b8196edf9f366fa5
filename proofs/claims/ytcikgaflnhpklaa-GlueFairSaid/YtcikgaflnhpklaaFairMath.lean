/- No piece is off by more than one; a row's beginning is set as in the row. -/
import Derived.Test.YtcikgaflnhpklaaJustMath
namespace Go.Proofs.Ytcikgaflnhpklaa
open Go.RowKit

theorem near {s n d : Int} (h : shareE s n d = 0) : 2 * (shareV s n d * d) - 2 * (s * n) ≤ d ∧ 2 * (s * n) - 2 * (shareV s n d * d) ≤ d := by
  obtain ⟨_, _, h3, _⟩ := share_parts h
  have e1 : (d.toNat : Int) = d := by omega
  have := ShM.rs_near (p := s * n) (d := d.toNat) (by omega)
  rw [e1] at this
  rw [share_rs h]
  exact this

/-- the change of one piece against its fraction -/
theorem fair_one {s f n d : Int} (h1 : shareE s n d = 0) (h2 : shareE (s + f) n d = 0) :
    (shareV (s + f) n d - shareV s n d) * d - n * f ≤ d ∧ n * f - (shareV (s + f) n d - shareV s n d) * d ≤ d := by
  obtain ⟨a, b⟩ := near h1
  obtain ⟨c, e⟩ := near h2
  rw [Int.add_mul] at c e
  rw [Int.sub_mul, Int.mul_comm n f]
  generalize shareV s n d * d = A at *
  generalize shareV (s + f) n d * d = B at *
  generalize s * n = C at *
  generalize f * n = D at *
  omega

/-- the piece's share, as the law reckons it -/
def sOf (sg od : Int) (g : Gl) : Int := if sg = 2 then -fsz sg od g else fsz sg od g
/-- by how much piece k is off its natural size -/
def offAt (sg od nu de : Int) (gs : List Gl) (k : Nat) : Int := delta sg (shareV (sumF sg od (gs.take k)) nu de) (shareV (sumF sg od (gs.take (k + 1))) nu de)

theorem off_size {sg od nu de : Int} {gs : List Gl} {k : Nat} (hk : k < gs.length) : szAt sg od nu de gs k = gs[k].nat + offAt sg od nu de gs k := szAt_eq hk

theorem off_zero {sg od nu de : Int} {gs : List Gl} {k : Nat} (hk : k < gs.length) (h : sOf sg od gs[k] = 0) : offAt sg od nu de gs k = 0 := by
  have hf : fsz sg od gs[k] = 0 := by
    unfold sOf at h
    split at h <;> omega
  unfold offAt
  rw [sumF_succ hk, hf, Int.add_zero]
  unfold delta
  split <;> omega

theorem off_bd (sg od nu de : Int) (gs : List Gl) (k : Nat) : -140737488355328 ≤ offAt sg od nu de gs k ∧ offAt sg od nu de gs k ≤ 140737488355328 := by
  have h1 := shareV_bd (sumF sg od (gs.take k)) nu de
  have h2 := shareV_bd (sumF sg od (gs.take (k + 1))) nu de
  unfold offAt delta
  split <;> omega

theorem off_fair {sg od nu de : Int} {gs : List Gl} {k : Nat} (hk : k < gs.length) (hok : szOk gs sg od nu de) (hs : sg ≠ 0) :
    offAt sg od nu de gs k * de - nu * sOf sg od gs[k] ≤ de ∧ nu * sOf sg od gs[k] - offAt sg od nu de gs k * de ≤ de := by
  have h1 := hok.2 hs k (by omega)
  have h2 := hok.2 hs (k + 1) hk
  rw [sumF_succ hk] at h2
  have h := fair_one h1 h2
  unfold offAt sOf delta
  rw [sumF_succ hk]
  split
  · rw [Int.neg_mul, Int.mul_neg]
    omega
  · exact h

/-- products of small numbers -/
theorem small_prod {nu s : Int} (h1 : -1073741824 < nu ∧ nu < 1073741824) (h2 : -1073741824 < s ∧ s < 1073741824) : -1152921504606846976 ≤ nu * s ∧ nu * s ≤ 1152921504606846976 := by
  have h : (nu * s).natAbs ≤ 1073741824 * 1073741824 := by rw [Int.natAbs_mul]; exact Nat.mul_le_mul (by omega) (by omega)
  omega

theorem take_row {gs : List Gl} (h : rowE gs = 0) (k : Nat) : rowE (gs.take k) = 0 := by
  obtain ⟨h1, h2⟩ := row_ok h
  exact row_yes (by rw [List.length_take]; omega) (take_ok h2 k)

theorem take_szOk {gs : List Gl} {sg od nu de : Int} (h : szOk gs sg od nu de) (k : Nat) (hk : k ≤ gs.length) : szOk (gs.take k) sg od nu de := by
  obtain ⟨⟨h1, h2, h3, h4, h5, h6⟩, h7⟩ := h
  refine ⟨⟨take_row h1 k, h2, h3, h4, h5, h6⟩, fun hs j hj => ?_⟩
  have hj' : j ≤ k := by rw [List.length_take] at hj; omega
  rw [List.take_take, Nat.min_eq_left hj']
  exact h7 hs j (by omega)

theorem take_szAt {gs : List Gl} {sg od nu de : Int} {k j : Nat} (hj : j < k) (hk : k ≤ gs.length) : szAt sg od nu de (gs.take k) j = szAt sg od nu de gs j := by
  have hl : j < (gs.take k).length := by rw [List.length_take]; omega
  rw [szAt_eq hl, szAt_eq (by omega : j < gs.length), List.take_take, List.take_take, Nat.min_eq_left (by omega : j ≤ k), Nat.min_eq_left (by omega : j + 1 ≤ k)]
  simp

theorem take_szL {gs : List Gl} {sg od nu de : Int} {k : Nat} (hk : k ≤ gs.length) : szL sg od nu de (gs.take k) = (szL sg od nu de gs).take k := by
  apply List.ext_getElem
  · simp [szL]
  · intro i h1 h2
    have hi : i < k := by rw [szL_len, List.length_take] at h1; omega
    rw [szL_get, List.getElem_take, szL_get, take_szAt hi hk]

def smallB (nu de : Int) : Bool := decide (nu < 1073741824) && (decide (-1073741824 < nu) && decide (de < 1073741824))
def small2B (s : Int) : Bool := decide (s < 1073741824) && decide (-1073741824 < s)

set_option maxHeartbeats 1000000 in
theorem small2_any (s : Int) (w : World) : Calls Try.prog 19 #[.int .i64 s] w fun e w' => e = .returned (.bool (small2B s)) ∧ w = w' := by
  by_cases h1 : s < 1073741824
  · by_cases h2 : -1073741824 < s
    · have e1 : small2B s = true := by simp [small2B, h1, h2]
      rw [e1]; clear e1
      go_enter Try.func19, Try.ntmps19
      go_wp2
      go_ret
      exact ⟨rfl, rfl⟩
    · have e1 : small2B s = false := by simp [small2B, h2]
      have e2 : decide (-1073741824 < s) = false := decide_eq_false h2
      rw [e1]; clear e1
      go_enter Try.func19, Try.ntmps19
      go_wp2
      go_ret
      exact ⟨rfl, rfl⟩
  · have e1 : small2B s = false := by simp [small2B, h1]
    rw [e1]; clear e1
    go_enter Try.func19, Try.ntmps19
    go_wp2
    go_ret
    exact ⟨rfl, rfl⟩

set_option maxHeartbeats 1000000 in
theorem small_any (a b nu de : Int) (w : World) : Calls Try.prog 18 #[.agg #[.int .i64 a, .int .i64 b, .int .i64 nu, .int .i64 de]] w fun e w' => e = .returned (.bool (smallB nu de)) ∧ Kept w w' := by
  by_cases h1 : nu < 1073741824
  · by_cases h2 : -1073741824 < nu
    · by_cases h3 : de < 1073741824
      · have e1 : smallB nu de = true := by simp [smallB, h1, h2, h3]
        rw [e1]; clear e1
        go_enter Try.func18, Try.ntmps18
        go_wp2
        go_ret
        exact ⟨rfl, (Kept.refl _).alloc (Nat.le_refl _) _⟩
      · have e1 : smallB nu de = false := by simp [smallB, h3]
        have e2 : decide (de < 1073741824) = false := decide_eq_false h3
        rw [e1]; clear e1
        go_enter Try.func18, Try.ntmps18
        go_wp2
        go_ret
        exact ⟨rfl, (Kept.refl _).alloc (Nat.le_refl _) _⟩
    · have e1 : smallB nu de = false := by simp [smallB, h2]
      have e2 : decide (-1073741824 < nu) = false := decide_eq_false h2
      rw [e1]; clear e1
      go_enter Try.func18, Try.ntmps18
      go_wp2
      go_ret
      exact ⟨rfl, (Kept.refl _).alloc (Nat.le_refl _) _⟩
  · have e1 : smallB nu de = false := by simp [smallB, h1]
    rw [e1]; clear e1
    go_enter Try.func18, Try.ntmps18
    go_wp2
    go_ret
    exact ⟨rfl, (Kept.refl _).alloc (Nat.le_refl _) _⟩
end Go.Proofs.Ytcikgaflnhpklaa
