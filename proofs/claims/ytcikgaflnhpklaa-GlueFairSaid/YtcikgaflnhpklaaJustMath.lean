/- What a row that is set comes to; the law's total. -/
import Derived.Test.YtcikgaflnhpklaaSizesBad
import Derived.Test.YtcikgaflnhpklaaSum
import Derived.Test.YtcikgaflnhpklaaFit
import Derived.Test.YtcikgaflnhpklaaInts
import Derived.Test.YtcikgaflnhpklaaShareLaws
namespace Go.Proofs.Ytcikgaflnhpklaa
open Go.RowKit

def sumI : List Int → Int
  | [] => 0
  | x :: r => x + sumI r
theorem sumI_append (a b : List Int) : sumI (a ++ b) = sumI a + sumI b := by
  induction a with
  | nil => simp [sumI]
  | cons g r ih => simp only [List.cons_append, sumI, ih]; omega
theorem sumI_succ {xs : List Int} {k : Nat} (hk : k < xs.length) : sumI (xs.take (k + 1)) = sumI (xs.take k) + xs[k] := by
  rw [List.take_succ_eq_append_getElem hk, sumI_append]
  simp [sumI]

def TotalAt (xs : List Int) (n i : Value) : Prop := ∃ k : Nat, k ≤ xs.length ∧ i = .int .i64 k ∧ n = .int .i64 (sumI (xs.take k))

set_option maxHeartbeats 1000000 in
theorem total_any (A : Option Addr) (xs : List Int) (c : Nat) (w : World) (hlen : xs.length ≤ 9223372036854775807) (h : IAt w A xs w.heap.size)
    (hb : ∀ k, k ≤ xs.length → -1152921504606846976 ≤ sumI (xs.take k) ∧ sumI (xs.take k) ≤ 1152921504606846976) :
    Calls Try.prog 17 #[.slice A xs.length c] w fun e w' => e = .returned (.int .i64 (sumI xs)) ∧ w = w' := by
  have H := Lib.hid h; clear h
  have HB := Lib.hid hb; clear hb
  go_enter Try.func17, Try.ntmps17
  go_wp2
  go_loop [3, 4] (fun n i => TotalAt xs n i) (fun _ i => xs.length - (intOf i).toNat)
  case atStart => exact ⟨0, Nat.zero_le _, rfl, rfl⟩
  case round =>
    obtain ⟨k, hk, rfl, rfl⟩ := hrel
    by_cases hlt : k < xs.length
    · obtain ⟨b, o, rfl, hb, hc⟩ := H.out (by omega)
      have c0 := hc k hlt
      clear hc
      obtain ⟨q0, q1⟩ := HB.out k (by omega)
      obtain ⟨r0, r1⟩ := HB.out (k + 1) hlt
      have hs := sumI_succ hlt
      rw [hs] at r0 r1
      have Hs := Lib.hid hs; clear hs
      generalize xs[k] = x at *
      generalize sumI (xs.take k) = s at *
      go_wp2
      go_round
      case rel => exact ⟨k + 1, by omega, by go_num, by rw [Hs.out]⟩
      case measure => simp [intOf]; omega
    · have hz : xs.take k = xs := List.take_of_length_le (by omega)
      rw [hz] at *
      go_wp2
      go_ret
      exact ⟨rfl, rfl⟩

/-- the sizes as a list -/
def szL (sg od nu de : Int) (gs : List Gl) : List Int := (List.range gs.length).map (szAt sg od nu de gs)
theorem szL_len {sg od nu de : Int} {gs : List Gl} : (szL sg od nu de gs).length = gs.length := by simp [szL]
theorem szL_get {sg od nu de : Int} {gs : List Gl} {i : Nat} (hi : i < (szL sg od nu de gs).length) : (szL sg od nu de gs)[i] = szAt sg od nu de gs i := by simp [szL]

theorem sz_sum {sg od nu de : Int} {gs : List Gl} : ∀ k, k ≤ gs.length → sumI ((szL sg od nu de gs).take k) = natSum (gs.take k) + delta sg 0 (shareV (sumF sg od (gs.take k)) nu de) := by
  intro k
  induction k with
  | zero =>
    intro _
    have e : sumF sg od (gs.take 0) = 0 := by simp [sumF]
    rw [e, shareV_zero]
    simp [sumI, natSum, delta]
  | succ k ih =>
    intro hk
    have hl : k < (szL sg od nu de gs).length := by rw [szL_len]; omega
    rw [sumI_succ hl, ih (by omega), szL_get, szAt_eq (by omega), natSum_succ (by omega)]
    unfold delta
    split <;> omega

theorem sz_bd {sg od nu de : Int} {gs : List Gl} (hr : rowE gs = 0) (k : Nat) (hk : k ≤ (szL sg od nu de gs).length) : -1152921504606846976 ≤ sumI ((szL sg od nu de gs).take k) ∧ sumI ((szL sg od nu de gs).take k) ≤ 1152921504606846976 := by
  rw [szL_len] at hk
  rw [sz_sum k hk]
  have h1 := nat_bd hr k
  have h2 := shareV_bd (sumF sg od (gs.take k)) nu de
  unfold delta
  split <;> omega

theorem sz_total {sg od nu de : Int} {gs : List Gl} : sumI (szL sg od nu de gs) = natSum gs + delta sg 0 (shareV (sumF sg od gs) nu de) := by
  have h := sz_sum (sg := sg) (od := od) (nu := nu) (de := de) (gs := gs) gs.length (Nat.le_refl _)
  have e1 : (szL sg od nu de gs).take gs.length = szL sg od nu de gs := List.take_of_length_le (by rw [szL_len]; exact Nat.le_refl _)
  have e2 : gs.take gs.length = gs := List.take_length
  rw [e1, e2] at h
  exact h

theorem sumF_still {od : Int} (gs : List Gl) : sumF 0 od gs = 0 := by
  induction gs with
  | nil => rfl
  | cons g r ih => simp [sumF, ih, fsz]

/-- Fit of a row's totals, by cases -/
theorem fit_cases (gs : List Gl) (x : Int) : fitT (totOf gs) x = ⟨0, 0, 0, 0, 11⟩ ∨ fitT (totOf gs) x = ⟨0, 0, 0, 0, 0⟩ ∨
    (inB x = true ∧ 0 < x ∧ ∃ o : Int, 0 ≤ o ∧ o < 4 ∧ fitT (totOf gs) x = ⟨1, o, x, sumF 1 o gs, 0⟩) ∨
    (inB x = true ∧ x < 0 ∧ ∃ o : Int, 0 ≤ o ∧ o < 4 ∧ fitT (totOf gs) x = ⟨2, o, -x, sumF 2 o gs, 0⟩) ∨
    (inB x = true ∧ x < 0 ∧ 0 < sumF 2 0 gs ∧ sumF 2 0 gs < -x ∧ fitT (totOf gs) x = ⟨2, 0, sumF 2 0 gs, sumF 2 0 gs, 0⟩) := by
  unfold totOf
  cases hok : fitOk ⟨natSum gs, sumF 1 0 gs, sumF 1 1 gs, sumF 1 2 gs, sumF 1 3 gs, sumF 2 0 gs, sumF 2 1 gs, sumF 2 2 gs, sumF 2 3 gs⟩ x
  · exact .inl (by simp [fitT, hok])
  · have hx : inB x = true := by
      unfold fitOk at hok
      exact (Bool.and_eq_true_iff.1 hok).1
    by_cases hx0 : x = 0
    · exact .inr (.inl (by unfold fitT; rw [if_pos hok, if_pos hx0]))
    · by_cases hxp : 0 < x
      · rcases top_cases (sumF 1 0 gs) (sumF 1 1 gs) (sumF 1 2 gs) (sumF 1 3 gs) with ⟨t1, _⟩ | ⟨t1, ht⟩
        · exact .inr (.inl (by simp [fitT, hok, hx0, hxp, t1]))
        · refine .inr (.inr (.inl ⟨hx, hxp, ?_⟩))
          rcases ht with ⟨t2, _⟩ | ⟨t2, _⟩ | ⟨t2, _⟩ | ⟨t2, _⟩
          · exact ⟨0, by omega, by omega, by simp [fitT, hok, hx0, hxp, t1, t2, pick4]⟩
          · exact ⟨1, by omega, by omega, by simp [fitT, hok, hx0, hxp, t1, t2, pick4]⟩
          · exact ⟨2, by omega, by omega, by simp [fitT, hok, hx0, hxp, t1, t2, pick4]⟩
          · exact ⟨3, by omega, by omega, by simp [fitT, hok, hx0, hxp, t1, t2, pick4]⟩
      · have hxn : x < 0 := by omega
        rcases top_cases (sumF 2 0 gs) (sumF 2 1 gs) (sumF 2 2 gs) (sumF 2 3 gs) with ⟨t1, _⟩ | ⟨t1, ht⟩
        · exact .inr (.inl (by simp [fitT, hok, hx0, hxp, t1]))
        · rcases ht with ⟨t2, hp, _⟩ | ⟨t2, _⟩ | ⟨t2, _⟩ | ⟨t2, _⟩
          · by_cases hlt : sumF 2 0 gs < -x
            · exact .inr (.inr (.inr (.inr ⟨hx, hxn, hp, hlt, by simp [fitT, hok, hx0, hxp, t1, t2, pick4, hlt]⟩)))
            · exact .inr (.inr (.inr (.inl ⟨hx, hxn, 0, by omega, by omega, by simp [fitT, hok, hx0, hxp, t1, t2, pick4, hlt]⟩)))
          · exact .inr (.inr (.inr (.inl ⟨hx, hxn, 1, by omega, by omega, by simp [fitT, hok, hx0, hxp, t1, t2, pick4]⟩)))
          · exact .inr (.inr (.inr (.inl ⟨hx, hxn, 2, by omega, by omega, by simp [fitT, hok, hx0, hxp, t1, t2, pick4]⟩)))
          · exact .inr (.inr (.inr (.inl ⟨hx, hxn, 3, by omega, by omega, by simp [fitT, hok, hx0, hxp, t1, t2, pick4]⟩)))

/-- a row that is set comes to this -/
theorem set_total {gs : List Gl} {sg o nu : Int} (hs : sg = 1 ∨ sg = 2) (hok : szOk gs sg o nu (sumF sg o gs)) : sumI (szL sg o nu (sumF sg o gs) gs) = natSum gs + (if sg = 2 then -nu else nu) := by
  have hE := hok.2 (by omega) gs.length (Nat.le_refl _)
  rw [List.take_length] at hE
  have hf := (share_full hE).2
  rw [sz_total, hf]
  unfold delta
  split <;> omega

theorem still_total {gs : List Gl} : sumI (szL 0 0 0 0 gs) = natSum gs := by
  rw [sz_total, sumF_still, shareV_zero]
  simp [delta]
theorem still_ok {gs : List Gl} (hr : rowE gs = 0) : szOk gs 0 0 0 0 :=
  ⟨⟨hr, .inl rfl, by omega, by decide, by decide, fun h => absurd rfl h⟩, fun h => absurd rfl h⟩
end Go.Proofs.Ytcikgaflnhpklaa
