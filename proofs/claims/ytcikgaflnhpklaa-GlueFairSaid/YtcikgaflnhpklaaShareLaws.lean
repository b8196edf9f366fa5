/- What follows of a share: turned round, whole, never falling. -/
import Derived.Test.YtcikgaflnhpklaaShare
namespace Go.Proofs.Ytcikgaflnhpklaa
open Go.RowKit

theorem share_parts {s n d : Int} (h : shareE s n d = 0) : (-70368744177664 ≤ s ∧ s ≤ 70368744177664) ∧ (-70368744177664 ≤ n ∧ n ≤ 70368744177664) ∧ (1 ≤ d ∧ d ≤ 70368744177664) ∧ ShM.rq (s.natAbs * n.natAbs) d.toNat ≤ 70368744177664 := by
  cases hok : shareOk s n d
  · have := (share_no hok).2; omega
  · have hok' := hok
    unfold shareOk at hok'
    simp only [Bool.and_eq_true] at hok'
    obtain ⟨⟨h1, h2, h3⟩, h4⟩ := hok'
    have h4 : 1 ≤ d := of_decide_eq_true h4
    refine ⟨inB_yes h1, inB_yes h2, ⟨h4, (inB_yes h3).2⟩, ?_⟩
    unfold shareE rqE at h
    rw [hok] at h
    simp only [if_true] at h
    split at h
    · omega
    · omega

theorem share_bad {s n d : Int} (h : shareE s n d ≠ 0) : shareV s n d = 0 := by
  cases hok : shareOk s n d
  · exact (share_no hok).1
  · unfold shareE rqE at h
    rw [hok] at h
    unfold shareV rqV
    rw [hok]
    simp only [if_true] at h ⊢
    split at h
    · rename_i hc
      rw [if_pos hc]
      split <;> rfl
    · omega

theorem share_rs {s n d : Int} (h : shareE s n d = 0) : shareV s n d = ShM.rs (s * n) d.toNat := by
  obtain ⟨h1, h2, h3, h4⟩ := share_parts h
  have hok : shareOk s n d = true := by
    cases hok : shareOk s n d
    · have := (share_no hok).2; omega
    · rfl
  unfold shareV rqV ShM.rs
  rw [hok, Int.natAbs_mul, if_neg (show ¬ 70368744177664 < ShM.rq (s.natAbs * n.natAbs) d.toNat by omega)]
  simp only [if_true]
  have hz : ShM.rq 0 d.toNat = 0 := ShM.rq_zero (by omega)
  by_cases hs : s < 0
  · by_cases hn : n < 0
    · have : 0 < s * n := Int.mul_pos_of_neg_of_neg hs hn
      rw [if_neg (by simp [hs, hn]), if_neg (by omega)]
    · by_cases hn0 : n = 0
      · subst hn0
        simp [hz]
      · have : s * n < 0 := Int.mul_neg_of_neg_of_pos hs (by omega)
        rw [if_pos (by simp [hs, hn]), if_pos this]
  · by_cases hs0 : s = 0
    · subst hs0
      simp [hz]
    · by_cases hn : n < 0
      · have : s * n < 0 := Int.mul_neg_of_pos_of_neg (by omega) hn
        rw [if_pos (by simp [hs, hn]), if_pos this]
      · have : 0 ≤ s * n := Int.mul_nonneg (by omega) (by omega)
        rw [if_neg (by simp [hs, hn]), if_neg (by omega)]

theorem share_mk {s n d : Int} (h1 : -70368744177664 ≤ s ∧ s ≤ 70368744177664) (h2 : -70368744177664 ≤ n ∧ n ≤ 70368744177664) (h3 : 1 ≤ d ∧ d ≤ 70368744177664) (h4 : ShM.rq (s.natAbs * n.natAbs) d.toNat ≤ 70368744177664) : shareE s n d = 0 := by
  have hok : shareOk s n d = true := by
    unfold shareOk
    rw [inB_mk h1, inB_mk h2, inB_mk (by omega), decide_eq_true h3.1]
    rfl
  unfold shareE rqE
  rw [hok, if_neg (by omega : ¬ 70368744177664 < ShM.rq (s.natAbs * n.natAbs) d.toNat)]
  rfl

theorem share_neg {s n d : Int} (h : shareE s n d = 0) : shareE (-s) n d = 0 ∧ shareV (-s) n d = -shareV s n d := by
  obtain ⟨h1, h2, h3, h4⟩ := share_parts h
  have h' : shareE (-s) n d = 0 := share_mk (by omega) h2 h3 (by rw [Int.natAbs_neg]; exact h4)
  refine ⟨h', ?_⟩
  rw [share_rs h', share_rs h, Int.neg_mul, ShM.rs_neg (by omega)]

theorem share_full {s n d : Int} (h : shareE s n d = 0) : shareE d n d = 0 ∧ shareV d n d = n := by
  obtain ⟨h1, h2, h3, h4⟩ := share_parts h
  have e : ShM.rq (d.natAbs * n.natAbs) d.toNat = n.natAbs := by
    have e1 : d.natAbs = d.toNat := by omega
    rw [e1, Nat.mul_comm]
    exact ShM.rq_mul (by omega)
  have h' : shareE d n d = 0 := share_mk (by omega) h2 h3 (by rw [e]; omega)
  refine ⟨h', ?_⟩
  rw [share_rs h', Int.mul_comm]
  have e1 : d = (d.toNat : Int) := by omega
  have := ShM.rs_mul (x := n) (d := d.toNat) (by omega)
  rw [← e1] at this
  exact this

theorem share_mono {s m n d : Int} (h : shareE s n d = 0) (h' : shareE m n d = 0) (hn : 0 ≤ n) (hle : m ≤ s) : shareV m n d ≤ shareV s n d := by
  obtain ⟨_, _, h3, _⟩ := share_parts h
  rw [share_rs h, share_rs h']
  exact ShM.rs_mono (by omega) (Int.mul_le_mul_of_nonneg_right hle hn)
end Go.Proofs.Ytcikgaflnhpklaa
