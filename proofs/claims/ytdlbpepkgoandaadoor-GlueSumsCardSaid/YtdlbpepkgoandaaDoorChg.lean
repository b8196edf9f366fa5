/- The closure that glue.changes hands back, whatever the sign. -/
import Derived.Test.YtdlbpepkgoandaaDoorCh
namespace Go.Proofs.YtdlbpepkgoandaaDoor
open Go.RowKit

theorem shareV_zero (n d : Int) : shareV 0 n d = 0 := by
  unfold shareV
  split
  · rename_i h
    have hd : 1 ≤ d := by
      unfold shareOk at h
      exact of_decide_eq_true (Bool.and_eq_true_iff.1 h).2
    have e : rqV (Int.natAbs 0 * n.natAbs) d.toNat = 0 := by
      have : ShM.rq (Int.natAbs 0 * n.natAbs) d.toNat = 0 := by
        rw [Int.natAbs_zero, Nat.zero_mul]
        exact ShM.rq_zero (by omega)
      unfold rqV
      rw [this]; simp
    rw [e]; split <;> rfl
  · rfl

theorem shareE_zero {n d : Int} (h : shareOk 0 n d = true) : shareE 0 n d = 0 := by
  have hd : 1 ≤ d := by
    unfold shareOk at h
    exact of_decide_eq_true (Bool.and_eq_true_iff.1 h).2
  have : ShM.rq (Int.natAbs 0 * n.natAbs) d.toNat = 0 := by
    rw [Int.natAbs_zero, Nat.zero_mul]
    exact ShM.rq_zero (by omega)
  unfold shareE rqE
  rw [h, this]; simp

/-- by how much a size is changed -/
def delta (sg : Int) (a b : Int) : Int := if sg = 2 then -(b - a) else b - a

/-- what the closure's answer says -/
def ChangeIs (w : World) (N : Nat) (sg od nu de S f x y : Int) (w' : World) : Prop :=
  (sg ≠ 0 ∧ y ≠ 0 ∧ shareE (S + f) nu de ≠ 0 ∧ Kept w w') ∨
  ((sg = 0 ∨ shareE (S + f) nu de = 0) ∧ x = delta sg (shareV S nu de) (shareV (S + f) nu de) ∧ y = 0 ∧ ChAt w' N sg od nu de (S + f) (shareV (S + f) nu de) ∧ Others N w w')

theorem change_any (g : Gl) (sg od nu de S : Int) (N : Nat) (w : World) (h : ChAt w N sg od nu de S (shareV S nu de)) (hg : sg = 0 ∨ sg = 1 ∨ sg = 2) (hs : sg = 0 ∨ shareE S nu de = 0)
    (s0 : -35184372088832 ≤ S) (s1 : S ≤ 35184372088832) (f0 : -1073741824 ≤ g.st ∧ g.st ≤ 1073741824) (f1 : -1073741824 ≤ g.sh ∧ g.sh ≤ 1073741824) :
    Calls Tryd.prog 77 #[.agg #[.int .i64 g.nat, .int .i64 g.st, .int .i64 g.sh, .int .i64 g.so, .int .i64 g.ho], .pointer (some ⟨N, 0, none⟩), .pointer (some ⟨N + 6, 0, none⟩)] w
      fun e w' => ∃ x y : Int, e = .returned (.tuple #[.int .i64 x, .int .i64 y]) ∧ -140737488355328 ≤ x ∧ x ≤ 140737488355328 ∧ ChangeIs w N sg od nu de S (fsz sg od g) x y w' := by
  obtain ⟨gn, gst, gsh, gso, gho⟩ := g
  have b1 := shareV_bd S nu de
  have b2 := shareV_bd (S + fsz sg od ⟨gn, gst, gsh, gso, gho⟩) nu de
  simp only at f0 f1
  rcases hg with rfl | rfl | rfl
  · refine (step_still gn gst gsh gso gho od nu de S _ N w h).mono ?_
    rintro e w' ⟨he, hk⟩
    have e1 : S + fsz 0 od ⟨gn, gst, gsh, gso, gho⟩ = S := by simp [fsz]
    exact ⟨0, 0, he, by omega, by omega, .inr ⟨.inl rfl, by rw [e1]; simp [delta], rfl, by rw [e1]; exact h.kept hk, Others.of_kept hk⟩⟩
  · have hs : shareE S nu de = 0 := by rcases hs with h | h <;> omega
    refine (step_more gn gst gsh gso gho od nu de S N w h hs s0 s1 f0.1 f0.2).mono ?_
    rintro e w' ⟨x, y, he, hm⟩
    refine ⟨x, y, he, ?_, ?_, ?_⟩
    · rcases hm with ⟨h0, _⟩ | ⟨_, h0, _⟩ <;> omega
    · rcases hm with ⟨h0, _⟩ | ⟨_, h0, _⟩ <;> omega
    · rcases hm with ⟨h0, h1, h2, h3⟩ | ⟨h1, h2, h3, h4, h5⟩
      · exact .inl ⟨by decide, h1, h2, h3⟩
      · exact .inr ⟨.inr h1, by rw [h2]; simp [delta], h3, h4, h5⟩
  · have hs : shareE S nu de = 0 := by rcases hs with h | h <;> omega
    refine (step_less gn gst gsh gso gho od nu de S N w h hs s0 s1 f1.1 f1.2).mono ?_
    rintro e w' ⟨x, y, he, hm⟩
    refine ⟨-x, y, he, ?_, ?_, ?_⟩
    · rcases hm with ⟨h0, _⟩ | ⟨_, h0, _⟩ <;> omega
    · rcases hm with ⟨h0, _⟩ | ⟨_, h0, _⟩ <;> omega
    · rcases hm with ⟨h0, h1, h2, h3⟩ | ⟨h1, h2, h3, h4, h5⟩
      · exact .inl ⟨by decide, h1, h2, h3⟩
      · exact .inr ⟨.inr h1, by rw [h2]; simp [delta], h3, h4, h5⟩
end Go.Proofs.YtdlbpepkgoandaaDoor
