/- What glue.Sizes comes to: the sums so far, and each size. -/
import Derived.Test.YtdlbpepkgoandaaDoorChg
namespace Go.Proofs.YtdlbpepkgoandaaDoor
open Go.RowKit

def sumF (sg od : Int) : List Gl → Int
  | [] => 0
  | g :: r => fsz sg od g + sumF sg od r

theorem sumF_append (sg od : Int) (a b : List Gl) : sumF sg od (a ++ b) = sumF sg od a + sumF sg od b := by
  induction a with
  | nil => simp [sumF]
  | cons g r ih => simp only [List.cons_append, sumF, ih]; omega

theorem sumF_succ {sg od : Int} {gs : List Gl} {k : Nat} (hk : k < gs.length) : sumF sg od (gs.take (k + 1)) = sumF sg od (gs.take k) + fsz sg od gs[k] := by
  rw [List.take_succ_eq_append_getElem hk, sumF_append]
  simp [sumF]

theorem ok_parts {g : Gl} (h : g.okB = true) : (-1073741823 ≤ g.nat ∧ g.nat ≤ 1073741823) ∧ (-1073741823 ≤ g.st ∧ g.st ≤ 1073741823) ∧ (-1073741823 ≤ g.sh ∧ g.sh ≤ 1073741823) ∧ (0 ≤ g.so ∧ g.so < 4) ∧ (0 ≤ g.ho ∧ g.ho < 4) := by
  unfold Gl.okB rightB at h
  simp only [Bool.and_eq_true] at h
  exact ⟨dimB_yes h.1, dimB_yes h.2.1.1, dimB_yes h.2.2.1, ordB_yes h.2.1.2, ordB_yes h.2.2.2⟩

theorem fsz_bd {sg od : Int} {g : Gl} (h : g.okB = true) : -1073741823 ≤ fsz sg od g ∧ fsz sg od g ≤ 1073741823 := by
  obtain ⟨_, h1, h2, _⟩ := ok_parts h
  unfold fsz ofOrder
  split
  · split <;> omega
  · split
    · split <;> omega
    · omega

theorem sumF_bd {sg od : Int} {gs : List Gl} (h : gs.all Gl.okB = true) : -(gs.length * 1073741823 : Int) ≤ sumF sg od gs ∧ sumF sg od gs ≤ gs.length * 1073741823 := by
  induction gs with
  | nil => simp [sumF]
  | cons g r ih =>
    simp only [List.all_cons, Bool.and_eq_true] at h
    have := ih h.2
    have := fsz_bd (sg := sg) (od := od) h.1
    simp only [sumF, List.length_cons]
    omega

theorem row_ok {gs : List Gl} (h : rowE gs = 0) : gs.length ≤ 2000 ∧ gs.all Gl.okB = true := by
  unfold rowE at h
  split at h
  · omega
  · split at h
    · exact ⟨by omega, by assumption⟩
    · omega

theorem take_ok {gs : List Gl} (h : gs.all Gl.okB = true) (k : Nat) : (gs.take k).all Gl.okB = true := by
  rw [List.all_eq_true] at *
  exact fun x hx => h x (List.mem_of_mem_take hx)

theorem sum_bd {sg od : Int} {gs : List Gl} (h : rowE gs = 0) (k : Nat) : -2147483646000 ≤ sumF sg od (gs.take k) ∧ sumF sg od (gs.take k) ≤ 2147483646000 := by
  obtain ⟨h1, h2⟩ := row_ok h
  have hb := sumF_bd (sg := sg) (od := od) (take_ok h2 k)
  have hl : (gs.take k).length ≤ 2000 := by rw [List.length_take]; omega
  omega

/-- piece k's size -/
def szAt (sg od nu de : Int) (gs : List Gl) (k : Nat) : Int :=
  match gs[k]? with
  | some g => g.nat + delta sg (shareV (sumF sg od (gs.take k)) nu de) (shareV (sumF sg od (gs.take (k + 1))) nu de)
  | none => 0

theorem szAt_eq {sg od nu de : Int} {gs : List Gl} {k : Nat} (hk : k < gs.length) : szAt sg od nu de gs k = gs[k].nat + delta sg (shareV (sumF sg od (gs.take k)) nu de) (shareV (sumF sg od (gs.take (k + 1))) nu de) := by
  unfold szAt
  rw [List.getElem?_eq_getElem hk]

/-- where glue.Sizes refuses before it begins -/
def preOk (gs : List Gl) (sg od nu de : Int) : Prop := rowE gs = 0 ∧ (sg = 0 ∨ sg = 1 ∨ sg = 2) ∧ (0 ≤ od ∧ od < 4) ∧ inB nu = true ∧ inB de = true ∧ (sg ≠ 0 → 1 ≤ de)
/-- where it answers sizes -/
def szOk (gs : List Gl) (sg od nu de : Int) : Prop := preOk gs sg od nu de ∧ (sg ≠ 0 → ∀ k, k ≤ gs.length → shareE (sumF sg od (gs.take k)) nu de = 0)

theorem start_ok {gs : List Gl} {sg od nu de : Int} (h : preOk gs sg od nu de) : sg = 0 ∨ shareE (sumF sg od (gs.take 0)) nu de = 0 := by
  obtain ⟨_, h1, _, h3, h4, h5⟩ := h
  by_cases hs : sg = 0
  · exact .inl hs
  · right
    have e : sumF sg od (gs.take 0) = 0 := by simp [sumF]
    rw [e]
    apply shareE_zero
    unfold shareOk
    rw [h3, h4, decide_eq_true (h5 hs)]
    decide

end Go.Proofs.YtdlbpepkgoandaaDoor
