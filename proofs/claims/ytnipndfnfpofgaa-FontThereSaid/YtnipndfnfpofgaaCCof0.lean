/- font.countsOf: what its walk says. -/
import Derived.Test.YtnipndfnfpofgaaCMet
import Derived.Deep.MidRow
namespace Go.Proofs.Ytnipndfnfpofgaa
open Go.RowKit

theorem below_setCells {B b : Nat} {w : World} (l : List Value) : ∀ (o : Nat) (w' : World), Below B w w' → B ≤ b → Below B w (w'.setCells b o l) := by
  induction l with
  | nil => exact fun _ _ h _ => h
  | cons v l ih => exact fun o w' h hb => ih (o + 1) _ (h.setCell (p := ⟨b, o, none⟩) hb v) hb
/-- the counts but for how many words they come to -/
def cnt0 (F : Fnt) (n0 n1 n2 n3 : Int) : Cnt := ⟨0, 2, if F.chars.length = 0 then 1 else F.first, if F.chars.length = 0 then 0 else F.first + F.chars.length - 1, n0, n1, n2, n3, F.steps.length, F.kerns.length, F.pieces.length, F.params.length⟩
def cntOf (F : Fnt) (n0 n1 n2 n3 : Int) : Cnt := { cnt0 F n0 n1 n2 n3 with lf := wordsC (cnt0 F n0 n1 n2 n3) }
theorem cells12 {w : World} {B : Nat} {T : TypeId} {v0 v1 v2 v3 v4 v5 v6 v7 v8 v9 v10 v11 : Value} (h : w.heap[B]? = some (.cells #[v0, v1, v2, v3, v4, v5, v6, v7, v8, v9, v10, v11] T (0, 0))) :
    w.cell? ⟨B, 0, none⟩ = some v0 ∧ w.cell? ⟨B, 1, none⟩ = some v1 ∧ w.cell? ⟨B, 2, none⟩ = some v2 ∧ w.cell? ⟨B, 3, none⟩ = some v3 ∧ w.cell? ⟨B, 4, none⟩ = some v4 ∧ w.cell? ⟨B, 5, none⟩ = some v5 ∧ w.cell? ⟨B, 6, none⟩ = some v6 ∧ w.cell? ⟨B, 7, none⟩ = some v7 ∧ w.cell? ⟨B, 8, none⟩ = some v8 ∧ w.cell? ⟨B, 9, none⟩ = some v9 ∧ w.cell? ⟨B, 10, none⟩ = some v10 ∧ w.cell? ⟨B, 11, none⟩ = some v11 ∧ (∀ o, w.frozen? ⟨B, o, none⟩ = false) ∧ B < w.heap.size := by
  refine ⟨?_, ?_, ?_, ?_, ?_, ?_, ?_, ?_, ?_, ?_, ?_, ?_, fun o => ?_, ?_⟩
  case refine_14 =>
    rcases Nat.lt_or_ge B w.heap.size with h' | h'
    · exact h'
    · simp [Array.getElem?_eq_none h'] at h
  all_goals first | simp [World.cell?, h] | simp [World.frozen?, h]

end Go.Proofs.Ytnipndfnfpofgaa
