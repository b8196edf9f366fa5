/- the document's Check: its stack. -/
import Derived.Test.YtdadfhhcfmdfkaaNodW
namespace Go.Proofs.Ytdadfhhcfmdfkaa
open Go.RowKit

/-- what is open, as cells -/
def rC (l : List Nod) (os : List (Nat × Nat)) : List Value := os.flatMap fun p => [.bool (decide ((nth l p.1).kind = 10)), .int .i64 (p.2 : Int)]
theorem rC_length {l : List Nod} : ∀ os : List (Nat × Nat), (rC l os).length = os.length * 2
  | [] => rfl
  | p :: r => by
    have := rC_length (l := l) r
    simp only [rC, List.flatMap_cons, List.length_append, List.length_cons, List.length_nil] at *
    omega
theorem rC_append {l : List Nod} (a b : List (Nat × Nat)) : rC l (a ++ b) = rC l a ++ rC l b := by simp [rC]
/-- the row of what is open: none yet, or a block of one's own -/
def ROpen (l : List Nod) (os : List (Nat × Nat)) (base : Option Addr) (cap : Nat) (e : HE) : Prop :=
  (base = none ∧ os = [] ∧ cap = 0) ∨ ∃ bo oc, base = some ⟨bo, 0, none⟩ ∧ e = .obj true bo oc 169 ∧ oc.length = cap * 2 ∧ os.length ≤ cap ∧ oc.take (os.length * 2) = rC l os
/-- the cells of the last one -/
theorem ROpen.last {l : List Nod} {os : List (Nat × Nat)} {p : Nat × Nat} {base : Option Addr} {cap : Nat} {e : HE} (h : ROpen l (os ++ [p]) base cap e) :
    ∃ bo oc, base = some ⟨bo, 0, none⟩ ∧ e = .obj true bo oc 169 ∧ oc.length = cap * 2 ∧ os.length + 1 ≤ cap ∧ oc.take ((os.length + 1) * 2) = rC l (os ++ [p]) ∧
      oc[0 + os.length * 2]? = some (.bool (decide ((nth l p.1).kind = 10))) ∧ oc[0 + os.length * 2 + 1]? = some (.int .i64 (p.2 : Int)) := by
  rcases h with ⟨_, h, _⟩ | ⟨bo, oc, h1, h2, h3, h4, h5⟩
  · simp at h
  · simp only [List.length_append, List.length_cons, List.length_nil, Nat.zero_add] at h4 h5
    have hl := rC_length (l := l) os
    refine ⟨bo, oc, h1, h2, h3, h4, h5, ?_, ?_⟩
    · have : (oc.take ((os.length + 1) * 2))[os.length * 2]? = some (.bool (decide ((nth l p.1).kind = 10))) := by
        rw [h5, rC_append, ← hl, List.getElem?_append_right (Nat.le_refl _), Nat.sub_self]; rfl
      rw [List.getElem?_take, if_pos (by omega)] at this
      rwa [Nat.zero_add]
    · have : (oc.take ((os.length + 1) * 2))[os.length * 2 + 1]? = some (.int .i64 (p.2 : Int)) := by
        rw [h5, rC_append, ← hl, List.getElem?_append_right (by omega), Nat.add_sub_cancel_left]; rfl
      rw [List.getElem?_take, if_pos (by omega)] at this
      rwa [Nat.zero_add]
theorem rC_set {l : List Nod} {os : List (Nat × Nat)} {p : Nat × Nat} {oc : List Value} {s : Nat} (h : oc.take ((os.length + 1) * 2) = rC l (os ++ [p])) (hl : (os.length + 1) * 2 ≤ oc.length) :
    (oc.set (0 + os.length * 2 + 1) (.int .i64 (s : Int))).take ((os.length + 1) * 2) = rC l (os ++ [(p.1, s)]) := by
  have h1 := rC_length (l := l) os
  rw [List.take_set, h, rC_append, rC_append, List.set_append_right _ _ (by omega)]
  congr 1
  rw [show 0 + os.length * 2 + 1 - (rC l os).length = 1 by omega]
  rfl
theorem ROpen.less {l : List Nod} {os : List (Nat × Nat)} {p : Nat × Nat} {bo cap : Nat} {oc : List Value} (h : oc.take ((os.length + 1) * 2) = rC l (os ++ [p])) (h1 : oc.length = cap * 2) (h2 : os.length + 1 ≤ cap) :
    ROpen l os (some ⟨bo, 0, none⟩) cap (.obj true bo oc 169) :=
  .inr ⟨bo, oc, rfl, rfl, h1, by omega, by
    have hl := rC_length (l := l) os
    have := congrArg (List.take (os.length * 2)) h
    rw [List.take_take, Nat.min_eq_left (by omega), rC_append, List.take_append_of_le_length (by omega)] at this
    rw [this, List.take_of_length_le (by omega)]⟩
/-- as a row that is appended to -/
theorem ROpen.row {l : List Nod} {os : List (Nat × Nat)} {base : Option Addr} {cap : Nat} {e : HE} (h : ROpen l os base cap e) :
    ∃ oc : List Value, oc.take (os.length * 2) = rC l os ∧ ∀ hp : List HE, hp[1]? = some e → RowAt hp 1 base os.length cap 2 oc 169 := by
  rcases h with ⟨h1, h2, h3⟩ | ⟨bo, oc, h1, h2, h3, h4, h5⟩
  · subst h2
    exact ⟨[], rfl, fun hp hh => ⟨(List.getElem?_eq_some_iff.1 hh).1, .inl ⟨h1, rfl, h3⟩⟩⟩
  · exact ⟨oc, h5, fun hp hh => ⟨(List.getElem?_eq_some_iff.1 hh).1, .inr ⟨bo, h1, by rw [hh, h2], h3, h4⟩⟩⟩
theorem ROpen.grow {l : List Nod} {os : List (Nat × Nat)} {p : Nat × Nat} {b' cap' : Nat} {oc cs' : List Value} (h : oc.take (os.length * 2) = rC l os) (hc : os.length + 1 ≤ cap') (hl : cs'.length = cap' * 2)
    (ht : cs'.take ((os.length + 1) * 2) = oc.take (os.length * 2) ++ [.bool (decide ((nth l p.1).kind = 10)), .int .i64 (p.2 : Int)]) : ROpen l (os ++ [p]) (some ⟨b', 0, none⟩) cap' (.obj true b' cs' 169) :=
  .inr ⟨b', cs', rfl, rfl, hl, by simpa using hc, by
    rw [show (os ++ [p]).length = os.length + 1 by simp, ht, h, rC_append]; rfl⟩
end Go.Proofs.Ytdadfhhcfmdfkaa
