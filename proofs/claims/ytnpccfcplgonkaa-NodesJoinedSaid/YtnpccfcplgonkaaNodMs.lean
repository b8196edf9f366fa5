/- nodes: measures of any right node; the row of glues that is being gathered. -/
import Derived.Test.YtnpccfcplgonkaaNodOf
namespace Go.Proofs.Ytnpccfcplgonkaa
open Go.RowKit

def alongV (n : Nod) : Int := if n.kind ∈ ([1, 2, 3, 4, 5, 8, 15, 16] : List Int) then n.w else 0
def uprightV (n : Nod) : Int := if n.kind ∈ ([3, 4, 5] : List Int) then wr n.h n.d else if n.kind = 8 then n.w else 0
theorem kind_eq {n : Nod} {k : Int} (h : n.kind = k) : ({ n with kind := k } : Nod) = n := by subst h; rfl
theorem kinds_of {n : Nod} (h1 : 1 ≤ n.kind) (h2 : n.kind ≤ 17) : n.kind = 1 ∨ n.kind = 2 ∨ n.kind = 3 ∨ n.kind = 4 ∨ n.kind = 5 ∨ n.kind = 6 ∨ n.kind = 7 ∨ n.kind = 8 ∨ n.kind = 9 ∨ n.kind = 10 ∨ n.kind = 11 ∨ n.kind = 12 ∨ n.kind = 13 ∨ n.kind = 14 ∨ n.kind = 15 ∨ n.kind = 16 ∨ n.kind = 17 := by omega
theorem of_along_any (n : Nod) (h1 : 1 ≤ n.kind) (h2 : n.kind ≤ 17) (b : Nat) (w : World) (hb : w.heap[b]? = some (.cells alongL.toArray 162 (0, 0))) : Calls Try.prog 118 #[.pointer (some ⟨b, 0, none⟩), nodV n] w fun e w' => e = .returned (.int .i64 (alongV n)) ∧ Kept w w' := by
  rcases kinds_of h1 h2 with h | h | h | h | h | h | h | h | h | h | h | h | h | h | h | h | h
  · have := of_along_1 n b w hb
    rw [kind_eq h] at this
    simpa [alongV, h] using this
  · have := of_along_2 n b w hb
    rw [kind_eq h] at this
    simpa [alongV, h] using this
  · have := of_along_3 n b w hb
    rw [kind_eq h] at this
    simpa [alongV, h] using this
  · have := of_along_4 n b w hb
    rw [kind_eq h] at this
    simpa [alongV, h] using this
  · have := of_along_5 n b w hb
    rw [kind_eq h] at this
    simpa [alongV, h] using this
  · have := of_along_6 n b w hb
    rw [kind_eq h] at this
    simpa [alongV, h] using this
  · have := of_along_7 n b w hb
    rw [kind_eq h] at this
    simpa [alongV, h] using this
  · have := of_along_8 n b w hb
    rw [kind_eq h] at this
    simpa [alongV, h] using this
  · have := of_along_9 n b w hb
    rw [kind_eq h] at this
    simpa [alongV, h] using this
  · have := of_along_10 n b w hb
    rw [kind_eq h] at this
    simpa [alongV, h] using this
  · have := of_along_11 n b w hb
    rw [kind_eq h] at this
    simpa [alongV, h] using this
  · have := of_along_12 n b w hb
    rw [kind_eq h] at this
    simpa [alongV, h] using this
  · have := of_along_13 n b w hb
    rw [kind_eq h] at this
    simpa [alongV, h] using this
  · have := of_along_14 n b w hb
    rw [kind_eq h] at this
    simpa [alongV, h] using this
  · have := of_along_15 n b w hb
    rw [kind_eq h] at this
    simpa [alongV, h] using this
  · have := of_along_16 n b w hb
    rw [kind_eq h] at this
    simpa [alongV, h] using this
  · have := of_along_17 n b w hb
    rw [kind_eq h] at this
    simpa [alongV, h] using this
theorem of_upright_any (n : Nod) (h1 : 1 ≤ n.kind) (h2 : n.kind ≤ 17) (b : Nat) (w : World) (hb : w.heap[b]? = some (.cells uprightL.toArray 162 (0, 0))) : Calls Try.prog 118 #[.pointer (some ⟨b, 0, none⟩), nodV n] w fun e w' => e = .returned (.int .i64 (uprightV n)) ∧ Kept w w' := by
  rcases kinds_of h1 h2 with h | h | h | h | h | h | h | h | h | h | h | h | h | h | h | h | h
  · have := of_upright_1 n b w hb
    rw [kind_eq h] at this
    simpa [uprightV, h] using this
  · have := of_upright_2 n b w hb
    rw [kind_eq h] at this
    simpa [uprightV, h] using this
  · have := of_upright_3 n b w hb
    rw [kind_eq h] at this
    simpa [uprightV, h] using this
  · have := of_upright_4 n b w hb
    rw [kind_eq h] at this
    simpa [uprightV, h] using this
  · have := of_upright_5 n b w hb
    rw [kind_eq h] at this
    simpa [uprightV, h] using this
  · have := of_upright_6 n b w hb
    rw [kind_eq h] at this
    simpa [uprightV, h] using this
  · have := of_upright_7 n b w hb
    rw [kind_eq h] at this
    simpa [uprightV, h] using this
  · have := of_upright_8 n b w hb
    rw [kind_eq h] at this
    simpa [uprightV, h] using this
  · have := of_upright_9 n b w hb
    rw [kind_eq h] at this
    simpa [uprightV, h] using this
  · have := of_upright_10 n b w hb
    rw [kind_eq h] at this
    simpa [uprightV, h] using this
  · have := of_upright_11 n b w hb
    rw [kind_eq h] at this
    simpa [uprightV, h] using this
  · have := of_upright_12 n b w hb
    rw [kind_eq h] at this
    simpa [uprightV, h] using this
  · have := of_upright_13 n b w hb
    rw [kind_eq h] at this
    simpa [uprightV, h] using this
  · have := of_upright_14 n b w hb
    rw [kind_eq h] at this
    simpa [uprightV, h] using this
  · have := of_upright_15 n b w hb
    rw [kind_eq h] at this
    simpa [uprightV, h] using this
  · have := of_upright_16 n b w hb
    rw [kind_eq h] at this
    simpa [uprightV, h] using this
  · have := of_upright_17 n b w hb
    rw [kind_eq h] at this
    simpa [uprightV, h] using this
/-- glues gathered so far, as cells -/
def glC (ss : List Nod) : List Value := ss.flatMap gC
theorem glC_length : ∀ ss : List Nod, (glC ss).length = ss.length * 5
  | [] => rfl
  | n :: r => by
    have := glC_length r
    simp only [glC, List.flatMap_cons, List.length_append, gC, List.length_cons, List.length_nil] at *
    omega
theorem glC_append (a b : List Nod) : glC (a ++ b) = glC a ++ glC b := by simp [glC]
def SkIs (ss : List Nod) (base : Option Addr) (cap : Nat) (e : HE) : Prop :=
  (base = none ∧ ss = [] ∧ cap = 0) ∨ ∃ bo oc, base = some ⟨bo, 0, none⟩ ∧ e = .obj true bo oc 61 ∧ oc.length = cap * 5 ∧ ss.length ≤ cap ∧ oc.take (ss.length * 5) = glC ss
theorem SkIs.row {ss : List Nod} {base : Option Addr} {cap : Nat} {e : HE} (h : SkIs ss base cap e) :
    ∃ oc : List Value, oc.take (ss.length * 5) = glC ss ∧ ∀ (hp : List HE) (i : Nat), hp[i]? = some e → RowAt hp i base ss.length cap 5 oc 61 := by
  rcases h with ⟨h1, h2, h3⟩ | ⟨bo, oc, h1, h2, h3, h4, h5⟩
  · subst h2
    exact ⟨[], rfl, fun hp i hh => ⟨(List.getElem?_eq_some_iff.1 hh).1, .inl ⟨h1, rfl, h3⟩⟩⟩
  · exact ⟨oc, h5, fun hp i hh => ⟨(List.getElem?_eq_some_iff.1 hh).1, .inr ⟨bo, h1, by rw [hh, h2], h3, h4⟩⟩⟩
theorem SkIs.grow {ss : List Nod} {n : Nod} {b' cap' : Nat} {oc cs' : List Value} (h : oc.take (ss.length * 5) = glC ss) (hc : ss.length + 1 ≤ cap') (hl : cs'.length = cap' * 5)
    (ht : cs'.take ((ss.length + 1) * 5) = oc.take (ss.length * 5) ++ gC n) : SkIs (ss ++ [n]) (some ⟨b', 0, none⟩) cap' (.obj true b' cs' 61) :=
  .inr ⟨b', cs', rfl, rfl, hl, by simpa using hc, by
    rw [show (ss ++ [n]).length = ss.length + 1 by simp, ht, h, glC_append]; simp [glC]⟩
theorem glC_get : ∀ (ss : List Nod) (k j : Nat) (v : Value), k < ss.length → (gC (nth ss k))[j]? = some v → (glC ss)[k * 5 + j]? = some v
  | [], _, _, _, h, _ => by simp at h
  | n :: r, 0, j, v, _, hv => by
    have hj : j < 5 := by have := (List.getElem?_eq_some_iff.1 hv).1; simpa [gC] using this
    simp only [glC, List.flatMap_cons, Nat.zero_mul, Nat.zero_add]
    rw [List.getElem?_append_left (by simpa [gC] using hj)]
    simpa [nth] using hv
  | n :: r, k + 1, j, v, h, hv => by
    have ih := glC_get r k j v (by simpa using h) (by simpa [nth] using hv)
    simp only [glC, List.flatMap_cons]
    rw [List.getElem?_append_right (by simp [gC]; omega)]
    have e : (k + 1) * 5 + j - (gC n).length = k * 5 + j := by simp [gC]; omega
    rw [e]
    exact ih
/-- gathered glues, as a row to be read -/
theorem SkIs.reads {ss : List Nod} {w0 w : World} {bs : List Nat} {hp : List HE} {i bo : Nat} {oc : List Value} (h : Sat w0 bs hp w) (hi : hp[i]? = some (.obj true bo oc 61)) (ht : oc.take (ss.length * 5) = glC ss) : Sat w [] [.row bo 0 5 ss.length (gRow ss)] w := by
  have hb := h.obj hi
  refine ⟨.refl _ _, fun e he => ?_, fun i j e e' hij hi hj => ?_⟩
  · rw [List.mem_singleton.1 he]
    intro hn
    refine ⟨(Array.getElem?_eq_some_iff.1 hb).1, fun k hk j v hv => ?_⟩
    have h1 := glC_get ss k j v hk hv
    rw [← ht, List.getElem?_take] at h1
    split at h1
    · rw [Nat.zero_add]
      simp [World.cell?, hb, h1]
    · cases h1
  · have hi' := (List.getElem?_eq_some_iff.1 hi).1
    have hj' := (List.getElem?_eq_some_iff.1 hj).1
    simp at hi' hj'
    omega
end Go.Proofs.Ytnpccfcplgonkaa
