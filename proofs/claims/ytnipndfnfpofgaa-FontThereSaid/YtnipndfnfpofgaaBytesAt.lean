/- A slice of bytes that came in, opened. -/
import Derived.Test.YtnipndfnfpofgaaKinds
namespace Go.Proofs.Ytnipndfnfpofgaa
open Go.ChangeShapes Go.WideShapes Go.ChangeAt Go.RowKit Go.Deep

def BytesAt (w : World) (A : Option Addr) (l : List Int) (B : Nat) : Prop :=
  0 < l.length → ∃ b o, A = some ⟨b, o, none⟩ ∧ b < B ∧ ∀ i (h : i < l.length), w.cell? ⟨b, o + i, none⟩ = some (.int .u8 l[i])
def BytesWf (l : List Int) : Prop := l.length ≤ maxLen ∧ ∀ z ∈ l, 0 ≤ z ∧ z ≤ 255
section
variable {w w' : World} {A : Option Addr} {B n : Nat} {f : Nat → Nat → Int}
theorem BytesAt.kept {l : List Int} (h : BytesAt w A l B) (hk : Below B w w') : BytesAt w' A l B := fun hn => by
  obtain ⟨b, o, e, hb, hc⟩ := h hn
  exact ⟨b, o, e, hb, fun i hi => (hk.cell (p := ⟨b, o + i, none⟩) hb).trans (hc i hi)⟩
theorem BytesAt.more {l : List Int} {C : Nat} (h : BytesAt w A l B) (hB : B ≤ C) : BytesAt w A l C := fun hn => by
  obtain ⟨b, o, e, hb, hc⟩ := h hn
  exact ⟨b, o, e, by omega, hc⟩
theorem bytes_of (h : RowsAt w A (fun _ => .u8) 1 n f B) (hw : ∀ i < n, ∀ j < 1, (Lit.int .u8 (f i j)).wf = true) : ∃ l : List Int, l.length = n ∧ BytesAt w A l B ∧ ∀ z ∈ l, 0 ≤ z ∧ z ≤ 255 := by
  refine ⟨(List.range n).map fun i => f i 0, by simp, fun hn => ?_, fun m hm => ?_⟩
  · have hn' : 0 < n := by simpa using hn
    obtain ⟨b, o, e, hb, hc⟩ := h hn'
    refine ⟨b, o, e, hb, fun i hi => ?_⟩
    have hi' : i < n := by simpa using hi
    have h0 := hc i hi' 0 (by omega)
    simp only [List.getElem_map, List.getElem_range]
    rw [Nat.mul_one] at h0
    exact h0
  · rw [List.mem_map] at hm
    obtain ⟨i, hi, rfl⟩ := hm
    exact bounds_u8 (hw i (List.mem_range.1 hi) 0 (by omega))
end
section
variable {H : Type} {enc : TypeId × Value → H} {w : World}
set_option maxRecDepth 100000 in
theorem open_bytes {r : Reach} {b0 : Nat} {v : Value} {d : DataW H} {p : List MemPlace} (hv : Value.okWide Try.prog w r b0 29 v) (h : DataW.Trod enc Try.prog w 0 (fun _ => true) true 29 v d p) :
    ∃ (A : Option Addr) (l : List Int) (c : Nat), v = .slice A l.length c ∧ BytesAt w A l w.heap.size ∧ BytesWf l ∧ l.length ≤ c ∧ c ≤ maxLen := by
  obtain ⟨A, n, c, f, rfl, hr, hl, hc, hw⟩ := open_rows (m := 1) (K := fun _ => .u8) Try.underlying29 (by kernel_rfl) (by omega) (fun j hj => by
    obtain rfl : j = 0 := by omega
    exact of_decide_eq_true (by kernel_rfl)) hv h
  obtain ⟨l, rfl, hb, hz⟩ := bytes_of hr hw
  exact ⟨A, l, c, rfl, hb, ⟨Nat.le_trans hl hc, hz⟩, hl, hc⟩
end
end Go.Proofs.Ytnipndfnfpofgaa
