/- A list of hyph's Ops that came in, opened. -/
import Derived.Test.YtmajknlgicookaaGreatNil7b
import Derived.Test.YtmajknlgicookaaGreatKinds
namespace Go.Proofs.YtmajknlgicookaaGreat
open Go.ChangeShapes Go.WideShapes Go.ChangeAt Go.RowKit Go.Deep

/-- is cell j of a type a string? -/
def strAt (P : Program) : Nat → TypeId → Nat → Bool
  | 0, _, _ => false
  | k + 1, t, j => match P.underlying t with
    | some .string => decide (j = 0) && decide (P.cellsOf t = 1)
    | some (.struct fs) => match fs.toList.find? fun f => decide (f.offset ≤ j) && decide (j < f.offset + P.cellsOf f.type) with
      | some f => strAt P k f.type (j - f.offset)
      | none => false
    | _ => false
section
variable {H : Type} {enc : TypeId × Value → H} {P : Program} {w : World} {base : Nat} {spare : Nat → Bool} {held : Bool}
theorem str_open : ∀ (k : Nat) {t : TypeId} {fuel : Nat} {cs : List Value} {x : DataW H × List MemPlace} {j : Nat}, DataW.trod enc P w base spare held fuel t cs = some x → strAt P k t j = true →
    ∃ s : ByteArray, cs[j]? = some (.string s) ∧ s.size ≤ maxLen := by
  intro k
  induction k with
  | zero => intro t fuel cs x j _ h; simp [strAt] at h
  | succ k ih =>
    intro t fuel cs x j hx h
    unfold strAt at h
    split at h
    · rename_i ht
      simp only [Bool.and_eq_true, decide_eq_true_eq] at h
      obtain ⟨rfl, _⟩ := h
      obtain ⟨s, rfl, _, hs⟩ := DataW.trod_string ht hx
      exact ⟨s, rfl, hs⟩
    · rename_i fs ht
      obtain ⟨ys, m, _, rfl, hlen, hyl, hf⟩ := DataW.trod_struct ht hx
      split at h
      · rename_i f hff
        have hin := List.find?_some hff
        simp only [Bool.and_eq_true, decide_eq_true_eq] at hin
        obtain ⟨i, hi⟩ := List.mem_iff_getElem?.1 (List.mem_of_find?_eq_some hff)
        have hi' : fs[i]? = some f := by rw [← Array.getElem?_toList]; exact hi
        have hil : i < fs.size := (Array.getElem?_eq_some_iff.1 hi').1
        have hr := hf i f hi'
        rw [List.getElem?_eq_getElem (show i < ys.length by omega)] at hr
        obtain ⟨s, hs, hm⟩ := ih hr h
        rw [cut_get hin.1 hin.2] at hs
        exact ⟨s, hs, hm⟩
      · cases h
    · cases h
end
section
variable {H : Type} {enc : TypeId × Value → H} {w : World}
set_option maxRecDepth 100000 in
set_option maxHeartbeats 4000000 in
theorem open_ops {r : Reach} {b0 : Nat} {v : Value} {d : DataW H} {p : List MemPlace} (hv : Value.okWide Tryz.prog w r b0 22 v) (h : DataW.Trod enc Tryz.prog w 0 (fun _ => true) true 22 v d p) :
    ∃ (A : Option Addr) (l : List Opr) (c : Nat), v = .slice A l.length c ∧ l.length ≤ c ∧ c ≤ maxLen ∧ (A = none → l = [] ∧ c = 0) ∧
      ∀ a, A = some a → 0 < l.length → a.spot = none ∧ a.block < w.heap.size ∧ ∀ k, k < l.length → ∀ j v, (oprRow l k)[j]? = some v → w.cell? ⟨a.block, a.off + k * 4 + j, none⟩ = some v := by
  obtain ⟨fuel, hf⟩ := h
  obtain ⟨a0, n0, c0, rfl⟩ := okWide_slice Tryz.underlying22 hv
  have hc1 : (Value.slice a0 n0 c0).cells.toList = [.slice a0 n0 c0] := rfl
  rw [hc1] at hf
  rcases open_slice Tryz.underlying22 hf with ⟨h1, _⟩ | ⟨a, len, cap, m, n, D, Pl, h1, _, hle, hcap, hm, _, hall⟩
  · simp only [List.cons.injEq, and_true, Value.slice.injEq] at h1
    obtain ⟨rfl, rfl, rfl⟩ := h1
    exact ⟨none, [], 0, rfl, by simp, by simp, fun _ => ⟨rfl, rfl⟩, fun a h => by cases h⟩
  · simp only [List.cons.injEq, and_true, Value.slice.injEq] at h1
    obtain ⟨rfl, rfl, rfl⟩ := h1
    simp only [if_true] at hm
    subst hm
    have hC : Tryz.prog.cellsOf 32 = 4 := by kernel_rfl
    have hform : ∀ k u, w.cell? (a.add k) = some u → w.cell? ⟨a.block, a.off + k, none⟩ = some u := by
      intro k u hk
      unfold Addr.add at hk
      split at hk
      · rename_i h0
        subst h0
        have := World.cell?_spot hk
        obtain ⟨ab, ao, asp⟩ := a
        simp only at this
        subst this
        exact hk
      · exact hk
    have hex : ∀ i, ∃ g : Opr, i < n0 → ∀ j v, (oprC g)[j]? = some v → w.cell? ⟨a.block, a.off + i * 4 + j, none⟩ = some v := by
      intro i
      by_cases hi : i < n0
      · obtain ⟨cs', hc, ht'⟩ := hall i (by omega)
        rw [hC] at hc
        obtain ⟨_, hl, hat⟩ := World.cells?_some hc
        obtain ⟨z0, h0, _⟩ := kind_open 4 ht' (show kindAt Tryz.prog 4 32 0 = some .i64 by kernel_rfl)
        obtain ⟨s1, h1, _⟩ := str_open 4 ht' (show strAt Tryz.prog 4 32 1 = true by kernel_rfl)
        obtain ⟨z2, h2, _⟩ := kind_open 4 ht' (show kindAt Tryz.prog 4 32 2 = some .i64 by kernel_rfl)
        obtain ⟨z3, h3, _⟩ := kind_open 4 ht' (show kindAt Tryz.prog 4 32 3 = some .i64 by kernel_rfl)
        refine ⟨⟨z0, s1, z2, z3⟩, fun _ j v hv => ?_⟩
        have hj : j < 4 := (List.getElem?_eq_some_iff.1 hv).1
        have hcv : cs'[j]? = some v := by
          rw [← hv]
          match j, hj with
          | 0, _ => exact h0
          | 1, _ => exact h1
          | 2, _ => exact h2
          | 3, _ => exact h3
        have h9 := hat j (by omega)
        rw [Go.Deep.add_add, hcv] at h9
        have h10 := hform _ _ h9
        rw [Nat.add_assoc]
        exact h10
      · exact ⟨⟨0, ⟨#[]⟩, 0, 0⟩, fun h => absurd h hi⟩
    obtain ⟨G, hG⟩ := Classical.axiomOfChoice hex
    have hlen : ((List.range n0).map G).length = n0 := by simp
    refine ⟨some a, (List.range n0).map G, m, by rw [hlen], by rw [hlen]; exact hle, hcap, (fun h => by cases h), fun a' ha h0 => ?_⟩
    obtain rfl : a = a' := Option.some.inj ha
    rw [hlen] at h0
    have hsp : a.spot = none := by
      obtain ⟨cs0, hc0, ht0⟩ := hall 0 (by omega)
      rw [hC] at hc0
      obtain ⟨_, hl0, hat0⟩ := World.cells?_some hc0
      have h00 := hat0 0 (by omega)
      rw [List.getElem?_eq_getElem (by omega)] at h00
      exact World.cell?_spot (a := a) h00
    refine ⟨hsp, ?_, fun k hk j v hv => ?_⟩
    · have := hG 0 h0 0 _ rfl
      exact World.block_lt_of_cell? w ⟨a.block, a.off + 0 * 4 + 0, none⟩ this
    · rw [hlen] at hk
      have e : oprRow ((List.range n0).map G) k = oprC (G k) := by simp [oprRow, onth, hk]
      rw [e] at hv
      exact hG k hk j v hv
end
end Go.Proofs.YtmajknlgicookaaGreat
