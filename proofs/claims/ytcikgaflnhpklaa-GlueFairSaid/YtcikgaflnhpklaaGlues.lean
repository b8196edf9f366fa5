/- A row of glue that came in, opened. -/
import Derived.Test.YtcikgaflnhpklaaPlain
import Derived.Test.YtcikgaflnhpklaaRow
namespace Go.Proofs.Ytcikgaflnhpklaa
open Go.ChangeShapes Go.WideShapes Go.ChangeAt Go.RowKit Go.Deep

section
variable {H : Type} {enc : TypeId × Value → H} {P : Program} {w : World}
theorem open_glues2 {r : Reach} {b0 : Nat} {t e : TypeId} {v : Value} {d : DataW H} {p : List MemPlace} (ht : P.underlying t = some (.slice e)) (hn : numbersIn P 5 e = true) (hC : P.cellsOf e = 5)
    (hv : Value.okWide P w r b0 t v) (h : DataW.Trod enc P w 0 (fun _ => true) true t v d p) :
    ∃ (A : Option Addr) (gs : List Gl) (c : Nat), v = .slice A gs.length c ∧ GAt w A gs w.heap.size ∧ gs.length ≤ 9223372036854775807 ∧ gs.length ≤ c := by
  obtain ⟨fuel, hf⟩ := h
  obtain ⟨a0, n0, c0, rfl⟩ := okWide_slice ht hv
  have hc1 : (Value.slice a0 n0 c0).cells.toList = [.slice a0 n0 c0] := rfl
  rw [hc1] at hf
  rcases open_slice ht hf with ⟨h1, _⟩ | ⟨a, len, cap, m, n, D, Pl, h1, _, hle, hcap, hm, _, hall⟩
  · simp only [List.cons.injEq, and_true, Value.slice.injEq] at h1
    obtain ⟨rfl, rfl, rfl⟩ := h1
    exact ⟨none, [], 0, rfl, fun hn => absurd hn (by simp), by simp, by simp⟩
  · simp only [List.cons.injEq, and_true, Value.slice.injEq] at h1
    obtain ⟨rfl, rfl, rfl⟩ := h1
    simp only [if_true] at hm
    subst hm
    have hex : ∀ i, ∃ g : Gl, i < n0 → a.spot = none ∧ a.block < w.heap.size ∧ w.cell? ⟨a.block, a.off + i * 5, none⟩ = some (.int .i64 g.nat) ∧ w.cell? ⟨a.block, a.off + i * 5 + 1, none⟩ = some (.int .i64 g.st) ∧
        w.cell? ⟨a.block, a.off + i * 5 + 2, none⟩ = some (.int .i64 g.sh) ∧ w.cell? ⟨a.block, a.off + i * 5 + 3, none⟩ = some (.int .i64 g.so) ∧ w.cell? ⟨a.block, a.off + i * 5 + 4, none⟩ = some (.int .i64 g.ho) := by
      intro i
      by_cases hi : i < n0
      · obtain ⟨cs', hc, ht'⟩ := hall i (by omega)
        rw [hC] at hc
        obtain ⟨_, hl, hat⟩ := World.cells?_some hc
        obtain ⟨hone, _⟩ := numbers_open 5 hn ht'
        match cs', hl with
        | [v0, v1, v2, v3, v4], _ =>
          obtain ⟨z0, rfl⟩ := hone v0 (by simp)
          obtain ⟨z1, rfl⟩ := hone v1 (by simp)
          obtain ⟨z2, rfl⟩ := hone v2 (by simp)
          obtain ⟨z3, rfl⟩ := hone v3 (by simp)
          obtain ⟨z4, rfl⟩ := hone v4 (by simp)
          have q0 := hat 0 (by omega)
          have q1 := hat 1 (by omega)
          have q2 := hat 2 (by omega)
          have q3 := hat 3 (by omega)
          have q4 := hat 4 (by omega)
          simp only [List.getElem?_cons_zero, List.getElem?_cons_succ] at q0 q1 q2 q3 q4
          have hadd : ∀ j, ((a.add (i * 5)).add j) = a.add (i * 5 + j) := fun j => Go.Deep.add_add a _ _
          rw [hadd] at q0 q1 q2 q3 q4
          have hall0 : ∀ (b : Addr) k u, w.cell? (b.add k) = some u → (k = 0 → b.spot = none) := by
            intro b k u hb hk
            subst hk
            have : b.add 0 = b := rfl
            rw [this] at hb
            exact World.cell?_spot hb
          have hform : ∀ k u, w.cell? (a.add k) = some u → w.cell? ⟨a.block, a.off + k, none⟩ = some u := by
            intro k u hk
            unfold Addr.add at hk
            split at hk
            · rename_i h0
              subst h0
              have := World.cell?_spot hk
              obtain ⟨ab, ao, asp⟩ := a
              simp only at this
              subst this
              exact hk
            · exact hk
          obtain ⟨cs0, hc0, ht0⟩ := hall 0 (by omega)
          rw [hC] at hc0
          obtain ⟨_, hl0, hat0⟩ := World.cells?_some hc0
          have hsp : a.spot = none := by
            have h00 := hat0 0 (by omega)
            rw [List.getElem?_eq_getElem (by omega)] at h00
            exact World.cell?_spot (a := a) h00
          have hblk : a.block < w.heap.size := by
            have := World.block_lt_of_cell? w _ (hform _ _ q0)
            exact this
          exact ⟨⟨z0, z1, z2, z3, z4⟩, fun _ => ⟨hsp, hblk, hform _ _ q0, hform _ _ q1, hform _ _ q2, hform _ _ q3, hform _ _ q4⟩⟩
      · exact ⟨⟨0, 0, 0, 0, 0⟩, fun h => absurd h hi⟩
    obtain ⟨G, hG⟩ := Classical.axiomOfChoice hex
    have hlen : ((List.range n0).map G).length = n0 := by simp
    refine ⟨some a, (List.range n0).map G, m, by rw [hlen], fun hn0 => ?_, by rw [hlen]; unfold maxLen at hcap; omega, by rw [hlen]; exact hle⟩
    rw [hlen] at hn0
    obtain ⟨hsp, hblk, _⟩ := hG 0 hn0
    obtain ⟨ab, ao, asp⟩ := a
    simp only at hsp
    subst hsp
    refine ⟨ab, ao, rfl, hblk, fun k hk => ?_⟩
    rw [hlen] at hk
    have h := (hG k hk).2.2
    simpa using h
theorem open_glues {r : Reach} {b0 : Nat} {t e : TypeId} {v : Value} {d : DataW H} {p : List MemPlace} (ht : P.underlying t = some (.slice e)) (hn : numbersIn P 5 e = true) (hC : P.cellsOf e = 5)
    (hv : Value.okWide P w r b0 t v) (h : DataW.Trod enc P w 0 (fun _ => true) true t v d p) :
    ∃ (A : Option Addr) (gs : List Gl) (c : Nat), v = .slice A gs.length c ∧ GAt w A gs w.heap.size ∧ gs.length ≤ 9223372036854775807 := by
  obtain ⟨A, gs, c, h1, h2, h3, _⟩ := open_glues2 ht hn hC hv h
  exact ⟨A, gs, c, h1, h2, h3⟩
end
end Go.Proofs.Ytcikgaflnhpklaa
