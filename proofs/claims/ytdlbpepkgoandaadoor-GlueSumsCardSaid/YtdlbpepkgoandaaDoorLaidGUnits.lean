/- glue's units, as the row lists them, are the table's cells. -/
import Derived.Test.YtdlbpepkgoandaaDoorFlexShow
import Derived.OpenShut
import Derived.Stop.LaidErr
namespace Go.Proofs.YtdlbpepkgoandaaDoor
open Go.RowKit

theorem g_gunits : Tryd.prog.globalNamed "galley/glue.units" = some 0 := by kernel_rfl
theorem g_gunitsType : (Tryd.prog.globals[0]?).map (·.type) = some 93 := by kernel_rfl
theorem gcells_units : Tryd.prog.cellsOf 93 = 4 := by kernel_rfl
theorem gcells_string : Tryd.prog.cellsOf 9 = 1 := by kernel_rfl

set_option maxRecDepth 100000 in
theorem gunits_of_laid {W : World} {rest : List (String × DataW Unit)} (h : laidMet Tryd.prog (("galley/glue.units", Rows.laid_galley_glue_units) :: rest) W) : GUnitsIs W := by
  obtain ⟨ps, ⟨g', t', cs, fuel, p, q, hg', ht', hvar, hd, _, _⟩, _⟩ := h
  obtain rfl := Option.some.inj (g_gunits.symm.trans hg')
  obtain rfl := Option.some.inj (g_gunitsType.symm.trans ht')
  obtain ⟨xs, m, _, hx, hl, hlen, hf⟩ := DataW.trod_array Tryd.underlying93 hd
  rw [gcells_units] at hl
  simp only [gcells_string] at hf
  have hm : xs.map (·.1) = [.lit (.string []), .lit (.string [102, 105, 108]), .lit (.string [102, 105, 108, 108]), .lit (.string [102, 105, 108, 108, 108])] := by
    have := congrArg Prod.fst hx
    simpa [Rows.laid_galley_glue_units] using this.symm
  have hpiece : ∀ i a, (xs.map (·.1))[i]? = some (.lit (.string a)) → (cs.toList.drop (i * 1)).take 1 = [.string ⟨a.toArray⟩] := by
    intro i a hi
    rw [List.getElem?_map, Option.map_eq_some_iff] at hi
    obtain ⟨⟨y, p'⟩, hy, rfl⟩ := hi
    have hlt : i < 4 := by have := (List.getElem?_eq_some_iff.1 hy).1; omega
    have h0 := (hf i hlt).trans hy
    obtain ⟨s, e0, f0, _⟩ := DataW.trod_string Tryd.underlying9 h0
    rw [e0]
    simp only [Prod.mk.injEq] at f0
    have := f0.1
    simp only [DataW.lit.injEq, Lit.string.injEq] at this
    rw [this]
  have hall : cs.toList = gunitCells.toList := by
    have hl' : cs.toList.length = 4 := by simpa using hl
    match hc : cs.toList, hl' with
    | [c0, c1, c2, c3], _ =>
      have h0 := hpiece 0 [] (by rw [hm]; rfl)
      have h1 := hpiece 1 [102, 105, 108] (by rw [hm]; rfl)
      have h2 := hpiece 2 [102, 105, 108, 108] (by rw [hm]; rfl)
      have h3 := hpiece 3 [102, 105, 108, 108, 108] (by rw [hm]; rfl)
      rw [hc] at h0 h1 h2 h3
      simp at h0 h1 h2 h3
      rw [h0, h1, h2, h3]
      rfl
  have hcs : cs = gunitCells := by
    rw [← Array.toList_inj]; exact hall
  unfold World.var? at hvar
  rw [g_gunits] at hvar
  simp only [Option.bind_some] at hvar
  split at hvar
  · rename_i c t fr hh
    cases hvar
    exact ⟨t, fr, by rw [hh, hcs]⟩
  · cases hvar
end Go.Proofs.YtdlbpepkgoandaaDoor
