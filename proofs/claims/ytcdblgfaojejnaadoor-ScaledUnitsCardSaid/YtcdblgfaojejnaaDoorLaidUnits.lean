/- The units' table, as the row lists it, is the table's cells. -/
import Derived.Test.YtcdblgfaojejnaaDoorMeasure
import Derived.OpenShut
namespace Go.Proofs.YtcdblgfaojejnaaDoor
open Go.RowKit

theorem g_units : Tryd.prog.globalNamed "galley/scaled.units" = some 1 := by kernel_rfl
theorem g_unitsType : (Tryd.prog.globals[1]?).map (·.type) = some 90 := by kernel_rfl
theorem cells_unit : Tryd.prog.cellsOf 57 = 3 := by kernel_rfl
theorem cells_units : Tryd.prog.cellsOf 90 = 27 := by kernel_rfl
theorem cells_string : Tryd.prog.cellsOf 9 = 1 := by kernel_rfl
theorem cells_int : Tryd.prog.cellsOf 3 = 1 := by kernel_rfl

section
variable {H : Type} {enc : TypeId × Value → H} {w : World} {base : Nat} {sp : Nat → Bool} {held : Bool}
set_option maxRecDepth 100000 in
theorem unit_piece {fuel : Nat} {cs : List Value} {a : List UInt8} {n d : Int} {p : List MemPlace}
    (h : DataW.trod enc Tryd.prog w base sp held fuel 57 cs = some (.agg [.lit (.string a), .lit (.int .i64 n), .lit (.int .i64 d)], p)) : cs = [.string ⟨a.toArray⟩, .int .i64 n, .int .i64 d] := by
  obtain ⟨xs, m, _, hx, hl, hlen, hf⟩ := DataW.trod_struct Tryd.underlying57 h
  rw [cells_unit] at hl
  match xs, hlen with
  | [y0, y1, y2], _ =>
    match cs, hl with
    | [c0, c1, c2], _ =>
      have h0 : DataW.trod enc Tryd.prog w base sp held m 9 [c0] = some y0 := by have := hf 0 _ rfl; simpa [cells_string] using this
      have h1 : DataW.trod enc Tryd.prog w base sp held m 3 [c1] = some y1 := by have := hf 1 _ rfl; simpa [cells_int] using this
      have h2 : DataW.trod enc Tryd.prog w base sp held m 3 [c2] = some y2 := by have := hf 2 _ rfl; simpa [cells_int] using this
      obtain ⟨s, e0, f0, _⟩ := DataW.trod_string Tryd.underlying9 h0
      obtain ⟨n', e1, f1, _⟩ := DataW.trod_int Tryd.underlying3 h1
      obtain ⟨d', e2, f2, _⟩ := DataW.trod_int Tryd.underlying3 h2
      simp at e0 e1 e2
      subst e0 e1 e2 f0 f1 f2
      simp at hx
      obtain ⟨⟨rfl, rfl, rfl⟩, _⟩ := hx
      simp
end
theorem chop (cs : List Value) (i k : Nat) : cs.drop (i * k) = (cs.drop (i * k)).take k ++ cs.drop ((i + 1) * k) := by
  have h := List.take_append_drop k (cs.drop (i * k))
  rw [List.drop_drop, show i * k + k = (i + 1) * k from by rw [Nat.add_mul, Nat.one_mul]] at h
  exact h.symm

set_option maxRecDepth 100000 in
theorem units_of_laid {W : World} {rest : List (String × DataW Unit)} (h : laidMet Tryd.prog (("galley/scaled.units", Rows.laid_galley_scaled_units) :: rest) W) : UnitsIs W := by
  obtain ⟨ps, ⟨g', t', cs, fuel, p, q, hg', ht', hvar, hd, _, _⟩, _⟩ := h
  obtain rfl := Option.some.inj (g_units.symm.trans hg')
  obtain rfl := Option.some.inj (g_unitsType.symm.trans ht')
  obtain ⟨xs, m, _, hx, hl, hlen, hf⟩ := DataW.trod_array Tryd.underlying90 hd
  rw [cells_units] at hl
  simp only [cells_unit] at hf
  have hm : xs.map (·.1) = [.agg [.lit (.string [112, 116]), .lit (.int .i64 1), .lit (.int .i64 1)], .agg [.lit (.string [105, 110]), .lit (.int .i64 7227), .lit (.int .i64 100)], .agg [.lit (.string [112, 99]), .lit (.int .i64 12), .lit (.int .i64 1)], .agg [.lit (.string [99, 109]), .lit (.int .i64 7227), .lit (.int .i64 254)], .agg [.lit (.string [109, 109]), .lit (.int .i64 7227), .lit (.int .i64 2540)], .agg [.lit (.string [98, 112]), .lit (.int .i64 7227), .lit (.int .i64 7200)], .agg [.lit (.string [100, 100]), .lit (.int .i64 1238), .lit (.int .i64 1157)], .agg [.lit (.string [99, 99]), .lit (.int .i64 14856), .lit (.int .i64 1157)], .agg [.lit (.string [115, 112]), .lit (.int .i64 0), .lit (.int .i64 0)]] := by
    have := congrArg Prod.fst hx
    simpa [Rows.laid_galley_scaled_units] using this.symm
  have hpiece : ∀ i a n d, (xs.map (·.1))[i]? = some (.agg [.lit (.string a), .lit (.int .i64 n), .lit (.int .i64 d)]) → (cs.toList.drop (i * 3)).take 3 = [.string ⟨a.toArray⟩, .int .i64 n, .int .i64 d] := by
    intro i a n d hi
    rw [List.getElem?_map, Option.map_eq_some_iff] at hi
    obtain ⟨⟨y, p'⟩, hy, rfl⟩ := hi
    have hlt : i < 9 := by have := (List.getElem?_eq_some_iff.1 hy).1; omega
    exact unit_piece ((hf i hlt).trans hy)
  have hall : cs.toList = unitCells.toList := by
    have c0 := chop cs.toList 0 3
    rw [Nat.zero_mul, List.drop_zero] at c0
    rw [c0, chop cs.toList 1 3, chop cs.toList 2 3, chop cs.toList 3 3, chop cs.toList 4 3, chop cs.toList 5 3, chop cs.toList 6 3, chop cs.toList 7 3, chop cs.toList 8 3]
    rw [List.drop_of_length_le (i := 9 * 3) (by omega)]
    have h0 := hpiece 0 [112, 116] 1 1 (by rw [hm]; rfl)
    rw [Nat.zero_mul, List.drop_zero] at h0
    rw [h0, hpiece 1 [105, 110] 7227 100 (by rw [hm]; rfl), hpiece 2 [112, 99] 12 1 (by rw [hm]; rfl), hpiece 3 [99, 109] 7227 254 (by rw [hm]; rfl), hpiece 4 [109, 109] 7227 2540 (by rw [hm]; rfl), hpiece 5 [98, 112] 7227 7200 (by rw [hm]; rfl), hpiece 6 [100, 100] 1238 1157 (by rw [hm]; rfl), hpiece 7 [99, 99] 14856 1157 (by rw [hm]; rfl), hpiece 8 [115, 112] 0 0 (by rw [hm]; rfl)]
    rfl
  have hcs : cs = unitCells := by
    rw [← Array.toList_inj]; exact hall
  unfold World.var? at hvar
  rw [g_units] at hvar
  simp only [Option.bind_some] at hvar
  split at hvar
  · rename_i c t fr hh
    cases hvar
    exact ⟨t, fr, by rw [hh, hcs]⟩
  · cases hvar
end Go.Proofs.YtcdblgfaojejnaaDoor
