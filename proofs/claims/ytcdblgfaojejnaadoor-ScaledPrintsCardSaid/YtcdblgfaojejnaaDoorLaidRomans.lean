/- The table of the Roman letters, as the row lists it, is the table's cells. -/
import Derived.Test.YtcdblgfaojejnaaDoorRoman
import Derived.OpenShut
import Derived.Stop.LaidErr
namespace Go.Proofs.YtcdblgfaojejnaaDoor
open Go.RowKit

theorem g_romans : Tryd.prog.globalNamed "galley/scaled.romans" = some 0 := by kernel_rfl
theorem g_romansType : (Tryd.prog.globals[0]?).map (·.type) = some 79 := by kernel_rfl
theorem cells_roman : Tryd.prog.cellsOf 78 = 2 := by kernel_rfl
theorem cells_romans : Tryd.prog.cellsOf 79 = 26 := by kernel_rfl
theorem cells_str' : Tryd.prog.cellsOf 9 = 1 := by kernel_rfl
theorem cells_int' : Tryd.prog.cellsOf 3 = 1 := by kernel_rfl

section
variable {H : Type} {enc : TypeId × Value → H} {w : World} {base : Nat} {sp : Nat → Bool} {held : Bool}
set_option maxRecDepth 100000 in
theorem roman_piece {fuel : Nat} {cs : List Value} {a : List UInt8} {n : Int} {p : List MemPlace}
    (h : DataW.trod enc Tryd.prog w base sp held fuel 78 cs = some (.agg [.lit (.int .i64 n), .lit (.string a)], p)) : cs = [.int .i64 n, .string ⟨a.toArray⟩] := by
  obtain ⟨xs, m, _, hx, hl, hlen, hf⟩ := DataW.trod_struct Tryd.underlying78 h
  rw [cells_roman] at hl
  match xs, hlen with
  | [y0, y1], _ =>
    match cs, hl with
    | [c0, c1], _ =>
      have h0 : DataW.trod enc Tryd.prog w base sp held m 3 [c0] = some y0 := by have := hf 0 _ rfl; simpa [cells_int'] using this
      have h1 : DataW.trod enc Tryd.prog w base sp held m 9 [c1] = some y1 := by have := hf 1 _ rfl; simpa [cells_str'] using this
      obtain ⟨n', e0, f0, _⟩ := DataW.trod_int Tryd.underlying3 h0
      obtain ⟨s, e1, f1, _⟩ := DataW.trod_string Tryd.underlying9 h1
      simp at e0 e1
      subst e0 e1 f0 f1
      simp at hx
      obtain ⟨⟨rfl, rfl⟩, _⟩ := hx
      simp
end
theorem chop' (cs : List Value) (i k : Nat) : cs.drop (i * k) = (cs.drop (i * k)).take k ++ cs.drop ((i + 1) * k) := by
  have h := List.take_append_drop k (cs.drop (i * k))
  rw [List.drop_drop, show i * k + k = (i + 1) * k from by rw [Nat.add_mul, Nat.one_mul]] at h
  exact h.symm

set_option maxRecDepth 100000 in
theorem romans_of_laid {W : World} {rest : List (String × DataW Unit)} (h : laidMet Tryd.prog (("galley/scaled.romans", Rows.laid_galley_scaled_romans) :: rest) W) : RomansIs W := by
  obtain ⟨ps, ⟨g', t', cs, fuel, p, q, hg', ht', hvar, hd, _, _⟩, _⟩ := h
  obtain rfl := Option.some.inj (g_romans.symm.trans hg')
  obtain rfl := Option.some.inj (g_romansType.symm.trans ht')
  obtain ⟨xs, m, _, hx, hl, hlen, hf⟩ := DataW.trod_array Tryd.underlying79 hd
  rw [cells_romans] at hl
  simp only [cells_roman] at hf
  have hm : xs.map (·.1) = romanTab.map fun r => .agg [.lit (.int .i64 r.1), .lit (.string r.2)] := by
    have := congrArg Prod.fst hx
    simpa [Rows.laid_galley_scaled_romans, romanTab] using this.symm
  have hpiece : ∀ i a n, (xs.map (·.1))[i]? = some (.agg [.lit (.int .i64 n), .lit (.string a)]) → (cs.toList.drop (i * 2)).take 2 = [.int .i64 n, .string ⟨a.toArray⟩] := by
    intro i a n hi
    rw [List.getElem?_map, Option.map_eq_some_iff] at hi
    obtain ⟨⟨y, p'⟩, hy, rfl⟩ := hi
    have hlt : i < 13 := by have := (List.getElem?_eq_some_iff.1 hy).1; omega
    exact roman_piece ((hf i hlt).trans hy)
  have hall : cs.toList = romanCells.toList := by
    have c0 := chop' cs.toList 0 2
    rw [Nat.zero_mul, List.drop_zero] at c0
    rw [c0, chop' cs.toList 1 2, chop' cs.toList 2 2, chop' cs.toList 3 2, chop' cs.toList 4 2, chop' cs.toList 5 2, chop' cs.toList 6 2, chop' cs.toList 7 2, chop' cs.toList 8 2, chop' cs.toList 9 2, chop' cs.toList 10 2, chop' cs.toList 11 2, chop' cs.toList 12 2]
    rw [List.drop_of_length_le (i := 13 * 2) (by omega)]
    have h0 := hpiece 0 [109] 1000 (by rw [hm]; rfl)
    rw [Nat.zero_mul, List.drop_zero] at h0
    rw [h0, hpiece 1 [99, 109] 900 (by rw [hm]; rfl), hpiece 2 [100] 500 (by rw [hm]; rfl), hpiece 3 [99, 100] 400 (by rw [hm]; rfl), hpiece 4 [99] 100 (by rw [hm]; rfl), hpiece 5 [120, 99] 90 (by rw [hm]; rfl), hpiece 6 [108] 50 (by rw [hm]; rfl), hpiece 7 [120, 108] 40 (by rw [hm]; rfl), hpiece 8 [120] 10 (by rw [hm]; rfl), hpiece 9 [105, 120] 9 (by rw [hm]; rfl), hpiece 10 [118] 5 (by rw [hm]; rfl), hpiece 11 [105, 118] 4 (by rw [hm]; rfl), hpiece 12 [105] 1 (by rw [hm]; rfl)]
    rfl
  have hcs : cs = romanCells := by
    rw [← Array.toList_inj]; exact hall
  unfold World.var? at hvar
  rw [g_romans] at hvar
  simp only [Option.bind_some] at hvar
  split at hvar
  · rename_i c t fr hh
    cases hvar
    exact ⟨t, fr, by rw [hh, hcs]⟩
  · cases hvar
end Go.Proofs.YtcdblgfaojejnaaDoor
