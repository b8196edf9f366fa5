/- scaled.Roman. -/
import Derived.Test.YtcdblgfaojejnaaDoorRomanMath
import Derived.Test.YtcdblgfaojejnaaDoorBuilder
import Derived.Laws.Rows
namespace Go.Proofs.YtcdblgfaojejnaaDoor
open Go.RowKit

def romanCells : Array Value := #[.int .i64 1000, .string ⟨#[109]⟩, .int .i64 900, .string ⟨#[99, 109]⟩, .int .i64 500, .string ⟨#[100]⟩, .int .i64 400, .string ⟨#[99, 100]⟩, .int .i64 100, .string ⟨#[99]⟩, .int .i64 90, .string ⟨#[120, 99]⟩, .int .i64 50, .string ⟨#[108]⟩, .int .i64 40, .string ⟨#[120, 108]⟩, .int .i64 10, .string ⟨#[120]⟩, .int .i64 9, .string ⟨#[105, 120]⟩, .int .i64 5, .string ⟨#[118]⟩, .int .i64 4, .string ⟨#[105, 118]⟩, .int .i64 1, .string ⟨#[105]⟩]
/-- the table as the row lists it -/
def RomansIs (w : World) : Prop := ∃ t fr, w.heap[0]? = some (.cells romanCells t fr)
theorem RomansIs.kept {w w' : World} (h : RomansIs w) (k : Kept w w') : RomansIs w' := by
  obtain ⟨t, fr, h⟩ := h
  exact ⟨t, fr, by rw [k.block _ (Array.getElem?_eq_some_iff.1 h).1]; exact h⟩
def romAt (k : Nat) : Nat × List UInt8 := romanTab.getD k (1, [])
theorem rom_index (k : Nat) (hk : k < 13) (w : World) : (Instr.index 79 (.agg romanCells) (.int .i64 k)).run Tryd.prog w = .ok (.agg #[.int .i64 (romAt k).1, .string ⟨(romAt k).2.toArray⟩]) w := by
  have h : k = 0 ∨ k = 1 ∨ k = 2 ∨ k = 3 ∨ k = 4 ∨ k = 5 ∨ k = 6 ∨ k = 7 ∨ k = 8 ∨ k = 9 ∨ k = 10 ∨ k = 11 ∨ k = 12 := by omega
  rcases h with rfl | rfl | rfl | rfl | rfl | rfl | rfl | rfl | rfl | rfl | rfl | rfl | rfl
  all_goals (refine Eq.trans (b := Result.ok _ w) ?_ rfl; kernel_rfl)
theorem rom_drop (k : Nat) (hk : k < 13) : romanTab.drop k = romAt k :: romanTab.drop (k + 1) := by
  have h : k < romanTab.length := hk
  rw [List.drop_eq_getElem_cons h]
  congr 1
  unfold romAt
  rw [List.getD_eq_getElem?_getD, List.getElem?_eq_getElem h]; rfl
theorem rom_pos : ∀ k : Fin 13, 1 ≤ (romAt k.val).1 ∧ (romAt k.val).1 ≤ 1000 ∧ (romAt k.val).2.length ≤ 2 := by decide

set_option maxHeartbeats 4000000 in
theorem roman_in (n : Nat) (w : World) (n0 : 1 ≤ n) (n1 : n ≤ 20000) (hr : RomansIs w) :
    Calls Tryd.prog 34 #[.int .i64 n] w fun e w' => e = .returned (.string ⟨(romanL n).toArray⟩) ∧ Kept w w' := by
  obtain ⟨tt, fr, hg⟩ := hr
  have hgl := (Array.getElem?_eq_some_iff.1 hg).1
  have hg1 : (w.alloc (.cells #[.pointer none, .slice none 0 0] 69)).heap[0]? = some (.cells romanCells tt fr) := by
    rw [Below.heap_alloc _ _ _ hgl]; exact hg
  have hb0 := IsB.fresh w
  have kb : Below w.heap.size w (w.alloc (.cells #[.pointer none, .slice none 0 0] 69)) := (Below.refl _ _).alloc (Nat.le_refl _) _
  have hz1 : (w.alloc (.cells #[.pointer none, .slice none 0 0] 69)).heap.size = w.heap.size + 1 := by simp
  have Hlen := Lib.hid (romanL_length n n1)
  go_enter Tryd.func34, Tryd.ntmps34
  go_wp2_with (refine wpList_load_row rfl 79 _ rfl 0 rfl tt _ fr _ hg1 Tryd.underlying79 rfl (by kernel_rfl) ?_)
  generalize w.alloc (.cells #[.pointer none, .slice none 0 0] 69) = W1 at *
  clear hg hg1 hgl
  have z1 : w.heap.size ≤ W1.heap.size := by omega
  clear hz1
  go_loopw [0, 13] (fun x i wr => ∃ (m k : Nat) (D : List UInt8), m ≤ 20000 ∧ k ≤ 13 ∧ x = .int .i64 m ∧ i = .int .i64 k ∧ Hid (D ++ greedy (romanTab.drop k) m = romanL n) ∧ IsB w.heap.size w.heap.size D wr ∧ Below w.heap.size w wr) (fun _ i _ => 13 - (intOf i).toNat)
  case atStart => exact ⟨n, 0, [], n1, by omega, rfl, rfl, Lib.hid rfl, hb0, kb⟩
  case round =>
    obtain ⟨m, k, D, hm, hk, rfl, rfl, hD, hB, hW⟩ := hrel
    obtain ⟨wo, rfl⟩ : ∃ wo : World, wo = wr := ⟨_, rfl⟩
    clear hb0 kb z1
    have hzr : w.heap.size ≤ wo.heap.size := by have := hW.size; omega
    by_cases hlt : k < 13
    · have hix : ∀ w, (Instr.index 79 (.agg romanCells) (.int .i64 k)).run Tryd.prog w = _ := fun w => rom_index k hlt w
      obtain ⟨v0, v1, l2⟩ := rom_pos ⟨k, hlt⟩
      have hdrop := rom_drop k hlt
      simp only at v0 v1 l2
      have hmore : ∀ x, (romAt k).1 ≤ x → greedy (romanTab.drop k) x = (romAt k).2 ++ greedy (romanTab.drop k) (x - (romAt k).1) := fun x hx => by
        rw [hdrop]; exact greedy_more v0 hx
      have hnext : ∀ x, x < (romAt k).1 → greedy (romanTab.drop k) x = greedy (romanTab.drop (k + 1)) x := fun x hx => by
        rw [hdrop]; exact greedy_next hx
      generalize (romAt k).1 = v at *
      generalize (romAt k).2 = l at *
      have Hmore := Lib.hid hmore
      have Hnext := Lib.hid hnext
      clear hmore hnext hdrop
      have hW1 : Below w.heap.size w (wo.alloc (.cells #[.int .i64 v, .string ⟨l.toArray⟩] 78)) := hW.alloc hzr _
      have hB1 : IsB w.heap.size w.heap.size D (wo.alloc (.cells #[.int .i64 v, .string ⟨l.toArray⟩] 78)) := hB.kept ((Below.refl _ _).alloc (Nat.le_refl _) _)
      have hbk : (wo.alloc (.cells #[.int .i64 v, .string ⟨l.toArray⟩] 78)).heap[wo.heap.size]? = some (.cells #[.int .i64 v, .string ⟨l.toArray⟩] 78 (0, 0)) := by simp only [World.alloc, Array.getElem?_push_size]
      have hne : wo.heap.size ≠ w.heap.size := by have := hB.elim (fun h => h.lt) (fun h => h.lt); omega
      have hk13 : decide ((k : Int) < 13) = true := by simp; omega
      go_wp2
      generalize hwi : wo.alloc (.cells #[.int .i64 v, .string ⟨l.toArray⟩] 78) = wi at *
      have Hwi := Lib.hid hwi
      clear hwi
      go_loopw [0] (fun x wj => ∃ (m' : Nat) (D' : List UInt8), m' ≤ m ∧ x = .int .i64 m' ∧ Hid (D' ++ greedy (romanTab.drop k) m' = romanL n) ∧ IsB w.heap.size w.heap.size D' wj ∧ Below w.heap.size w wj ∧ wj.heap[wo.heap.size]? = some (.cells #[.int .i64 v, .string ⟨l.toArray⟩] 78 (0, 0))) (fun x _ => (intOf x).toNat)
      case atStart => exact ⟨m, D, Nat.le_refl _, rfl, hD, hB1, hW1, hbk⟩
      case round =>
        obtain ⟨m', D', hm', rfl, hD', hB', hW', hbk'⟩ := hrel
        clear hbk hB1 hW1
        have hzj : w.heap.size ≤ _ := hW'.size
        have hc0 := Lib.cell_of_heap hbk' 0
        have hc1 := Lib.cell_of_heap hbk' 1
        simp only [List.getElem?_toArray, List.getElem?_cons_zero, List.getElem?_cons_succ] at hc0 hc1
        have hlD : D'.length ≤ 32 := by
          have := congrArg List.length hD'.out
          have := Hlen.out
          simp at *; omega
        by_cases hge : v ≤ m'
        · have Hst := Lib.hid (Hmore.out m' hge)
          have hsz : (ByteArray.mk l.toArray).size ≤ 2 := by rw [Lib.size_eq]; simpa using l2
          go_wp2_with (fail)
          refine (writeString_k w.heap.size w.heap.size D' _ _ hB' (by omega) hzj).mono ?_
          rintro e w3 ⟨rfl, hB3, hW3, hO3⟩
          have hbk3 : w3.heap[wo.heap.size]? = some (.cells #[.int .i64 v, .string ⟨l.toArray⟩] 78 (0, 0)) := hO3 _ _ hbk' (fun e => hne (by injection e)) (fun _ _ e => by injection e with e1 e2; revert e2; decide)
          have hd0 := Lib.cell_of_heap hbk3 0
          simp only [List.getElem?_toArray, List.getElem?_cons_zero, List.getElem?_cons_succ] at hd0
          have hsub : ((m' : Int) - v) = ((m' - v : Nat) : Int) := by omega
          have Hsub := Lib.hid hsub
          clear hsub
          go_wp2
          go_roundw
          case rel =>
            first
              | exact ⟨m' - v, _, by omega, by rw [Hsub.out], Lib.hid (by rw [← hD'.out, Hst.out, List.append_assoc]), hB3, hW'.trans hW3, hbk3⟩
              | ((repeat apply Exists.intro)
                 exact ⟨⟨m' - v, _, by omega, by rw [Hsub.out], Lib.hid (by rw [← hD'.out, Hst.out, List.append_assoc]), hB3, hW'.trans hW3, hbk3⟩, rfl⟩)
          case measure => simp [intOf]; omega
        · have hlt' : (m' : Int) < v := by omega
          have Hnx := Lib.hid (Hnext.out m' (by omega))
          go_wp2
          go_roundw
          case rel => exact ⟨m', k + 1, D', by omega, by omega, rfl, by go_num, Lib.hid (by rw [← hD'.out, Hnx.out]), hB', hW'⟩
          case measure => simp [intOf]; omega
    · obtain rfl : k = 13 := by omega
      have hfin : D = romanL n := by rw [← hD.out]; simp [romanTab, greedy]
      have Hfin := Lib.hid hfin
      clear hfin
      go_wp2_with (fail)
      refine (Tryd.Builder_String_any w.heap.size w.heap.size D _ hB hzr).mono ?_
      rintro e w7 ⟨rfl, k7⟩
      go_wp2
      go_ret
      exact ⟨by rw [Hfin.out]; rfl, hW.trans k7⟩

theorem roman_any (n : Int) (w : World) (hr : RomansIs w) :
    Calls Tryd.prog 34 #[.int .i64 n] w fun e w' => e = .returned (.string ⟨(if 1 ≤ n ∧ n ≤ 20000 then romanL n.toNat else []).toArray⟩) ∧ Kept w w' := by
  by_cases h : 1 ≤ n ∧ n ≤ 20000
  · rw [if_pos h]
    obtain ⟨m, rfl⟩ : ∃ m : Nat, n = m := ⟨n.toNat, by omega⟩
    exact roman_in m w (by omega) (by omega) hr
  · rw [if_neg h]
    by_cases h1 : n < 1
    · clear h
      go_enter Tryd.func34, Tryd.ntmps34
      go_wp2
      go_ret
      exact ⟨rfl, Kept.refl _⟩
    · have h2 : 20000 < n := by omega
      clear h
      go_enter Tryd.func34, Tryd.ntmps34
      go_wp2
      go_ret
      exact ⟨rfl, Kept.refl _⟩
end Go.Proofs.YtcdblgfaojejnaaDoor
