/- font.rising, withoutZero, behindZero: rows of numbers that the call itself made. -/
import Derived.Test.YtdhidpbenhmfgaaGreatShelf
import Derived.Test.YtdhidpbenhmfgaaGreatFDefs
import Derived.Sort.OwnSortedInts
import Derived.OwnWalk
import Derived.Laws.AppendOwnNone
import Derived.Shelf.SlicesE.DeleteFunc
namespace Go.Proofs.YtdhidpbenhmfgaaGreat
open Go.RowKit Go.Sort Go.Shelf Go.Lib

abbrev IRow (w : World) (B : Nat) (v : Value) (xs : List Int) : Prop := w.ownsRow B 3 1 v xs.length (xs.map (Value.int .i64))

theorem grown_trans {a b c : World} {row : Option Nat} (h : a.grownBy b row) (k : b.grownBy c row) : a.grownBy c row :=
  ⟨k.os.trans h.os, k.tape.trans h.tape, k.output.trans h.output, Nat.le_trans h.size k.size, fun i hi hne => (k.block i (Nat.lt_of_lt_of_le hi h.size) hne).trans (h.block i hi hne)⟩
theorem grown_none {a b : World} {row : Option Nat} (h : a.grownBy b none) : a.grownBy b row := ⟨h.os, h.tape, h.output, h.size, fun i hi _ => h.block i hi (by simp)⟩
theorem grown_kept {a b : World} {row : Option Nat} (h : Kept a b) : a.grownBy b row := ⟨h.os, h.tape, h.output, h.size, fun i hi _ => h.block i hi⟩
theorem grown_new {a b c : World} {row : Option Nat} (h : a.grownBy b row) {g : Nat} (k : b.grownBy c (some g)) (hg : a.heap.size ≤ g) : a.grownBy c row :=
  ⟨k.os.trans h.os, k.tape.trans h.tape, k.output.trans h.output, Nat.le_trans h.size k.size, fun i hi hne => (k.block i (Nat.lt_of_lt_of_le hi h.size) (by intro e; cases e; omega)).trans (h.block i hi hne)⟩

/-- rising, each once -/
def risingL (xs : List Int) : List Int := Lib.compact (xs.mergeSort fun x y => decide (x ≤ y))
theorem rising_nil : risingL [] = [] := by unfold risingL; rw [List.mergeSort_nil]; rfl

theorem compact_le (l : List Int) : (Lib.compact l).length ≤ l.length := by
  unfold Lib.compact
  have : ∀ (d : Array Int) (m : Nat), (compactUpTo d m).length ≤ m := fun d m => by
    unfold compactUpTo
    rw [List.length_map]
    exact Nat.le_trans (List.length_filter_le _ _) (by simp)
  simpa using this l.toArray l.toArray.size

set_option maxHeartbeats 2000000 in
theorem rising_own (w : World) (B : Nat) (v : Value) (xs : List Int) (h : IRow w B v xs) (hx : xs.length ≤ 256) :
    Calls Tryz.prog 54 #[v] w fun e w' => ∃ v', e = .returned v' ∧ IRow w' B v' (risingL xs) ∧ v'.ownBlock = v.ownBlock ∧ w.grownBy w' v.ownBlock := by
  rcases h.2 with ⟨rfl, hn⟩ | ⟨g, cap, cur, rfl, hbase, hb, h1, h2, h3, h4⟩
  · obtain rfl : xs = [] := List.length_eq_zero_iff.1 hn
    have hs := fun w => Lib.hid (Tryz.slices_Sort_int_none none 0 w)
    have hc := fun w => Lib.hid (Tryz.slices_Compact_int_empty none 0 w)
    clear h
    go_enter Tryz.func54, Tryz.ntmps54
    go_wp2_with (fail)
    refine (hs _).out.mono ?_
    rintro e w1 ⟨rfl, rfl⟩
    go_wp2_with (fail)
    refine (hc _).out.mono ?_
    rintro e w1 ⟨rfl, rfl⟩
    go_wp2_with (fail)
    go_ret
    rw [rising_nil]
    exact ⟨_, rfl, World.ownsRow_nil _ _ _ _, rfl, World.grownBy.refl _ _⟩
  · have hg : g < w.heap.size := (Array.getElem?_eq_some_iff.1 hb).1
    rw [Nat.mul_one] at h4
    have hl1 : (xs.mergeSort fun x y => decide (x ≤ y)).length = xs.length := List.length_mergeSort _
    obtain ⟨ys, hys⟩ : ∃ ys, ys = xs.mergeSort fun x y => decide (x ≤ y) := ⟨_, rfl⟩
    rw [← hys] at hl1
    have hs := Lib.hid (Tryz.slices_Sort_int g 0 cap xs w (holds_of_blockI hb h4) hg (by omega))
    rw [← hys] at hs
    have hr : risingL xs = Lib.compact ys := by unfold risingL; rw [← hys]
    have hc : ∀ n os, Hid (Calls Tryz.prog 67 #[.slice (some ⟨g, 0, none⟩) xs.length cap] (grow (putRow (Value.int .i64) (Sort.ahead w n) g 0 ys.toArray) os) fun e w' => ∃ v', e = .returned v' ∧ IRow w' B v' (Lib.compact ys) ∧ v'.ownBlock = some g ∧ w.grownBy w' (some g)) := fun n os => by
      unfold Hid
      have hb1 := heap_sortedI (n := n) (os := os) ys.toArray hb
      have ht : (putCells (Value.int .i64) 0 ys.toArray cur).toList.take ys.length = ys.map (Value.int .i64) := take_putCellsI cur ys (by omega)
      have hcc := Tryz.slices_Compact_int g 0 cap ys _ (holds_of_blockI hb1 ht) (by omega) (by omega)
      rw [hl1] at hcc
      refine hcc.mono ?_
      rintro e w' ⟨rfl, q, rfl⟩
      obtain ⟨zs, hz⟩ : ∃ zs, zs = Lib.compact ys ++ List.replicate (xs.length - (Lib.compact ys).length) 0 := ⟨_, rfl⟩
      have hle := compact_le ys
      have hzl : zs.length = xs.length := by rw [hz]; simp; omega
      have hb2 := heap_sortedI (n := q) (os := #[]) zs.toArray hb1
      rw [grow_empty] at hb2
      rw [← hz]
      refine ⟨_, rfl, ⟨by simp, .inr ⟨g, cap, _, rfl, hbase, hb2, by omega, h2, by simp [putCells, h3], ?_⟩⟩, rfl, ?_⟩
      · have h5 := take_putCellsI (putCells (Value.int .i64) 0 ys.toArray cur) zs (by simp [putCells]; omega)
        rw [Nat.mul_one, show (Lib.compact ys).length = min (Lib.compact ys).length zs.length by omega, ← List.take_take, h5, hz, ← List.map_take, List.take_left']
        rfl
      · have k1 := grownBy_sortedI (w := w) (g := g) (n := n) (os := os) ys.toArray
        have k2 := grownBy_sortedI (w := grow (putRow (Value.int .i64) (Sort.ahead w n) g 0 ys.toArray) os) (g := g) (n := q) (os := #[]) zs.toArray
        rw [grow_empty] at k2
        exact grown_trans k1 k2
    rw [hr]
    clear hr hys hl1 h hb h4 h3 h2 h1 hg
    generalize Lib.compact ys = zs at *
    go_enter Tryz.func54, Tryz.ntmps54
    go_wp2_with (fail)
    refine hs.out.mono ?_
    rintro e w1 ⟨rfl, n, os, rfl⟩
    go_wp2_with (fail)
    refine (hc n os).out.mono ?_
    rintro e w2 ⟨v', rfl, hrow, hob, hgr⟩
    go_wp2_with (fail)
    go_ret
    exact ⟨_, rfl, hrow, hob, hgr⟩

theorem isZero_gives (x : Int) (W : World) : FnGives Tryz.prog 69 #[] #[.int .i64 x] (.bool (x == 0)) W := by
  show Calls Tryz.prog 69 #[.int .i64 x] W _
  go_enter Tryz.func69, Tryz.ntmps69
  go_wp2
  go_ret
  exact ⟨rfl, 0, rfl⟩

def noZero (xs : List Int) : List Int := xs.filter fun x => !(x == 0)

set_option maxHeartbeats 2000000 in
theorem deleteFunc_nil (w : World) : Calls Tryz.prog 68 #[.slice none 0 0, .func (.func 69) #[] #[]] w fun e w' => e = .returned (.slice none 0 0) ∧ w' = w := by
  have hI := fun w => Lib.hid (Tryz.slices_IndexFunc_empty (α := Int) none 0 (.func (.func 69) #[] #[]) w)
  go_enter Tryz.func68, Tryz.ntmps68
  go_wp2_with (fail)
  refine (hI _).out.mono ?_
  rintro e w1 ⟨rfl, rfl⟩
  go_wp2_with (fail)
  go_ret
  exact ⟨rfl, rfl⟩

set_option maxHeartbeats 2000000 in
theorem withoutZero_own (w : World) (B : Nat) (v : Value) (xs : List Int) (h : IRow w B v xs) (hx : xs.length ≤ 256) :
    Calls Tryz.prog 55 #[v] w fun e w' => ∃ v', e = .returned v' ∧ IRow w' B v' (noZero xs) ∧ v'.ownBlock = v.ownBlock ∧ w.grownBy w' v.ownBlock := by
  rcases h.2 with ⟨rfl, hn⟩ | ⟨g, cap, cur, rfl, hbase, hb, h1, h2, h3, h4⟩
  · obtain rfl : xs = [] := List.length_eq_zero_iff.1 hn
    have hd := fun w => Lib.hid (deleteFunc_nil w)
    clear h
    go_enter Tryz.func55, Tryz.ntmps55
    go_wp2_with (fail)
    refine (hd _).out.mono ?_
    rintro e w1 ⟨rfl, rfl⟩
    go_wp2_with (fail)
    go_ret
    exact ⟨_, rfl, World.ownsRow_nil _ _ _ _, rfl, World.grownBy.refl _ _⟩
  · have hg : g < w.heap.size := (Array.getElem?_eq_some_iff.1 hb).1
    rw [Nat.mul_one] at h4
    have eg : ∀ args w, (callFunc 69 args).run Tryz.prog w = .ok (.enter 69 args) w := enters_of Tryz.func69 (by kernel_rfl) rfl
    have hd := Tryz.slices_DeleteFunc (Value.int .i64) (fun _ => rfl) (fun x : Int => x == 0) 69 #[] eg 0 Tryz.zeroValue3 g 0 cap xs.toArray w (fun W x _ => isZero_gives x W) (fun _ _ _ x _ => isZero_gives x _) (holds_of_blockI hb h4) (by simp; omega) (by simpa using h1)
    have hc : Hid (Calls Tryz.prog 68 #[.slice (some ⟨g, 0, none⟩) xs.length cap, .func (.func 69) #[] #[]] w fun e w' => ∃ v', e = .returned v' ∧ IRow w' B v' (noZero xs) ∧ v'.ownBlock = some g ∧ w.grownBy w' (some g)) := by
      unfold Hid
      refine hd.mono ?_
      rintro e w' ⟨rfl, q, rfl⟩
      have e0 : (xs.toArray.toList.filter fun x => !(x == 0)) = noZero xs := rfl
      rw [e0]
      obtain ⟨zs, hz⟩ : ∃ zs, zs = noZero xs ++ List.replicate (xs.toArray.size - (noZero xs).length) 0 := ⟨_, rfl⟩
      have hle : (noZero xs).length ≤ xs.length := List.length_filter_le _ _
      have hzl : zs.length = xs.length := by rw [hz]; simp; omega
      have hb2 := heap_sortedI (n := q) (os := #[]) zs.toArray hb
      rw [grow_empty] at hb2
      rw [← hz]
      refine ⟨_, rfl, ⟨by simp, .inr ⟨g, cap, _, rfl, hbase, hb2, by omega, h2, by simp [putCells, h3], ?_⟩⟩, rfl, ?_⟩
      · have h5 := take_putCellsI cur zs (by omega)
        rw [Nat.mul_one, show (noZero xs).length = min (noZero xs).length zs.length by omega, ← List.take_take, h5, hz, ← List.map_take, List.take_left']
        rfl
      · have k2 := grownBy_sortedI (w := w) (g := g) (n := q) (os := #[]) zs.toArray
        rw [grow_empty] at k2
        exact k2
    clear hd h hb h4 h3 h2 h1 hg eg
    generalize noZero xs = zs at *
    go_enter Tryz.func55, Tryz.ntmps55
    go_wp2_with (fail)
    refine hc.out.mono ?_
    rintro e w2 ⟨v', rfl, hrow, hob, hgr⟩
    go_wp2_with (fail)
    go_ret
    exact ⟨_, rfl, hrow, hob, hgr⟩

theorem infoInt : (Tryz.prog.info? 3).map (fun i => (i.zero, i.size, i.bytes)) = some (some (.int .i64 0), 1, 8) := by kernel_rfl

theorem one_owns (w : World) (z : Int) (B : Nat) (hB : B ≤ w.heap.size) : IRow (w.alloc (.cells #[.int .i64 z] 3)) B (.slice (some ⟨w.heap.size, 0, none⟩) 1 1) [z] :=
  ⟨rfl, .inr ⟨w.heap.size, 1, _, rfl, hB, mkobj _ _, Nat.le_refl _, by unfold maxLen; omega, rfl, rfl⟩⟩

set_option maxHeartbeats 2000000 in
theorem behindZero_own (w : World) (B : Nat) (v : Value) (xs : List Int) (h : IRow w B v xs) (hx : xs.length ≤ 256) (hB : B ≤ w.heap.size) :
    Calls Tryz.prog 53 #[v] w fun e w' => ∃ v', e = .returned v' ∧ IRow w' B v' (0 :: xs) ∧ (∃ g, v'.ownBlock = some g ∧ w.heap.size ≤ g) ∧ Kept w w' := by
  obtain ⟨i0, hi, hz0, hz1, hz2⟩ := info_parts infoInt
  have hone := one_owns w 0 w.heap.size (Nat.le_refl _)
  have hk0 := walloc w (.cells #[.int .i64 0] 3)
  rcases h.2 with ⟨rfl, hn⟩ | ⟨g, cap, cur, rfl, hbase, hb, h1, h2, h3, h4⟩
  · obtain rfl : xs = [] := List.length_eq_zero_iff.1 hn
    clear h
    go_enter Tryz.func53, Tryz.ntmps53
    go_wp2_with (at_builtin; refine wpList_append_own_none _ rfl _ _ 25 rfl w.heap.size 3 i0 1 Tryz.underlying25 hi _ 1 _ rfl hone rfl ?_)
    go_ret
    exact ⟨_, rfl, one_owns w 0 B hB, ⟨_, rfl, Nat.le_refl _⟩, hk0⟩
  · have hcell : ∀ j u, (xs.map (Value.int .i64))[j]? = some u → (w.alloc (.cells #[.int .i64 0] 3)).cell? ((⟨g, 0, none⟩ : Addr).add j) = some u := (h.alloc _).cells rfl
    clear h hb h4 h3 hbase
    go_enter Tryz.func53, Tryz.ntmps53
    go_wp2_with (at_builtin; refine wpList_append_own _ rfl _ _ 25 rfl w.heap.size 3 i0 (.int .i64 0) 1 8 Tryz.underlying25 hi hz0 hz1 hz2 rfl (by decide) _ 1 _ rfl hone ⟨g, 0, none⟩ xs.length cap (xs.map (Value.int .i64)) rfl ?c1 hcell ?c2 ?c3 ?c4 ?c5 ?_)
    case c1 => simp
    case c2 => intro u hu; obtain ⟨z, _, rfl⟩ := List.mem_map.1 hu; rfl
    case c3 => unfold maxLen; omega
    case c4 => omega
    case c5 => simp
    intro v' w1 hown hgr _
    go_wp2_with (fail)
    go_ret
    have hr : IRow w1 w.heap.size v' (0 :: xs) := by
      unfold IRow
      rw [show (0 :: xs).length = 1 + xs.length by simp; omega]
      exact hown
    have hnn : ∃ g, v'.ownBlock = some g ∧ w.heap.size ≤ g := by
      rcases hr.2 with ⟨_, h0⟩ | ⟨g', cap', cur', rfl, hb', _⟩
      · simp at h0
      · exact ⟨g', rfl, hb'⟩
    exact ⟨_, rfl, ⟨hr.1, hr.2.imp id fun ⟨g', cap', cur', e, hb', q⟩ => ⟨g', cap', cur', e, Nat.le_trans hB hb', q⟩⟩, hnn, hk0.grown hgr hk0.size (fun k e => by cases e; exact Nat.le_refl _)⟩
end Go.Proofs.YtdhidpbenhmfgaaGreat
