/- Kinds OpN NFt NodSp. -/
import Derived.Test.YtcncfmjfgdbfeabM0
import Derived.Deep.Slices
import Derived.Carry
import Derived.OpenShut
import Derived.Test.YtcncfmjfgdbfeabM45
import Derived.SizedLaws
import Derived.Test.YtcncfmjfgdbfeabM38
import Derived.Test.YtcncfmjfgdbfeabM10
namespace Go.Proofs.Ytcncfmjfgdbfeab
open Go.ChangeShapes Go.WideShapes Go.ChangeAt Go.RowKit Go.Deep
def kindAt (P : Program) : Nat → TypeId → Nat → Option IntKind
 | 0, _, _ => none
 | k + 1, t, j => match P.underlying t with
  | some (.int ik) => if j = 0 ∧ P.cellsOf t = 1 then some ik else none
  | some (.struct fs) => (fs.toList.find? fun f => decide (f.offset ≤ j) && decide (j < f.offset + P.cellsOf f.type)).bind fun f => kindAt P k f.type (j - f.offset)
  | some (.array n e) => if 0 < P.cellsOf e ∧ j / P.cellsOf e < n then kindAt P k e (j % P.cellsOf e) else none
  | _ => none
def kindsIn (P : Program) : Nat → TypeId → Bool
 | 0, _ => false
 | k + 1, t => match P.underlying t with
  | some (.int _) => true
  | some (.struct fs) => fs.toList.all fun f => kindsIn P k f.type
  | some (.array _ e) => kindsIn P k e
  | _ => false
section
variable {H : Type} {enc : TypeId × Value → H} {P : Program} {w : World} {base : Nat} {spare : Nat → Bool} {held : Bool}
theorem cut_get {cs : List Value} {o c j : Nat} (h1 : o ≤ j) (h2 : j < o + c) : ((cs.drop o).take c)[j - o]? = cs[j]? := by
 rw [List.getElem?_take, if_pos (by omega), List.getElem?_drop]
 congr 1; omega
theorem kind_open : ∀ (k : Nat) {t : TypeId} {fuel : Nat} {cs : List Value} {x : DataW H × List MemPlace} {j : Nat} {ik : IntKind}, DataW.trod enc P w base spare held fuel t cs = some x → kindAt P k t j = some ik →
  ∃ z, cs[j]? = some (.int ik z) ∧ (Lit.int ik z).wf = true := by
 intro k
 induction k with
 | zero => intro t fuel cs x j ik _ h; simp [kindAt] at h
 | succ k ih =>
  intro t fuel cs x j ik hx h
  unfold kindAt at h
  split at h
  ·rename_i ik' ht
   split at h
   ·rename_i hj
    obtain ⟨rfl, _⟩ := hj
    obtain rfl := Option.some.inj h
    obtain ⟨n, rfl, _, hw⟩ := DataW.trod_int ht hx
    exact ⟨n, rfl, hw⟩
   cases h
  ·rename_i fs ht
   obtain ⟨ys, m, _, rfl, hlen, hyl, hf⟩ := DataW.trod_struct ht hx
   rw [Option.bind_eq_some_iff] at h
   obtain ⟨f, hff, hk⟩ := h
   have hin := List.find?_some hff
   simp only [Bool.and_eq_true, decide_eq_true_eq] at hin
   obtain ⟨i, hi⟩ := List.mem_iff_getElem?.1 (List.mem_of_find?_eq_some hff)
   have hi' : fs[i]? = some f := by rw [← Array.getElem?_toList]; exact hi
   have hil : i < fs.size := (Array.getElem?_eq_some_iff.1 hi').1
   have hr := hf i f hi'
   rw [List.getElem?_eq_getElem (show i < ys.length by omega)] at hr
   obtain ⟨z, hz, hw⟩ := ih hr hk
   rw [cut_get hin.1 hin.2] at hz
   exact ⟨z, hz, hw⟩
  ·rename_i n e ht
   obtain ⟨ys, m, _, rfl, hlen, hyl, hf⟩ := DataW.trod_array ht hx
   split at h
   ·rename_i hj
    obtain ⟨hc, hi⟩ := hj
    have hr := hf (j / P.cellsOf e) hi
    rw [List.getElem?_eq_getElem (show j / P.cellsOf e < ys.length by omega)] at hr
    obtain ⟨z, hz, hw⟩ := ih hr h
    have h1 : j / P.cellsOf e * P.cellsOf e + j % P.cellsOf e = j := Nat.div_add_mod' j (P.cellsOf e)
    have h2 := Nat.mod_lt j hc
    have e1 : j - j / P.cellsOf e * P.cellsOf e = j % P.cellsOf e := by omega
    rw [← e1, cut_get (by omega) (by omega)] at hz
    exact ⟨z, hz, hw⟩
   cases h
  cases h
theorem kinds_none : ∀ (k : Nat) {t : TypeId} {fuel : Nat} {cs : List Value} {x : DataW H × List MemPlace}, DataW.trod enc P w base spare held fuel t cs = some x → kindsIn P k t = true → x.2 = [] := by
 intro k
 induction k with
 | zero => intro t fuel cs x _ h; simp [kindsIn] at h
 | succ k ih =>
  intro t fuel cs x hx h
  unfold kindsIn at h
  split at h
  ·rename_i ik' ht
   obtain ⟨n, rfl, rfl, _⟩ := DataW.trod_int ht hx
   rfl
  ·rename_i fs ht
   simp only [List.all_eq_true] at h
   obtain ⟨ys, m, _, rfl, hlen, hyl, hf⟩ := DataW.trod_struct ht hx
   rw [List.flatMap_eq_nil_iff]
   intro y hy
   obtain ⟨i, hi⟩ := List.mem_iff_getElem?.1 hy
   have hil : i < ys.length := (List.getElem?_eq_some_iff.1 hi).1
   obtain ⟨f, hf'⟩ : ∃ f, fs[i]? = some f := ⟨fs[i]'(by omega), Array.getElem?_eq_getElem (by omega)⟩
   have hr := hf i f hf'
   rw [hi] at hr
   exact ih hr (h f (by rw [← Array.getElem?_toList] at hf'; exact List.mem_iff_getElem?.2 ⟨i, hf'⟩))
  ·rename_i n e ht
   obtain ⟨ys, m, _, rfl, hlen, hyl, hf⟩ := DataW.trod_array ht hx
   rw [List.flatMap_eq_nil_iff]
   intro y hy
   obtain ⟨i, hi⟩ := List.mem_iff_getElem?.1 hy
   have hil : i < ys.length := (List.getElem?_eq_some_iff.1 hi).1
   have hr := hf i (by omega)
   rw [hi] at hr
   exact ih hr h
  cases h
def RowsAt (w : World) (A : Option Addr) (K : Nat → IntKind) (m n : Nat) (f : Nat → Nat → Int) (B : Nat) : Prop :=
 0 < n → ∃ b o, A = some ⟨b, o, none⟩ ∧ b < B ∧ ∀ i < n, ∀ j < m, w.cell? ⟨b, o + i * m + j, none⟩ = some (.int (K j) (f i j))
theorem RowsAt.kept {w w' : World} {A : Option Addr} {K : Nat → IntKind} {m n : Nat} {f : Nat → Nat → Int} {B : Nat} (h : RowsAt w A K m n f B) (hk : Below B w w') : RowsAt w' A K m n f B := fun hn => by
 obtain ⟨b, o, e, hb, hc⟩ := h hn
 exact ⟨b, o, e, hb, fun i hi j hj => (hk.cell (p := ⟨b, o + i * m + j, none⟩) hb).trans (hc i hi j hj)⟩
theorem rows_cs {fuel : Nat} {t e : TypeId} {cs : List Value} {x : DataW H × List MemPlace} {m : Nat} {K : Nat → IntKind} (ht : P.underlying t = some (.slice e)) (hC : P.cellsOf e = m) (hm : 0 < m)
  (hK : ∀ j < m, kindAt P 5 e j = some (K j)) (hf : DataW.trod enc P w 0 (fun _ => true) true fuel t cs = some x) :
  ∃ (A : Option Addr) (n : Nat) (c : Nat) (f : Nat → Nat → Int), cs = [.slice A n c] ∧ RowsAt w A K m n f w.heap.size ∧ n ≤ c ∧ c ≤ maxLen ∧ ∀ i < n, ∀ j < m, (Lit.int (K j) (f i j)).wf = true := by
 rcases open_slice ht hf with ⟨rfl, _⟩ | ⟨a, n0, m', m'', n, D, Pl, rfl, _, hle, hcap, hm', _, hall⟩
 ·exact ⟨none, 0, 0, fun _ _ => 0, rfl, fun hn => absurd hn (by omega), by omega, by unfold maxLen; omega, fun i hi => by omega⟩
 simp only [if_true] at hm'
 subst hm'
 have hform : ∀ k u, w.cell? (a.add k) = some u → w.cell? ⟨a.block, a.off + k, none⟩ = some u := by
  intro k u hk
  unfold Addr.add at hk
  split at hk
  ·rename_i h0
   subst h0
   have := World.cell?_spot hk
   obtain ⟨ab, ao, asp⟩ := a
   simp only at this
   subst this
   exact hk
  exact hk
 have hex : ∀ i j, ∃ z : Int, i < n0 → j < m → w.cell? ⟨a.block, a.off + i * m + j, none⟩ = some (.int (K j) z) ∧ (Lit.int (K j) z).wf = true := by
  intro i j
  by_cases hi : i < n0
  ·by_cases hj : j < m
   ·obtain ⟨cs', hc, ht'⟩ := hall i (by omega)
    rw [hC] at hc
    obtain ⟨_, hl, hat⟩ := World.cells?_some hc
    obtain ⟨z, hz, hw⟩ := kind_open 5 ht' (hK j hj)
    have hq := hat j (by omega)
    rw [hz] at hq
    rw [Go.Deep.add_add] at hq
    have := hform _ _ hq
    exact ⟨z, fun _ _ => ⟨by rw [Nat.add_assoc]; exact this, hw⟩⟩
   exact ⟨0, fun _ h => absurd h hj⟩
  exact ⟨0, fun h => absurd h hi⟩
 obtain ⟨G, hG⟩ := Classical.axiomOfChoice (fun i => Classical.axiomOfChoice (hex i))
 refine ⟨some a, n0, m'', G, rfl, fun hn => ?_, hle, hcap, fun i hi j hj => (hG i j hi hj).2⟩
 obtain ⟨cs0, hc0, ht0⟩ := hall 0 (by omega)
 rw [hC] at hc0
 obtain ⟨_, hl0, hat0⟩ := World.cells?_some hc0
 have hsp : a.spot = none := by
  have h00 := hat0 0 (by omega)
  rw [List.getElem?_eq_getElem (by omega), Nat.zero_mul] at h00
  exact World.cell?_spot (a := a) h00
 have hblk : a.block < w.heap.size := by
  have := World.block_lt_of_cell? w _ (hG 0 0 hn hm).1
  exact this
 obtain ⟨ab, ao, asp⟩ := a
 simp only at hsp
 subst hsp
 exact ⟨ab, ao, rfl, hblk, fun i hi j hj => (hG i j hi hj).1⟩
theorem open_rows {r : Reach} {b0 : Nat} {t e : TypeId} {v : Value} {d : DataW H} {p : List MemPlace} {m : Nat} {K : Nat → IntKind} (ht : P.underlying t = some (.slice e)) (hC : P.cellsOf e = m) (hm : 0 < m)
  (hK : ∀ j < m, kindAt P 5 e j = some (K j)) (hv : Value.okWide P w r b0 t v) (h : DataW.Trod enc P w 0 (fun _ => true) true t v d p) :
  ∃ (A : Option Addr) (n : Nat) (c : Nat) (f : Nat → Nat → Int), v = .slice A n c ∧ RowsAt w A K m n f w.heap.size ∧ n ≤ c ∧ c ≤ maxLen ∧ ∀ i < n, ∀ j < m, (Lit.int (K j) (f i j)).wf = true := by
 obtain ⟨fuel, hf⟩ := h
 obtain ⟨a0, n0, c0, rfl⟩ := okWide_slice ht hv
 obtain ⟨A, n, c, f, h1, h2⟩ := rows_cs ht hC hm hK hf
 have h1 : [Value.slice a0 n0 c0] = [.slice A n c] := h1
 simp only [List.cons.injEq, and_true] at h1
 exact ⟨A, n, c, f, h1, h2⟩
end
end Go.Proofs.Ytcncfmjfgdbfeab
namespace Go.Proofs.Ytcncfmjfgdbfeab
open Go.ChangeShapes Go.WideShapes Go.ChangeAt Go.RowKit Go.Deep
def strAt (P : Program) : Nat → TypeId → Nat → Bool
 | 0, _, _ => false
 | k + 1, t, j => match P.underlying t with
  | some .string => decide (j = 0) && decide (P.cellsOf t = 1)
  | some (.struct fs) => match fs.toList.find? fun f => decide (f.offset ≤ j) && decide (j < f.offset + P.cellsOf f.type) with
   | some f => strAt P k f.type (j - f.offset)
   | none => false
  | _ => false
section
variable {H : Type} {enc : TypeId × Value → H} {P : Program} {w : World} {base : Nat} {spare : Nat → Bool} {held : Bool}
theorem str_open : ∀ (k : Nat) {t : TypeId} {fuel : Nat} {cs : List Value} {x : DataW H × List MemPlace} {j : Nat}, DataW.trod enc P w base spare held fuel t cs = some x → strAt P k t j = true →
  ∃ s : ByteArray, cs[j]? = some (.string s) ∧ s.size ≤ maxLen := by
 intro k
 induction k with
 | zero => intro t fuel cs x j _ h; simp [strAt] at h
 | succ k ih =>
  intro t fuel cs x j hx h
  unfold strAt at h
  split at h
  ·rename_i ht
   simp only [Bool.and_eq_true, decide_eq_true_eq] at h
   obtain ⟨rfl, _⟩ := h
   obtain ⟨s, rfl, _, hs⟩ := DataW.trod_string ht hx
   exact ⟨s, rfl, hs⟩
  ·rename_i fs ht
   obtain ⟨ys, m, _, rfl, hlen, hyl, hf⟩ := DataW.trod_struct ht hx
   split at h
   ·rename_i f hff
    have hin := List.find?_some hff
    simp only [Bool.and_eq_true, decide_eq_true_eq] at hin
    obtain ⟨i, hi⟩ := List.mem_iff_getElem?.1 (List.mem_of_find?_eq_some hff)
    have hi' : fs[i]? = some f := by rw [← Array.getElem?_toList]; exact hi
    have hil : i < fs.size := (Array.getElem?_eq_some_iff.1 hi').1
    have hr := hf i f hi'
    rw [List.getElem?_eq_getElem (show i < ys.length by omega)] at hr
    obtain ⟨s, hs, hm⟩ := ih hr h
    rw [cut_get hin.1 hin.2] at hs
    exact ⟨s, hs, hm⟩
   cases h
  cases h
end
section
variable {H : Type} {enc : TypeId × Value → H} {w : World}
set_option maxRecDepth 100000 in
set_option maxHeartbeats 4000000 in
theorem open_nodes {r : Reach} {b0 : Nat} {v : Value} {d : DataW H} {p : List MemPlace} (hv : Value.okWide Try.prog w r b0 22 v) (h : DataW.Trod enc Try.prog w 0 (fun _ => true) true 22 v d p) :
  ∃ (A : Option Addr) (l : List Nod) (c : Nat), v = .slice A l.length c ∧ l.length ≤ c ∧ c ≤ maxLen ∧ (A = none → l = [] ∧ c = 0) ∧
   ∀ a, A = some a → 0 < l.length → a.spot = none ∧ a.block < w.heap.size ∧ ∀ k, k < l.length → ∀ j v, (rowOf l k)[j]? = some v → w.cell? ⟨a.block, a.off + k * 19 + j, none⟩ = some v := by
 obtain ⟨fuel, hf⟩ := h
 obtain ⟨a0, n0, c0, rfl⟩ := okWide_slice Try.underlying22 hv
 have hc1 : (Value.slice a0 n0 c0).cells.toList = [.slice a0 n0 c0] := rfl
 rw [hc1] at hf
 rcases open_slice Try.underlying22 hf with ⟨h1, _⟩ | ⟨a, len, cap, m, n, D, Pl, h1, _, hle, hcap, hm, _, hall⟩
 ·simp only [List.cons.injEq, and_true, Value.slice.injEq] at h1
  obtain ⟨rfl, rfl, rfl⟩ := h1
  exact ⟨none, [], 0, rfl, by simp, by simp, fun _ => ⟨rfl, rfl⟩, fun a h => by cases h⟩
 simp only [List.cons.injEq, and_true, Value.slice.injEq] at h1
 obtain ⟨rfl, rfl, rfl⟩ := h1
 simp only [if_true] at hm
 subst hm
 have hC : Try.prog.cellsOf 55 = 19 := by kernel_rfl
 have hform : ∀ k u, w.cell? (a.add k) = some u → w.cell? ⟨a.block, a.off + k, none⟩ = some u := by
  intro k u hk
  unfold Addr.add at hk
  split at hk
  ·rename_i h0
   subst h0
   have := World.cell?_spot hk
   obtain ⟨ab, ao, asp⟩ := a
   simp only at this
   subst this
   exact hk
  exact hk
 have hex : ∀ i, ∃ g : Nod, i < n0 → ∀ j v, (nodC g)[j]? = some v → w.cell? ⟨a.block, a.off + i * 19 + j, none⟩ = some v := by
  intro i
  by_cases hi : i < n0
  ·obtain ⟨cs', hc, ht'⟩ := hall i (by omega)
   rw [hC] at hc
   obtain ⟨_, hl, hat⟩ := World.cells?_some hc
   obtain ⟨z0, h0, _⟩ := kind_open 4 ht' (show kindAt Try.prog 4 55 0 = some .i64 by kernel_rfl)
   obtain ⟨z1, h1, _⟩ := kind_open 4 ht' (show kindAt Try.prog 4 55 1 = some .i64 by kernel_rfl)
   obtain ⟨z2, h2, _⟩ := kind_open 4 ht' (show kindAt Try.prog 4 55 2 = some .u8 by kernel_rfl)
   obtain ⟨z3, h3, _⟩ := kind_open 4 ht' (show kindAt Try.prog 4 55 3 = some .i64 by kernel_rfl)
   obtain ⟨z4, h4, _⟩ := kind_open 4 ht' (show kindAt Try.prog 4 55 4 = some .i64 by kernel_rfl)
   obtain ⟨z5, h5, _⟩ := kind_open 4 ht' (show kindAt Try.prog 4 55 5 = some .i64 by kernel_rfl)
   obtain ⟨z6, h6, _⟩ := kind_open 4 ht' (show kindAt Try.prog 4 55 6 = some .i64 by kernel_rfl)
   obtain ⟨z7, h7, _⟩ := kind_open 4 ht' (show kindAt Try.prog 4 55 7 = some .i64 by kernel_rfl)
   obtain ⟨z8, h8, _⟩ := kind_open 4 ht' (show kindAt Try.prog 4 55 8 = some .i64 by kernel_rfl)
   obtain ⟨z9, h9, _⟩ := kind_open 4 ht' (show kindAt Try.prog 4 55 9 = some .i64 by kernel_rfl)
   obtain ⟨z10, h10, _⟩ := kind_open 4 ht' (show kindAt Try.prog 4 55 10 = some .i64 by kernel_rfl)
   obtain ⟨z11, h11, _⟩ := kind_open 4 ht' (show kindAt Try.prog 4 55 11 = some .i64 by kernel_rfl)
   obtain ⟨z12, h12, _⟩ := kind_open 4 ht' (show kindAt Try.prog 4 55 12 = some .i64 by kernel_rfl)
   obtain ⟨z13, h13, _⟩ := kind_open 4 ht' (show kindAt Try.prog 4 55 13 = some .i64 by kernel_rfl)
   obtain ⟨z14, h14, _⟩ := kind_open 4 ht' (show kindAt Try.prog 4 55 14 = some .i64 by kernel_rfl)
   obtain ⟨z15, h15, _⟩ := kind_open 4 ht' (show kindAt Try.prog 4 55 15 = some .i64 by kernel_rfl)
   obtain ⟨z16, h16, _⟩ := kind_open 4 ht' (show kindAt Try.prog 4 55 16 = some .i64 by kernel_rfl)
   obtain ⟨z17, h17, _⟩ := kind_open 4 ht' (show kindAt Try.prog 4 55 17 = some .i64 by kernel_rfl)
   obtain ⟨s18, h18, _⟩ := str_open 4 ht' (show strAt Try.prog 4 55 18 = true by kernel_rfl)
   refine ⟨⟨z0, z1, z2, z3, z4, z5, z6, z7, z8, z9, z10, z11, z12, z13, z14, z15, z16, z17, s18⟩, fun _ j v hv => ?_⟩
   have hj : j < 19 := (List.getElem?_eq_some_iff.1 hv).1
   have hcv : cs'[j]? = some v := by
    rw [← hv]
    match j, hj with
    | 0, _ => exact h0
    | 1, _ => exact h1
    | 2, _ => exact h2
    | 3, _ => exact h3
    | 4, _ => exact h4
    | 5, _ => exact h5
    | 6, _ => exact h6
    | 7, _ => exact h7
    | 8, _ => exact h8
    | 9, _ => exact h9
    | 10, _ => exact h10
    | 11, _ => exact h11
    | 12, _ => exact h12
    | 13, _ => exact h13
    | 14, _ => exact h14
    | 15, _ => exact h15
    | 16, _ => exact h16
    | 17, _ => exact h17
    | 18, _ => exact h18
   have h9 := hat j (by omega)
   rw [Go.Deep.add_add, hcv] at h9
   have h10 := hform _ _ h9
   rw [Nat.add_assoc]
   exact h10
  exact ⟨zeroN, fun h => absurd h hi⟩
 obtain ⟨G, hG⟩ := Classical.axiomOfChoice hex
 have hlen : ((List.range n0).map G).length = n0 := by simp
 refine ⟨some a, (List.range n0).map G, m, by rw [hlen], by rw [hlen]; exact hle, hcap, (fun h => by cases h), fun a' ha h0 => ?_⟩
 obtain rfl : a = a' := Option.some.inj ha
 rw [hlen] at h0
 have hsp : a.spot = none := by
  obtain ⟨cs0, hc0, ht0⟩ := hall 0 (by omega)
  rw [hC] at hc0
  obtain ⟨_, hl0, hat0⟩ := World.cells?_some hc0
  have h00 := hat0 0 (by omega)
  rw [List.getElem?_eq_getElem (by omega)] at h00
  exact World.cell?_spot (a := a) h00
 refine ⟨hsp, ?_, fun k hk j v hv => ?_⟩
 ·have := hG 0 h0 0 _ rfl
  exact World.block_lt_of_cell? w ⟨a.block, a.off + 0 * 19 + 0, none⟩ this
 rw [hlen] at hk
 have e : rowOf ((List.range n0).map G) k = nodC (G k) := by simp [rowOf, nth, hk]
 rw [e] at hv
 exact hG k hk j v hv
end
end Go.Proofs.Ytcncfmjfgdbfeab
namespace Go.Proofs.Ytcncfmjfgdbfeab
open Go.ChangeShapes Go.WideShapes Go.ChangeAt Go.RowKit Go.Deep
set_option maxRecDepth 100000 in
theorem nodes_fit {H : Type} {enc : TypeId × Value → H} {w : World} {A : Option Addr} {n c : Nat} {d : DataW H} {p : List MemPlace}
  (h : DataW.Trod enc Try.prog w 0 (fun _ => true) true 22 (.slice A n c) d p) (hw : ∀ n ∈ d.weights Try.prog 22, n ≤ reachBytes) : n ≤ 879609302195 := by
 have ht : Try.prog.underlying 22 = some (.slice 55) := by kernel_rfl
 have hb : Try.prog.bytesOf 55 = 160 := by kernel_rfl
 have hr : reachBytes = 140737488351232 := rfl
 obtain ⟨fuel, hf⟩ := h
 rcases open_slice ht hf with ⟨h1, _⟩ | ⟨a, len, cap, m, k, D, Pl, h1, _, hle, _, hm, h2, _⟩
 ·cases h1
  omega
 cases h1
 have h3 : d = _ := congrArg Prod.fst h2
 have q := hw ((n + (m - n)) * 160) (by rw [h3]; simp [DataW.weights, ht, hb])
 have hnm : n ≤ m := by rw [hm]; split <;> omega
 omega
end Go.Proofs.Ytcncfmjfgdbfeab
namespace Go.Proofs.Ytcncfmjfgdbfeab
open Go.RowKit
abbrev kN (k : Int) : Nod := ⟨k, 0, 0, 0, 0, 0, 0, 0, 0, 0, 0, 0, 0, 0, 0, 0, 0, 0, ⟨#[]⟩⟩
theorem nodC_one1 (n : Nod) : ∀ u ∈ nodC n, u.oneCell' = true := by
 intro u hu
 simp only [nodC, List.mem_cons, List.not_mem_nil, or_false] at hu
 rcases hu with rfl | rfl | rfl | rfl | rfl | rfl | rfl | rfl | rfl | rfl | rfl | rfl | rfl | rfl | rfl | rfl | rfl | rfl | rfl <;> rfl
def putC (cs : List Value) (k : Nat) (n : Nod) : List Value := cs.take (0 + k * 19) ++ nodC n ++ cs.drop (0 + k * 19 + (nodC n).length)
theorem putC_len {cs : List Value} {k : Nat} {n : Nod} (h : 0 + k * 19 + (nodC n).length ≤ cs.length) : (putC cs k n).length = cs.length := by
 have h1 : (nodC n).length = 19 := rfl
 unfold putC
 rw [List.length_append, List.length_append, List.length_take, List.length_drop]
 omega
theorem put_fits {cs : List Value} {cap n k : Nat} (hc : cs.length = cap * 19) (hn : n ≤ cap) (hk : k < n) (m : Nod) : 0 + k * 19 + (nodC m).length ≤ cs.length := by
 have h1 : (nodC m).length = 19 := rfl
 have := Nat.mul_le_mul_right 19 (show k + 1 ≤ cap by omega)
 omega
structure SpX (cap n : Nat) where
 k : Nat
 cs : List Value
 len : cs.length = cap * 19
 le : k ≤ n
def SpX.next {cap n : Nat} (x : SpX cap n) (hn : n ≤ cap) (h : x.k < n) (m : Nod) : SpX cap n := ⟨x.k + 1, putC x.cs x.k m, (putC_len (put_fits x.len hn h m)).trans x.len, h⟩
set_option maxRecDepth 100000 in
set_option maxHeartbeats 8000000 in
theorem spoil_any (n b cap : Nat) (cs : List Value) (hc : cs.length = cap * 19) (hn : n ≤ cap) (hb : n ≤ 1000000000000000) (w : World) (hq : Sat w [b] [.obj true b cs 55] w) :
  Calls Try.prog 14 #[.slice (some ⟨b, 0, none⟩) n cap] w fun e w' => ∃ x : SpX cap n, e = .returned (.tuple #[]) ∧ Sat w [b] [.obj true b x.cs 55] w' := by
 refine g_enter (args := [.slice (some ⟨b, 0, none⟩) n cap]) [b] [.obj true b cs 55] Try.func14 rfl Try.ntmps14 kL hq ?_
 refine g0 ?_
 refine g_loopN (X := SpX cap n) (fun x => [(2, .int .i64 ((x.k : Nat) : Int))]) (fun x => [.obj true b x.cs 55]) (fun x => n - x.k) ⟨0, cs, hc, Nat.zero_le _⟩ kR (by unfold Known; kernel_rfl) kR fun x N hN => ?_
 refine g0 ?_
 refine g_dec 6 (decide ((x.k : Int) < (n : Int))) kR (fun h6 => ?_) (fun h6 => ?_)
 ·have hlt : x.k < n := by clear hN; simpa using h6
  refine gU 12 [] 1 ?_
  refine g_val _ _ ?_ (fun w _hs => idx_run (P := Try.prog) (T := 22) (E := 55) (b := b) (o := 0) (n := n) (c := cap) (k := x.k) (sz := 19) (kk := .i64) w kR kR hlt) ?_
  ·kernel_rfl
  refine g_storeN 0 55 55 b (0 + x.k * 19) x.cs (nodC (kN 99)) (nodV (kN 99)) kR kR kR (put_fits x.len hn hlt _) (nodC_one1 _) kR ?_
  refine gU 8 [] 0 ?_
  refine g_val _ _ ?_ (fun w _hs => nat_succ (P := Try.prog) (t := 3) (x := .tmp 7) (y := .const (.int .i64 1)) (m := x.k) (w := w) kR (by omega)) ?_
  ·kernel_rfl
  refine g0 ?_
  refine g_hook (hN (x.next hn hlt (kN 99)) (by show n - (x.k + 1) < n - x.k; omega)) kR kR kR (by unfold Known; kernel_rfl) kR kR
 refine gA [] 1 ?_
 refine gR (Value.tuple (Array.mk [])) fun w' hs => ?_
 exact ⟨x, rfl, hs.at kR⟩
end Go.Proofs.Ytcncfmjfgdbfeab
