/- Data of whole numbers of whatever kinds, read cell by cell; slices of such elements. -/
import Derived.Test.YtmajknlgicookaaGreatBase
import Derived.Deep.Slices
import Derived.Carry
import Derived.OpenShut
namespace Go.Proofs.YtmajknlgicookaaGreat
open Go.ChangeShapes Go.WideShapes Go.ChangeAt Go.RowKit Go.Deep

/-- the kind of cell j of a type, if it is a whole number -/
def kindAt (P : Program) : Nat → TypeId → Nat → Option IntKind
  | 0, _, _ => none
  | k + 1, t, j => match P.underlying t with
    | some (.int ik) => if j = 0 ∧ P.cellsOf t = 1 then some ik else none
    | some (.struct fs) => (fs.toList.find? fun f => decide (f.offset ≤ j) && decide (j < f.offset + P.cellsOf f.type)).bind fun f => kindAt P k f.type (j - f.offset)
    | some (.array n e) => if 0 < P.cellsOf e ∧ j / P.cellsOf e < n then kindAt P k e (j % P.cellsOf e) else none
    | _ => none

/-- does a type hold whole numbers alone? -/
def kindsIn (P : Program) : Nat → TypeId → Bool
  | 0, _ => false
  | k + 1, t => match P.underlying t with
    | some (.int _) => true
    | some (.struct fs) => fs.toList.all fun f => kindsIn P k f.type
    | some (.array _ e) => kindsIn P k e
    | _ => false

section
variable {H : Type} {enc : TypeId × Value → H} {P : Program} {w : World} {base : Nat} {spare : Nat → Bool} {held : Bool}

theorem cut_get {cs : List Value} {o c j : Nat} (h1 : o ≤ j) (h2 : j < o + c) : ((cs.drop o).take c)[j - o]? = cs[j]? := by
  rw [List.getElem?_take, if_pos (by omega), List.getElem?_drop]
  congr 1; omega

theorem kind_open : ∀ (k : Nat) {t : TypeId} {fuel : Nat} {cs : List Value} {x : DataW H × List MemPlace} {j : Nat} {ik : IntKind}, DataW.trod enc P w base spare held fuel t cs = some x → kindAt P k t j = some ik →
    ∃ z, cs[j]? = some (.int ik z) ∧ (Lit.int ik z).wf = true := by
  intro k
  induction k with
  | zero => intro t fuel cs x j ik _ h; simp [kindAt] at h
  | succ k ih =>
    intro t fuel cs x j ik hx h
    unfold kindAt at h
    split at h
    · rename_i ik' ht
      split at h
      · rename_i hj
        obtain ⟨rfl, _⟩ := hj
        obtain rfl := Option.some.inj h
        obtain ⟨n, rfl, _, hw⟩ := DataW.trod_int ht hx
        exact ⟨n, rfl, hw⟩
      · cases h
    · rename_i fs ht
      obtain ⟨ys, m, _, rfl, hlen, hyl, hf⟩ := DataW.trod_struct ht hx
      rw [Option.bind_eq_some_iff] at h
      obtain ⟨f, hff, hk⟩ := h
      have hin := List.find?_some hff
      simp only [Bool.and_eq_true, decide_eq_true_eq] at hin
      obtain ⟨i, hi⟩ := List.mem_iff_getElem?.1 (List.mem_of_find?_eq_some hff)
      have hi' : fs[i]? = some f := by rw [← Array.getElem?_toList]; exact hi
      have hil : i < fs.size := (Array.getElem?_eq_some_iff.1 hi').1
      have hr := hf i f hi'
      rw [List.getElem?_eq_getElem (show i < ys.length by omega)] at hr
      obtain ⟨z, hz, hw⟩ := ih hr hk
      rw [cut_get hin.1 hin.2] at hz
      exact ⟨z, hz, hw⟩
    · rename_i n e ht
      obtain ⟨ys, m, _, rfl, hlen, hyl, hf⟩ := DataW.trod_array ht hx
      split at h
      · rename_i hj
        obtain ⟨hc, hi⟩ := hj
        have hr := hf (j / P.cellsOf e) hi
        rw [List.getElem?_eq_getElem (show j / P.cellsOf e < ys.length by omega)] at hr
        obtain ⟨z, hz, hw⟩ := ih hr h
        have h1 : j / P.cellsOf e * P.cellsOf e + j % P.cellsOf e = j := Nat.div_add_mod' j (P.cellsOf e)
        have h2 := Nat.mod_lt j hc
        have e1 : j - j / P.cellsOf e * P.cellsOf e = j % P.cellsOf e := by omega
        rw [← e1, cut_get (by omega) (by omega)] at hz
        exact ⟨z, hz, hw⟩
      · cases h
    · cases h

theorem kinds_none : ∀ (k : Nat) {t : TypeId} {fuel : Nat} {cs : List Value} {x : DataW H × List MemPlace}, DataW.trod enc P w base spare held fuel t cs = some x → kindsIn P k t = true → x.2 = [] := by
  intro k
  induction k with
  | zero => intro t fuel cs x _ h; simp [kindsIn] at h
  | succ k ih =>
    intro t fuel cs x hx h
    unfold kindsIn at h
    split at h
    · rename_i ik' ht
      obtain ⟨n, rfl, rfl, _⟩ := DataW.trod_int ht hx
      rfl
    · rename_i fs ht
      simp only [List.all_eq_true] at h
      obtain ⟨ys, m, _, rfl, hlen, hyl, hf⟩ := DataW.trod_struct ht hx
      rw [List.flatMap_eq_nil_iff]
      intro y hy
      obtain ⟨i, hi⟩ := List.mem_iff_getElem?.1 hy
      have hil : i < ys.length := (List.getElem?_eq_some_iff.1 hi).1
      obtain ⟨f, hf'⟩ : ∃ f, fs[i]? = some f := ⟨fs[i]'(by omega), Array.getElem?_eq_getElem (by omega)⟩
      have hr := hf i f hf'
      rw [hi] at hr
      exact ih hr (h f (by rw [← Array.getElem?_toList] at hf'; exact List.mem_iff_getElem?.2 ⟨i, hf'⟩))
    · rename_i n e ht
      obtain ⟨ys, m, _, rfl, hlen, hyl, hf⟩ := DataW.trod_array ht hx
      rw [List.flatMap_eq_nil_iff]
      intro y hy
      obtain ⟨i, hi⟩ := List.mem_iff_getElem?.1 hy
      have hil : i < ys.length := (List.getElem?_eq_some_iff.1 hi).1
      have hr := hf i (by omega)
      rw [hi] at hr
      exact ih hr h
    · cases h

/-- row i, cell j of what lies at A: m cells a row, of the kinds K -/
def RowsAt (w : World) (A : Option Addr) (K : Nat → IntKind) (m n : Nat) (f : Nat → Nat → Int) (B : Nat) : Prop :=
  0 < n → ∃ b o, A = some ⟨b, o, none⟩ ∧ b < B ∧ ∀ i < n, ∀ j < m, w.cell? ⟨b, o + i * m + j, none⟩ = some (.int (K j) (f i j))

theorem RowsAt.kept {w w' : World} {A : Option Addr} {K : Nat → IntKind} {m n : Nat} {f : Nat → Nat → Int} {B : Nat} (h : RowsAt w A K m n f B) (hk : Below B w w') : RowsAt w' A K m n f B := fun hn => by
  obtain ⟨b, o, e, hb, hc⟩ := h hn
  exact ⟨b, o, e, hb, fun i hi j hj => (hk.cell (p := ⟨b, o + i * m + j, none⟩) hb).trans (hc i hi j hj)⟩

/-- a slice of such elements that came in -/
theorem rows_cs {fuel : Nat} {t e : TypeId} {cs : List Value} {x : DataW H × List MemPlace} {m : Nat} {K : Nat → IntKind} (ht : P.underlying t = some (.slice e)) (hC : P.cellsOf e = m) (hm : 0 < m)
    (hK : ∀ j < m, kindAt P 5 e j = some (K j)) (hf : DataW.trod enc P w 0 (fun _ => true) true fuel t cs = some x) :
    ∃ (A : Option Addr) (n : Nat) (c : Nat) (f : Nat → Nat → Int), cs = [.slice A n c] ∧ RowsAt w A K m n f w.heap.size ∧ n ≤ c ∧ c ≤ maxLen ∧ ∀ i < n, ∀ j < m, (Lit.int (K j) (f i j)).wf = true := by
  rcases open_slice ht hf with ⟨rfl, _⟩ | ⟨a, n0, m', m'', n, D, Pl, rfl, _, hle, hcap, hm', _, hall⟩
  · exact ⟨none, 0, 0, fun _ _ => 0, rfl, fun hn => absurd hn (by omega), by omega, by unfold maxLen; omega, fun i hi => by omega⟩
  · simp only [if_true] at hm'
    subst hm'
    have hform : ∀ k u, w.cell? (a.add k) = some u → w.cell? ⟨a.block, a.off + k, none⟩ = some u := by
      intro k u hk
      unfold Addr.add at hk
      split at hk
      · rename_i h0
        subst h0
        have := World.cell?_spot hk
        obtain ⟨ab, ao, asp⟩ := a
        simp only at this
        subst this
        exact hk
      · exact hk
    have hex : ∀ i j, ∃ z : Int, i < n0 → j < m → w.cell? ⟨a.block, a.off + i * m + j, none⟩ = some (.int (K j) z) ∧ (Lit.int (K j) z).wf = true := by
      intro i j
      by_cases hi : i < n0
      · by_cases hj : j < m
        · obtain ⟨cs', hc, ht'⟩ := hall i (by omega)
          rw [hC] at hc
          obtain ⟨_, hl, hat⟩ := World.cells?_some hc
          obtain ⟨z, hz, hw⟩ := kind_open 5 ht' (hK j hj)
          have hq := hat j (by omega)
          rw [hz] at hq
          rw [Go.Deep.add_add] at hq
          have := hform _ _ hq
          exact ⟨z, fun _ _ => ⟨by rw [Nat.add_assoc]; exact this, hw⟩⟩
        · exact ⟨0, fun _ h => absurd h hj⟩
      · exact ⟨0, fun h => absurd h hi⟩
    obtain ⟨G, hG⟩ := Classical.axiomOfChoice (fun i => Classical.axiomOfChoice (hex i))
    refine ⟨some a, n0, m'', G, rfl, fun hn => ?_, hle, hcap, fun i hi j hj => (hG i j hi hj).2⟩
    obtain ⟨cs0, hc0, ht0⟩ := hall 0 (by omega)
    rw [hC] at hc0
    obtain ⟨_, hl0, hat0⟩ := World.cells?_some hc0
    have hsp : a.spot = none := by
      have h00 := hat0 0 (by omega)
      rw [List.getElem?_eq_getElem (by omega), Nat.zero_mul] at h00
      exact World.cell?_spot (a := a) h00
    have hblk : a.block < w.heap.size := by
      have := World.block_lt_of_cell? w _ (hG 0 0 hn hm).1
      exact this
    obtain ⟨ab, ao, asp⟩ := a
    simp only at hsp
    subst hsp
    exact ⟨ab, ao, rfl, hblk, fun i hi j hj => (hG i j hi hj).1⟩
theorem open_rows {r : Reach} {b0 : Nat} {t e : TypeId} {v : Value} {d : DataW H} {p : List MemPlace} {m : Nat} {K : Nat → IntKind} (ht : P.underlying t = some (.slice e)) (hC : P.cellsOf e = m) (hm : 0 < m)
    (hK : ∀ j < m, kindAt P 5 e j = some (K j)) (hv : Value.okWide P w r b0 t v) (h : DataW.Trod enc P w 0 (fun _ => true) true t v d p) :
    ∃ (A : Option Addr) (n : Nat) (c : Nat) (f : Nat → Nat → Int), v = .slice A n c ∧ RowsAt w A K m n f w.heap.size ∧ n ≤ c ∧ c ≤ maxLen ∧ ∀ i < n, ∀ j < m, (Lit.int (K j) (f i j)).wf = true := by
  obtain ⟨fuel, hf⟩ := h
  obtain ⟨a0, n0, c0, rfl⟩ := okWide_slice ht hv
  obtain ⟨A, n, c, f, h1, h2⟩ := rows_cs ht hC hm hK hf
  have h1 : [Value.slice a0 n0 c0] = [.slice A n c] := h1
  simp only [List.cons.injEq, and_true] at h1
  exact ⟨A, n, c, f, h1, h2⟩
end
end Go.Proofs.YtmajknlgicookaaGreat
