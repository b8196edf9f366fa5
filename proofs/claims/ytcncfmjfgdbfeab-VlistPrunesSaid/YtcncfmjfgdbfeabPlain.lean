/- Arguments that hold nothing but numbers: structs of them, arrays of them, slices of such structs. -/
import Derived.Test.YtcncfmjfgdbfeabM0
import Derived.Deep.Slices
import Derived.Carry
import Derived.OpenShut
namespace Go.Proofs.Ytcncfmjfgdbfeab
open Go.ChangeShapes Go.WideShapes Go.ChangeAt Go.RowKit Go.Deep

/-- does a value of this type consist of whole numbers alone? -/
def numbersIn (P : Program) : Nat → TypeId → Bool
  | 0, _ => false
  | k + 1, t => match P.underlying t with
    | some (.int .i64) => P.cellsOf t == 1
    | some (.struct fs) => fs.toList.all (fun f => numbersIn P k f.type) && (List.range (P.cellsOf t)).all fun j => fs.toList.any fun f => decide (f.offset ≤ j) && decide (j < f.offset + P.cellsOf f.type)
    | some (.array n e) => numbersIn P k e && (List.range (P.cellsOf t)).all fun j => (List.range n).any fun i => decide (i * P.cellsOf e ≤ j) && decide (j < i * P.cellsOf e + P.cellsOf e)
    | _ => false

def OneInt (v : Value) : Prop := ∃ n, v = .int .i64 n

section
variable {H : Type} {enc : TypeId × Value → H} {P : Program} {w : World} {base : Nat} {spare : Nat → Bool} {held : Bool}

theorem in_cut {cs : List Value} {o c j : Nat} {v : Value} (h : cs[j]? = some v) (h1 : o ≤ j) (h2 : j < o + c) : v ∈ (cs.drop o).take c := by
  rw [List.mem_iff_getElem?]
  refine ⟨j - o, ?_⟩
  rw [List.getElem?_take, if_pos (by omega), List.getElem?_drop, ← h]
  congr 1; omega

theorem numbers_open : ∀ (k : Nat) {t : TypeId} {fuel : Nat} {cs : List Value} {x : DataW H × List MemPlace}, numbersIn P k t = true → DataW.trod enc P w base spare held fuel t cs = some x →
    (∀ v ∈ cs, OneInt v) ∧ x.2 = [] := by
  intro k
  induction k with
  | zero => intro t fuel cs x h; simp [numbersIn] at h
  | succ k ih =>
    intro t fuel cs x h hx
    unfold numbersIn at h
    split at h
    · rename_i ht
      obtain ⟨n, rfl, rfl, _⟩ := DataW.trod_int ht hx
      exact ⟨fun v hv => by simp at hv; exact ⟨n, hv⟩, rfl⟩
    · rename_i fs ht
      simp only [Bool.and_eq_true, List.all_eq_true] at h
      obtain ⟨ys, m, _, rfl, hlen, hyl, hf⟩ := DataW.trod_struct ht hx
      refine ⟨fun v hv => ?_, ?_⟩
      · obtain ⟨j, hj⟩ := List.mem_iff_getElem?.1 hv
        have hjl : j < P.cellsOf t := by rw [← hlen]; exact (List.getElem?_eq_some_iff.1 hj).1
        have hc := h.2 j (List.mem_range.2 hjl)
        simp only [List.any_eq_true, Bool.and_eq_true, decide_eq_true_eq] at hc
        obtain ⟨f, hfm, h1, h2⟩ := hc
        obtain ⟨i, hi⟩ := List.mem_iff_getElem?.1 hfm
        have hi' : fs[i]? = some f := by rw [← Array.getElem?_toList]; exact hi
        have hil : i < fs.size := (Array.getElem?_eq_some_iff.1 hi').1
        have hr := hf i f hi'
        rw [List.getElem?_eq_getElem (show i < ys.length by omega)] at hr
        exact (ih (h.1 f hfm) hr).1 v (in_cut hj h1 h2)
      · rw [List.flatMap_eq_nil_iff]
        intro y hy
        obtain ⟨i, hi⟩ := List.mem_iff_getElem?.1 hy
        have hil : i < ys.length := (List.getElem?_eq_some_iff.1 hi).1
        obtain ⟨f, hf'⟩ : ∃ f, fs[i]? = some f := ⟨fs[i]'(by omega), Array.getElem?_eq_getElem (by omega)⟩
        have hr := hf i f hf'
        rw [hi] at hr
        exact (ih (h.1 f (by rw [← Array.getElem?_toList] at hf'; exact List.mem_iff_getElem?.2 ⟨i, hf'⟩)) hr).2
    · rename_i n e ht
      simp only [Bool.and_eq_true, List.all_eq_true] at h
      obtain ⟨ys, m, _, rfl, hlen, hyl, hf⟩ := DataW.trod_array ht hx
      refine ⟨fun v hv => ?_, ?_⟩
      · obtain ⟨j, hj⟩ := List.mem_iff_getElem?.1 hv
        have hjl : j < P.cellsOf t := by rw [← hlen]; exact (List.getElem?_eq_some_iff.1 hj).1
        have hc := h.2 j (List.mem_range.2 hjl)
        simp only [List.any_eq_true, Bool.and_eq_true, decide_eq_true_eq] at hc
        obtain ⟨i, him, h1, h2⟩ := hc
        have hil := List.mem_range.1 him
        have hr := hf i hil
        rw [List.getElem?_eq_getElem (show i < ys.length by omega)] at hr
        exact (ih h.1 hr).1 v (in_cut hj h1 h2)
      · rw [List.flatMap_eq_nil_iff]
        intro y hy
        obtain ⟨i, hi⟩ := List.mem_iff_getElem?.1 hy
        have hil : i < ys.length := (List.getElem?_eq_some_iff.1 hi).1
        have hr := hf i (by omega)
        rw [hi] at hr
        exact (ih h.1 hr).2
    · cases h

/-- a struct of numbers, by value -/
theorem open_numbers {r : Reach} {b0 : Nat} {t : TypeId} {fs : Array Field} {v : Value} {d : DataW H} {p : List MemPlace} {n : Nat} (ht : P.underlying t = some (.struct fs)) (hn : numbersIn P 5 t = true) (hC : P.cellsOf t = n)
    (hv : Value.okWide P w r b0 t v) (h : DataW.Trod enc P w base spare held t v d p) : ∃ zs : List Int, zs.length = n ∧ v = .agg ⟨zs.map (Value.int .i64)⟩ ∧ p = [] := by
  obtain ⟨cs, rfl, hsz⟩ := okWide_struct ht hv
  obtain ⟨fuel, hf⟩ := h
  obtain ⟨ha, hp⟩ := numbers_open (x := (d, p)) 5 hn hf
  obtain ⟨l⟩ := cs
  have hl : ∀ l' : List Value, (∀ v ∈ l', OneInt v) → ∃ zs : List Int, l' = zs.map (Value.int .i64) := by
    intro l'
    induction l' with
    | nil => intro _; exact ⟨[], rfl⟩
    | cons c r ih =>
      intro hc
      obtain ⟨z, hz⟩ := hc c (by simp)
      obtain ⟨zs, hzs⟩ := ih (fun v hv => hc v (by simp [hv]))
      exact ⟨z :: zs, by simp [hz, hzs]⟩
  have ha' : ∀ v ∈ l, OneInt v := by
    intro v hv
    exact ha v (by simpa [Value.cells] using hv)
  obtain ⟨zs, rfl⟩ := hl l ha'
  refine ⟨zs, ?_, rfl, hp⟩
  rw [← hC, ← hsz]
  simp
end
end Go.Proofs.Ytcncfmjfgdbfeab
