/- slices.Grow of nothing; append of so many zeros. -/
import Derived.Test.YtcncfmjfgdbfeabFast16
import Derived.Lib.AppendZerosOnto
namespace Go.Proofs.Ytcncfmjfgdbfeab
open Go.RowKit

/-- append of so many zeros, as an operation -/
def apzSem (t tn ty : TypeId) (x y : Value) : Sem Next := do
  let v ← Builtin.append_ #[t, tn] ty #[x, y]
  pure (.value v)
/-- a row that has grown out of nothing -/
structure GrewX (w0 : World) (k sz : Nat) where
  b : Nat
  cap : Nat
  cs : List Value
  new : w0.heap.size ≤ b
  le : k ≤ cap
  len : cs.length = cap * sz
theorem apz_ok {P : Program} {t tn ty E : TypeId} {sz by_ k : Nat} {kq kn : IntKind} {w0 w : World} {bs : List Nat} {hp : List HE} (hw : Sat w0 bs hp w) (ht : P.underlying t = some (.slice E)) (htn : P.underlying tn = some (.int kn))
    (hz : ∃ ti z, P.info? E = some ti ∧ ti.zero = some z ∧ ti.size = sz ∧ ti.bytes = by_ ∧ z.cells.size = sz) (h0 : 0 < k) (hs : 0 < sz) (hb : k * by_ ≤ 281474976710656) (hn : k ≤ 9223372036854775807) {hp' : GrewX w0 k sz → List HE} (e : ∀ x : GrewX w0 k sz, hp ++ [.obj true x.b x.cs E] = hp' x) :
    ∃ (x : GrewX w0 k sz) (w' : World), (apzSem t tn ty (.slice none 0 0) (.int kq (k : Int))).run P w = .ok (.value (.slice (some ⟨x.b, 0, none⟩) k x.cap)) w' ∧ Sat w0 bs (hp' x) w' := by
  obtain ⟨ti, z, hti, hzero, hsize, hby, hzs⟩ := hz
  subst hsize
  subst hby
  have hzc : ∀ k, (Builtin.zeroCells z.cells k).size = k * ti.size := fun k => by simp [Builtin.zeroCells, hzs]
  have hold : (Builtin.firstCells ti.size 0 (.slice none 0 0)).run P w.drew = .ok ([] : List Value).toArray w.drew := run_firstCells_none w.drew ti.size 0 0 0
  have hrun := Lib.run_append_grow_zeros (P := P) w t tn ty E ti z kq kn ht htn hti hzero none 0 0 [] hold k h0 hs (by omega) (by omega) hb (by rw [Nat.zero_add, nextslicecap_zero h0]; exact hb)
  rw [Nat.zero_add] at hrun
  have hge := grownCap_ge w k 0 E
  have h1 : Sat w0 bs hp w.drew := hw.draw _
  have h2 := h1.alloc ((Builtin.zeroCells z.cells k).toList ++ (Builtin.zeroCells z.cells (grownCap w k 0 E - k)).toList) E
  refine ⟨⟨w.heap.size, grownCap w k 0 E, _, hw.kept.size, hge, ?_⟩, _, ?_, (h2.at' (e ⟨w.heap.size, grownCap w k 0 E, _, hw.kept.size, hge, ?_⟩))⟩
  · rw [List.length_append, Array.length_toList, Array.length_toList, hzc, hzc, ← Nat.add_mul]
    congr 1
    omega
  · unfold apzSem
    simp only [Sem.run_bind, hrun, Result.andThen, Sem.run_pure]
    congr 2
    simp
  · rw [List.length_append, Array.length_toList, Array.length_toList, hzc, hzc, ← Nat.add_mul]
    congr 1
    omega
end Go.Proofs.Ytcncfmjfgdbfeab
