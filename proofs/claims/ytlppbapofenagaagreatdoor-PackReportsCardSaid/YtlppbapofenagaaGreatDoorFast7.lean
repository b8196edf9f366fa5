/- The second way to walk: sums of letters. -/
import Derived.Test.YtlppbapofenagaaGreatDoorFast6
namespace Go.Proofs.YtlppbapofenagaaGreatDoor
open Go.RowKit
noncomputable section

section
variable {P : Program}
/-- two values put together -/
def binSem (op : BinOp) (t : TypeId) (x y : Operand) (a b : Value) : Sem Next := do
  let v ← (do eqGuard op t x y a b; binOp op t a b)
  pure (.value v)
theorem bin_run {op : BinOp} {t : TypeId} {x y : Operand} {a b v v' : Value} {w : World} (h : runQ P (binSem op t x y a b) = some (.value v)) (e : v = v') : (binSem op t x y a b).run P w = .ok (.value v') w := by
  subst e
  exact runQ_run h w
/-- any operation that reads no memory -/
theorem any_run {s : Sem Next} {v v' : Value} {w : World} (h : runQ P s = some (.value v)) (e : v = v') : s.run P w = .ok (.value v') w := by
  subst e
  exact runQ_run h w
theorem wrap_i64 {n : Int} (h : -9223372036854775808 ≤ n) (h' : n ≤ 9223372036854775807) : IntKind.wrap .i64 n = n := by
  have e1 : (2 : Int) ^ IntKind.i64.bits = 18446744073709551616 := by decide
  have e2 : (2 : Int) ^ (IntKind.i64.bits - 1) = 9223372036854775808 := by decide
  unfold IntKind.wrap
  rw [e1, e2]
  simp only [IntKind.signed, Bool.true_and, decide_eq_true_eq]
  split <;> omega
/-- one less than a length -/
theorem len_pred {t : TypeId} {x y : Operand} {m : Nat} {w : World} (h : runQ P (binSem .sub t x y (.int .i64 ((m + 1 : Nat) : Int)) (.int .i64 1)) = some (.value (.int .i64 (IntKind.wrap .i64 (((m + 1 : Nat) : Int) - 1))))) (hm : m ≤ 9223372036854775807) :
    (binSem .sub t x y (.int .i64 ((m + 1 : Nat) : Int)) (.int .i64 1)).run P w = .ok (.value (.int .i64 (m : Int))) w :=
  bin_run h (by rw [wrap_i64 (by omega) (by omega)]; congr 1; omega)
/-- one more than a number -/
theorem nat_succ {t : TypeId} {x y : Operand} {m : Nat} {w : World} (h : runQ P (binSem .add t x y (.int .i64 (m : Int)) (.int .i64 1)) = some (.value (.int .i64 (IntKind.wrap .i64 ((m : Int) + 1))))) (hm : m < 9223372036854775807) :
    (binSem .add t x y (.int .i64 (m : Int)) (.int .i64 1)).run P w = .ok (.value (.int .i64 ((m + 1 : Nat) : Int))) w :=
  bin_run h (by rw [wrap_i64 (by omega) (by omega)]; rfl)
/-- the front of a slice -/
def sliceSem (T : TypeId) (x : Value) (lo hi mx : Option Value) : Sem Next := do
  let v ← Instr.sliceAt T x lo hi mx
  pure (.value v)
theorem front_run {T E : TypeId} {b o n c m sz : Nat} {kk : IntKind} (w : World) (hT : P.underlying T = some (.slice E)) (hs : cellsN P E = some sz) (hm : m ≤ c) :
    (sliceSem T (.slice (some ⟨b, o, none⟩) n c) none (some (.int kk m)) none).run P w = .ok (.value (.slice (some ⟨b, o, none⟩) m c)) w := by
  have hu : (underlying T).run P w = .ok (.slice E) w := by simp [underlying, program, hT, Sem.run, Result.andThen]
  obtain ⟨i, hi, hsz⟩ := Option.map_eq_some_iff.1 hs
  have hz : (sizeOf E).run P w = .ok sz w := by simp [sizeOf, typeInfo, program, hi, hsz, Sem.run, Result.andThen]
  have hb : (Instr.sliceBounds true n c none (some (.int kk m)) none).run P w = .ok (0, m, c) w := by
    have h0 : (0 : Int) ≤ m ∧ (m : Int) ≤ c := by omega
    simp [Instr.sliceBounds, Instr.sliceBound, asIntOf, h0, hm]
  have ha : Addr.add ⟨b, o, none⟩ 0 = ⟨b, o, none⟩ := by simp [Addr.add]
  simp [sliceSem, Instr.sliceAt, Instr.slice, hu, hz, hb, ha, Result.andThen]
end
end
end Go.Proofs.YtlppbapofenagaaGreatDoor
