/- The second way to walk: a row made, of a letter's length. -/
import Derived.Test.YtlppbapofenagaaGreatDoorFast8
import Derived.Laws.MakeOwn
namespace Go.Proofs.YtlppbapofenagaaGreatDoor
open Go.RowKit
noncomputable section

section
variable {F : Fence} {mm : Nat} {P : Program} {fin : Fin} {w0 : World} {bs : List Nat} {st : St}
def makeOf (st : St) : Option (TypeId × Value × Value) :=
  match st.l with
  | [] => none
  | o :: _ => match wanted? st.ops st.t o with
    | some true => bif (o.op.operands.toList.all fun x => (st.t.ev? x).isSome) then (match o.op with
      | .makeSlice T a x => some (T, st.t.ev a, st.t.ev x)
      | _ => none) else none
    | _ => none
theorem madeCells_one (z0 : Value) (n : Nat) : madeCells #[z0] n = (List.replicate n z0).toArray := by
  apply Array.ext
  · simp [madeCells]
  · intro i h1 h2
    simp [madeCells, Nat.mod_one]
/-- MAKE: a row of so many elements of one cell -/
theorem g_make (T E : TypeId) (n by_ : Nat) (z0 : Value) (h : makeOf st = some (T, .int .i64 (n : Int), .int .i64 (n : Int))) (hT : P.underlying T = some (.slice E))
    (hz : ((P.info? E).map fun ti => (ti.size, ti.bytes, ti.zero.map fun z => z.cells)) = some (1, by_, some #[z0])) (hb : by_ * n ≤ 281474976710656) (hn : n ≤ 9223372036854775807)
    (g : ∀ b, w0.heap.size ≤ b → Goal F mm P fin w0 bs (retSt st (.slice (some ⟨b, 0, none⟩) n n) (st.hp ++ [.obj true b (List.replicate n z0) E]))) : Goal F mm P fin w0 bs st := by
  refine ⟨fun hF a w hr hw => ?_⟩
  have hg := (g w.heap.size hw.kept.size).out hF
  obtain ⟨ti, hti, h2⟩ := Option.map_eq_some_iff.1 hz
  simp only [Prod.mk.injEq] at h2
  obtain ⟨hsz, hby, h3⟩ := h2
  obtain ⟨z, hzero, hcells⟩ := Option.map_eq_some_iff.1 h3
  obtain ⟨n0, ds, ops, l, kk, t, hp⟩ := st
  unfold makeOf at h
  unfold retSt at hg
  simp only at h hr hw hg ⊢
  cases l with
  | nil => cases h
  | cons o rest =>
    simp only at h
    split at h
    · rename_i hwn
      cases hall : (o.op.operands.toList.all fun x => (t.ev? x).isSome) with
      | false => rw [hall] at h; cases h
      | true =>
        rw [hall, cond_true] at h
        split at h
        · rename_i T2 x y hop
          simp only [Option.some.injEq, Prod.mk.injEq] at h
          obtain ⟨rfl, hx, hy⟩ := h
          have hsem : opSem t o = some (execOp t.ev o) := by
            unfold opSem
            rw [hall]
            simp [noSel, hop]
          have hm := run_make (P := P) w T2 E ti z hT hti hzero .i64 .i64 n n (by omega) (by omega) (by
            have h4 : ((by_ * n : Nat) : Int) ≤ 281474976710656 := by omega
            rw [hby]
            rwa [Int.natCast_mul] at h4) (by omega)
          rw [hsz, Nat.mul_one, hcells, Int.toNat_natCast, madeCells_one] at hm
          have hrun : (execOp t.ev o).run P w = .ok (.value (.slice (some ⟨w.heap.size, 0, none⟩) n n)) { w with heap := w.heap.push (.cells (List.replicate n z0).toArray E (0, 0)) } := by
            unfold execOp
            simp only [hop, hx, hy]
            simp only [Sem.run_bind, hm, Result.andThen]
            rfl
          unfold wpListIn
          rw [hr.wanted hwn, if_pos rfl]
          refine ⟨fun f _ => hF.fn f, ?_⟩
          rw [Oper.semAt_eq _ _ _ (noDefer (opSem_noSel hsem)), hr.opSem hsem, hrun]
          exact hg _ _ (hr.put _ _) (hw.alloc _ _)
        · cases h
    · cases h
end
/-- what is known of the last blocks is let go -/
def takeSt (st : St) (n : Nat) : St := { st with hp := st.hp.take n }
theorem Sat.front {w0 w : World} {bs : List Nat} {hp : List HE} (h : Sat w0 bs hp w) (n : Nat) : Sat w0 bs (hp.take n) w :=
  ⟨h.kept, fun e he => h.holds e (List.mem_of_mem_take he), fun i j e e' hij hi hj => h.apart i j e e' hij (by rw [List.getElem?_take] at hi; split at hi; exact hi; cases hi) (by rw [List.getElem?_take] at hj; split at hj; exact hj; cases hj)⟩
theorem g_take {F : Fence} {mm : Nat} {P : Program} {fin : Fin} {w0 : World} {bs : List Nat} {st : St} (n : Nat) (g : Goal F mm P fin w0 bs (takeSt st n)) : Goal F mm P fin w0 bs st :=
  ⟨fun hF a w hr hw => g.out hF a w hr (hw.front n)⟩
attribute [irreducible] makeOf takeSt
end
end Go.Proofs.YtlppbapofenagaaGreatDoor
