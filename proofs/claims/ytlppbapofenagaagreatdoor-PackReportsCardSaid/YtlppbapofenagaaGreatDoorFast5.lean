/- The second way to walk: indexes and rows that are letters. -/
import Derived.Test.YtlppbapofenagaaGreatDoorFast4
namespace Go.Proofs.YtlppbapofenagaaGreatDoor
open Go.RowKit
noncomputable section

section
variable {P : Program}

/-- the address of an element -/
def idxSem (T : TypeId) (x i : Value) : Sem Next := do
  let v ← Instr.indexAt T x i
  pure (.value v)
theorem idx_run {T E : TypeId} {b o n c k sz : Nat} {kk : IntKind} (w : World) (hT : P.underlying T = some (.slice E)) (hs : cellsN P E = some sz) (hk : k < n) :
    (idxSem T (.slice (some ⟨b, o, none⟩) n c) (.int kk k)).run P w = .ok (.value (.pointer (some ⟨b, o + k * sz, none⟩))) w := by
  have hu : (underlying T).run P w = .ok (.slice E) w := by simp [underlying, program, hT, Sem.run, Result.andThen]
  obtain ⟨i, hi, hsz⟩ := Option.map_eq_some_iff.1 hs
  have hz : (sizeOf E).run P w = .ok sz w := by simp [sizeOf, typeInfo, program, hi, hsz, Sem.run, Result.andThen]
  have h0 : (0 : Int) ≤ k ∧ (k : Int) < n := by omega
  have ha : Addr.add ⟨b, o, none⟩ (k * sz) = ⟨b, o + k * sz, none⟩ := by
    unfold Addr.add
    by_cases e : k * sz = 0
    · rw [if_pos e, e, Nat.add_zero]
    · rw [if_neg e]
  simp [idxSem, Instr.indexAt, asIntOf, hu, hz, h0, hk, ha, Result.andThen]

/-- a load -/
def loadSem (T : TypeId) (p : Value) : Sem Next := do
  let v ← Instr.loadAt T p
  pure (.value v)
theorem load1_run {T : TypeId} {a : Addr} {v : Value} {w : World} (hT : runQ P (isAgg T) = some false) (hc : w.cell? a = some v) : (loadSem T (.pointer (some a))).run P w = .ok (.value v) w := by
  have h1 := runQ_run hT w
  simp [loadSem, Instr.loadAt, Instr.sureAddr, loadVar, h1, load, Sem.run, Result.andThen, hc]
theorem loadCells_run {a : Addr} {w : World} : ∀ (vs : List Value) (i : Nat) (acc : Array Value), (∀ j v, vs[j]? = some v → w.cell? (a.add (i + j)) = some v) →
    (loadCellsFrom a i vs.length acc).run P w = .ok (acc ++ vs.toArray) w
  | [], i, acc, _ => by simp [loadCellsFrom]
  | v :: vs, i, acc, h => by
    have h0 := h 0 v rfl
    rw [Nat.add_zero] at h0
    have ih := loadCells_run (a := a) (w := w) vs (i + 1) (acc.push v) (fun j u hu => by
      have := h (j + 1) u (by simpa using hu)
      rwa [show i + (j + 1) = i + 1 + j by omega] at this)
    simp only [List.length_cons, loadCellsFrom, load, Sem.run_bind, Sem.run, h0, Result.andThen, ih]
    simp
theorem loadN_run {T : TypeId} {a : Addr} {vs : List Value} {n : Nat} {w : World} (hT : runQ P (isAgg T) = some true) (hn : cellsN P T = some n) (hl : vs.length = n) (hc : ∀ j v, vs[j]? = some v → w.cell? (a.add j) = some v) :
    (loadSem T (.pointer (some a))).run P w = .ok (.value (.agg vs.toArray)) w := by
  have h1 := runQ_run hT w
  obtain ⟨i, hi, hsz⟩ := Option.map_eq_some_iff.1 hn
  have hz : (sizeOf T).run P w = .ok n w := by simp [sizeOf, typeInfo, program, hi, hsz, Sem.run, Result.andThen]
  have h2 := loadCells_run (P := P) (a := a) (w := w) vs 0 #[] (fun j v hv => by rw [Nat.zero_add]; exact hc j v hv)
  rw [hl] at h2
  simp [loadSem, Instr.loadAt, Instr.sureAddr, loadVar, loadCells, h1, hz, h2, Result.andThen]

theorem Sat.rowcell {w0 w : World} {bs : List Nat} {hp : List HE} {i b off sz n k j : Nat} {f : Nat → List Value} {v : Value} (h : Sat w0 bs hp w) (hi : hp[i]? = some (.row b off sz n f)) (hk : k < n) (hj : (f k)[j]? = some v) :
    w.cell? ⟨b, off + k * sz + j, none⟩ = some v :=
  ((h.holds _ (List.mem_of_getElem? hi)) (Nat.lt_of_le_of_lt (Nat.zero_le _) hk)).2 k hk j v hj
theorem add_addr (b o j : Nat) : Addr.add ⟨b, o, none⟩ j = ⟨b, o + j, none⟩ := by
  unfold Addr.add
  by_cases e : j = 0
  · rw [if_pos e, e, Nat.add_zero]
  · rw [if_neg e]
/-- an element of a row, whole -/
theorem Sat.rowload {T : TypeId} {w0 w : World} {bs : List Nat} {hp : List HE} {i b off sz n k : Nat} {f : Nat → List Value} (h : Sat w0 bs hp w) (hi : hp[i]? = some (.row b off sz n f)) (hk : k < n)
    (hT : runQ P (isAgg T) = some true) (hn : cellsN P T = some sz) (hl : (f k).length = sz) : (loadSem T (.pointer (some ⟨b, off + k * sz, none⟩))).run P w = .ok (.value (.agg (f k).toArray)) w :=
  loadN_run hT hn hl (fun j v hv => by rw [add_addr]; exact h.rowcell hi hk hv)
/-- one cell of an element of a row -/
theorem Sat.rowload1 {T : TypeId} {w0 w : World} {bs : List Nat} {hp : List HE} {i b off sz n k j : Nat} {f : Nat → List Value} {v : Value} (h : Sat w0 bs hp w) (hi : hp[i]? = some (.row b off sz n f)) (hk : k < n)
    (hT : runQ P (isAgg T) = some false) (hj : (f k)[j]? = some v) : (loadSem T (.pointer (some ⟨b, off + k * sz + j, none⟩))).run P w = .ok (.value v) w :=
  load1_run hT (h.rowcell hi hk hj)
/-- a cell of a known block at a letter's place -/
theorem Sat.objload1 {T T' : TypeId} {w0 w : World} {bs : List Nat} {hp : List HE} {i b k : Nat} {own : Bool} {cs : List Value} {v : Value} (h : Sat w0 bs hp w) (hi : hp[i]? = some (.obj own b cs T')) (hv : cs[k]? = some v)
    (hT : runQ P (isAgg T) = some false) : (loadSem T (.pointer (some ⟨b, k, none⟩))).run P w = .ok (.value v) w :=
  load1_run hT (cell_obj (h.obj hi) hv)
end

section
variable {F : Fence} {mm : Nat} {P : Program} {fin : Fin} {w0 : World} {bs : List Nat} {st : St}
/-- a store of one cell into a known block, at a letter's place -/
def storeOf (st : St) : Option (TypeId × Value × Value) :=
  match st.l with
  | [] => none
  | o :: _ => match wanted? st.ops st.t o with
    | some true => bif (o.op.operands.toList.all fun x => (st.t.ev? x).isSome) then (match o.op with
      | .store T a x => some (T, st.t.ev a, st.t.ev x)
      | _ => none) else none
    | _ => none
theorem g_store1 (i : Nat) (T T' : TypeId) (b k : Nat) (cs : List Value) (v : Value) (h : storeOf st = some (T, .pointer (some ⟨b, k, none⟩), v)) (hi : st.hp[i]? = some (.obj true b cs T')) (hk : k < cs.length) (hv : cellV v = true) (hT : cellsN P T = some 1)
    (g : Goal F mm P fin w0 bs (retSt st undef (st.hp.set i (.obj true b (cs.set k v) T')))) : Goal F mm P fin w0 bs st := by
  refine ⟨fun hF a w hr hw => ?_⟩
  have hg := g.out hF
  obtain ⟨n, ds, ops, l, kk, t, hp⟩ := st
  unfold storeOf at h
  unfold retSt at hg
  simp only at h hr hw hi hg ⊢
  cases l with
  | nil => cases h
  | cons o rest =>
    simp only at h
    split at h
    · rename_i hwn
      cases hall : (o.op.operands.toList.all fun x => (t.ev? x).isSome) with
      | false => rw [hall] at h; cases h
      | true =>
        rw [hall, cond_true] at h
        split at h
        · rename_i T2 x y hop
          simp only [Option.some.injEq, Prod.mk.injEq] at h
          obtain ⟨rfl, hx, hy⟩ := h
          have hsem : opSem t o = some (execOp t.ev o) := by
            unfold opSem
            rw [hall]
            simp [noSel, hop]
          have hc : w.cell? ⟨b, k, none⟩ = some (cs[k]'hk) := cell_obj (hw.obj hi) (by simp [hk])
          have hf : w.frozen? ⟨b, k, none⟩ = false := by simp [World.frozen?, hw.obj hi]
          have hst := hw.store (off := k) hi v
          obtain ⟨ti, hti, hsz⟩ := Option.map_eq_some_iff.1 hT
          have hz : (sizeOf T2).run P w = .ok 1 w := by simp [sizeOf, typeInfo, program, hti, hsz, Sem.run, Result.andThen]
          have hcells : v.cells = #[v] := by cases v <;> first | rfl | (simp [cellV] at hv; done)
          have ha : Addr.add ⟨b, k, none⟩ 0 = ⟨b, k, none⟩ := rfl
          have hrun : (execOp t.ev o).run P w = .ok .skip (w.setCell ⟨b, k, none⟩ v) := by
            unfold execOp
            simp only [hop, hx, hy]
            have hst1 : (storeCells ⟨b, k, none⟩ [v] 0).run P w = .ok () (w.setCell ⟨b, k, none⟩ v) := by
              cases v <;> first | (simp [cellV] at hv; done) | simp [storeCells, store, ha, Sem.run, hc, hf]
            simp [Instr.storeAt, Instr.sureAddr, storeVar, hcells, hz, hst1, Result.andThen]
          unfold wpListIn
          rw [hr.wanted hwn, if_pos rfl]
          refine ⟨fun f _ => hF.fn f, ?_⟩
          rw [Oper.semAt_eq _ _ _ (noDefer (opSem_noSel hsem)), hr.opSem hsem, hrun]
          exact hg _ _ (hr.put _ _) hst
        · cases h
    · cases h
end
attribute [irreducible] storeOf
end
end Go.Proofs.YtlppbapofenagaaGreatDoor
