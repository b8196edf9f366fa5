/- Fast7 Fast8 Fast9. -/
import Derived.Test.YtcncfmjfgdbfeabFast6
import Derived.Laws.MakeOwn
namespace Go.Proofs.Ytcncfmjfgdbfeab
open Go.RowKit
noncomputable section

section
variable {P : Program}
/-- two values put together -/
def binSem (op : BinOp) (t : TypeId) (x y : Operand) (a b : Value) : Sem Next := do
  let v ← (do eqGuard op t x y a b; binOp op t a b)
  pure (.value v)
theorem bin_run {op : BinOp} {t : TypeId} {x y : Operand} {a b v v' : Value} {w : World} (h : runQ P (binSem op t x y a b) = some (.value v)) (e : v = v') : (binSem op t x y a b).run P w = .ok (.value v') w := by
  subst e
  exact runQ_run h w
/-- any operation that reads no memory -/
theorem any_run {s : Sem Next} {v v' : Value} {w : World} (h : runQ P s = some (.value v)) (e : v = v') : s.run P w = .ok (.value v') w := by
  subst e
  exact runQ_run h w
theorem wrap_i64 {n : Int} (h : -9223372036854775808 ≤ n) (h' : n ≤ 9223372036854775807) : IntKind.wrap .i64 n = n := by
  have e1 : (2 : Int) ^ IntKind.i64.bits = 18446744073709551616 := by decide
  have e2 : (2 : Int) ^ (IntKind.i64.bits - 1) = 9223372036854775808 := by decide
  unfold IntKind.wrap
  rw [e1, e2]
  simp only [IntKind.signed, Bool.true_and, decide_eq_true_eq]
  split <;> omega
/-- one less than a length -/
theorem len_pred {t : TypeId} {x y : Operand} {m : Nat} {w : World} (h : runQ P (binSem .sub t x y (.int .i64 ((m + 1 : Nat) : Int)) (.int .i64 1)) = some (.value (.int .i64 (IntKind.wrap .i64 (((m + 1 : Nat) : Int) - 1))))) (hm : m ≤ 9223372036854775807) :
    (binSem .sub t x y (.int .i64 ((m + 1 : Nat) : Int)) (.int .i64 1)).run P w = .ok (.value (.int .i64 (m : Int))) w :=
  bin_run h (by rw [wrap_i64 (by omega) (by omega)]; congr 1; omega)
/-- one more than a number -/
theorem nat_succ {t : TypeId} {x y : Operand} {m : Nat} {w : World} (h : runQ P (binSem .add t x y (.int .i64 (m : Int)) (.int .i64 1)) = some (.value (.int .i64 (IntKind.wrap .i64 ((m : Int) + 1))))) (hm : m < 9223372036854775807) :
    (binSem .add t x y (.int .i64 (m : Int)) (.int .i64 1)).run P w = .ok (.value (.int .i64 ((m + 1 : Nat) : Int))) w :=
  bin_run h (by rw [wrap_i64 (by omega) (by omega)]; rfl)
/-- the front of a slice -/
def sliceSem (T : TypeId) (x : Value) (lo hi mx : Option Value) : Sem Next := do
  let v ← Instr.sliceAt T x lo hi mx
  pure (.value v)
theorem front_run {T E : TypeId} {b o n c m sz : Nat} {kk : IntKind} (w : World) (hT : P.underlying T = some (.slice E)) (hs : cellsN P E = some sz) (hm : m ≤ c) :
    (sliceSem T (.slice (some ⟨b, o, none⟩) n c) none (some (.int kk m)) none).run P w = .ok (.value (.slice (some ⟨b, o, none⟩) m c)) w := by
  have hu : (underlying T).run P w = .ok (.slice E) w := by simp [underlying, program, hT, Sem.run, Result.andThen]
  obtain ⟨i, hi, hsz⟩ := Option.map_eq_some_iff.1 hs
  have hz : (sizeOf E).run P w = .ok sz w := by simp [sizeOf, typeInfo, program, hi, hsz, Sem.run, Result.andThen]
  have hb : (Instr.sliceBounds true n c none (some (.int kk m)) none).run P w = .ok (0, m, c) w := by
    have h0 : (0 : Int) ≤ m ∧ (m : Int) ≤ c := by omega
    simp [Instr.sliceBounds, Instr.sliceBound, asIntOf, h0, hm]
  have ha : Addr.add ⟨b, o, none⟩ 0 = ⟨b, o, none⟩ := by simp [Addr.add]
  simp [sliceSem, Instr.sliceAt, Instr.slice, hu, hz, hb, ha, Result.andThen]
end
end
end Go.Proofs.Ytcncfmjfgdbfeab
namespace Go.Proofs.Ytcncfmjfgdbfeab
open Go.RowKit
noncomputable section

section
variable {P : Program}
/-- the address of an array's element -/
theorem arr_run {T E : TypeId} {b o n k sz : Nat} {kk : IntKind} (w : World) (hT : P.underlying T = some (.array n E)) (hs : cellsN P E = some sz) (hk : k < n) :
    (idxSem T (.pointer (some ⟨b, o, none⟩)) (.int kk k)).run P w = .ok (.value (.pointer (some ⟨b, o + k * sz, none⟩))) w := by
  have hu : (underlying T).run P w = .ok (.array n E) w := by simp [underlying, program, hT, Sem.run, Result.andThen]
  obtain ⟨i, hi, hsz⟩ := Option.map_eq_some_iff.1 hs
  have hz : (sizeOf E).run P w = .ok sz w := by simp [sizeOf, typeInfo, program, hi, hsz, Sem.run, Result.andThen]
  have ha : Addr.add ⟨b, o, none⟩ (k * sz) = ⟨b, o + k * sz, none⟩ := add_addr b o (k * sz)
  have h0 : (0 : Int) ≤ k ∧ (k : Int) < n := by omega
  by_cases ht : n ≤ 1
  · simp [idxSem, Instr.indexAt, Instr.sureAddr, asIntOf, hu, hz, h0, hk, ha, Result.andThen]
  · simp [idxSem, Instr.indexAt, Instr.sureAddr, asIntOf, hu, hz, h0, hk, ha, Result.andThen]
end

section
variable {F : Fence} {mm : Nat} {P : Program} {fin : Fin} {w0 : World} {bs : List Nat} {st : St}
theorem g_loopN {X : Type} (live : X → List (Nat × Value)) (H : X → List HE) (μ : X → Nat) (x0 : X) (h : (loopOf st).isSome = true)
    (hk : Known st.t (live x0)) (hh : H x0 = st.hp)
    (g : ∀ x (N : Act → World → Prop), (∀ y, μ y < μ x → ∀ a w, Rep st.n st.ds a (headT st (live y)) → Sat w0 bs (H y) w → N a w) → Goal F mm P fin w0 bs (roundSt st (headT st (live x)) (H x) N)) : Goal F mm P fin w0 bs st :=
  g_loop live H μ x0 h hk hh fun x => g x _ fun y hy _ _ hr hw => ⟨y, hy, hr, hw⟩
def hookOf (st : St) : Option (Act → World → Prop) := match st.l, st.k with
  | [], .hook N :: _ => some N
  | _, _ => none
theorem g_hook {st0 : St} {lv : List (Nat × Value)} {hp' : List HE} {N : Act → World → Prop} (hN : ∀ a w, Rep st0.n st0.ds a (headT st0 lv) → Sat w0 bs hp' w → N a w)
    (hk : (hookOf st).map (fun N a w => N a w) = some N) (hn : st.n = st0.n) (hd : st.ds = st0.ds) (hl : Known st.t lv) (hf : forget st.t (dsts (loopBody st0)) = forget st0.t (dsts (loopBody st0))) (hh : st.hp = hp') : Goal F mm P fin w0 bs st := by
  subst hh
  refine ⟨fun hF a w hr hw => ?_⟩
  have hk' : st.l = [] ∧ ∃ k, st.k = .hook N :: k := by
    unfold hookOf at hk
    split at hk
    · rename_i N' k h1 h2
      simp only [Option.map_some, Option.some.injEq] at hk
      subst hk
      exact ⟨h1, k, h2⟩
    · cases hk
  obtain ⟨h1, k, h2⟩ := hk'
  rw [h1, h2]
  show N a w
  refine hN a w ?_ hw
  unfold headT
  rw [← hn, ← hd, ← hf]
  exact Rep.sets (Rep.forgets hr) (hl.at hr)
end
attribute [irreducible] hookOf
end
end Go.Proofs.Ytcncfmjfgdbfeab
namespace Go.Proofs.Ytcncfmjfgdbfeab
open Go.RowKit
noncomputable section

section
variable {F : Fence} {mm : Nat} {P : Program} {fin : Fin} {w0 : World} {bs : List Nat} {st : St}
def makeOf (st : St) : Option (TypeId × Value × Value) :=
  match st.l with
  | [] => none
  | o :: _ => match wanted? st.ops st.t o with
    | some true => bif (o.op.operands.toList.all fun x => (st.t.ev? x).isSome) then (match o.op with
      | .makeSlice T a x => some (T, st.t.ev a, st.t.ev x)
      | _ => none) else none
    | _ => none
theorem madeCells_one (z0 : Value) (n : Nat) : madeCells #[z0] n = (List.replicate n z0).toArray := by
  apply Array.ext
  · simp [madeCells]
  · intro i h1 h2
    simp [madeCells, Nat.mod_one]
/-- MAKE: a row of so many elements of one cell -/
theorem g_make (T E : TypeId) (n by_ : Nat) (z0 : Value) (h : makeOf st = some (T, .int .i64 (n : Int), .int .i64 (n : Int))) (hT : P.underlying T = some (.slice E))
    (hz : ((P.info? E).map fun ti => (ti.size, ti.bytes, ti.zero.map fun z => z.cells)) = some (1, by_, some #[z0])) (hb : by_ * n ≤ 281474976710656) (hn : n ≤ 9223372036854775807)
    (g : ∀ b, w0.heap.size ≤ b → Goal F mm P fin w0 bs (retSt st (.slice (some ⟨b, 0, none⟩) n n) (st.hp ++ [.obj true b (List.replicate n z0) E]))) : Goal F mm P fin w0 bs st := by
  refine ⟨fun hF a w hr hw => ?_⟩
  have hg := (g w.heap.size hw.kept.size).out hF
  obtain ⟨ti, hti, h2⟩ := Option.map_eq_some_iff.1 hz
  simp only [Prod.mk.injEq] at h2
  obtain ⟨hsz, hby, h3⟩ := h2
  obtain ⟨z, hzero, hcells⟩ := Option.map_eq_some_iff.1 h3
  obtain ⟨n0, ds, ops, l, kk, t, hp⟩ := st
  unfold makeOf at h
  unfold retSt at hg
  simp only at h hr hw hg ⊢
  cases l with
  | nil => cases h
  | cons o rest =>
    simp only at h
    split at h
    · rename_i hwn
      cases hall : (o.op.operands.toList.all fun x => (t.ev? x).isSome) with
      | false => rw [hall] at h; cases h
      | true =>
        rw [hall, cond_true] at h
        split at h
        · rename_i T2 x y hop
          simp only [Option.some.injEq, Prod.mk.injEq] at h
          obtain ⟨rfl, hx, hy⟩ := h
          have hsem : opSem t o = some (execOp t.ev o) := by
            unfold opSem
            rw [hall]
            simp [noSel, hop]
          have hm := run_make (P := P) w T2 E ti z hT hti hzero .i64 .i64 n n (by omega) (by omega) (by
            have h4 : ((by_ * n : Nat) : Int) ≤ 281474976710656 := by omega
            rw [hby]
            rwa [Int.natCast_mul] at h4) (by omega)
          rw [hsz, Nat.mul_one, hcells, Int.toNat_natCast, madeCells_one] at hm
          have hrun : (execOp t.ev o).run P w = .ok (.value (.slice (some ⟨w.heap.size, 0, none⟩) n n)) { w with heap := w.heap.push (.cells (List.replicate n z0).toArray E (0, 0)) } := by
            unfold execOp
            simp only [hop, hx, hy]
            simp only [Sem.run_bind, hm, Result.andThen]
            rfl
          unfold wpListIn
          rw [hr.wanted hwn, if_pos rfl]
          refine ⟨fun f _ => hF.fn f, ?_⟩
          rw [Oper.semAt_eq _ _ _ (noDefer (opSem_noSel hsem)), hr.opSem hsem, hrun]
          exact hg _ _ (hr.put _ _) (hw.alloc _ _)
        · cases h
    · cases h
end
/-- what is known of the last blocks is let go -/
def takeSt (st : St) (n : Nat) : St := { st with hp := st.hp.take n }
theorem Sat.front {w0 w : World} {bs : List Nat} {hp : List HE} (h : Sat w0 bs hp w) (n : Nat) : Sat w0 bs (hp.take n) w :=
  ⟨h.kept, fun e he => h.holds e (List.mem_of_mem_take he), fun i j e e' hij hi hj => h.apart i j e e' hij (by rw [List.getElem?_take] at hi; split at hi; exact hi; cases hi) (by rw [List.getElem?_take] at hj; split at hj; exact hj; cases hj)⟩
theorem g_take {F : Fence} {mm : Nat} {P : Program} {fin : Fin} {w0 : World} {bs : List Nat} {st : St} (n : Nat) (g : Goal F mm P fin w0 bs (takeSt st n)) : Goal F mm P fin w0 bs st :=
  ⟨fun hF a w hr hw => g.out hF a w hr (hw.front n)⟩
attribute [irreducible] makeOf takeSt
end
end Go.Proofs.Ytcncfmjfgdbfeab
