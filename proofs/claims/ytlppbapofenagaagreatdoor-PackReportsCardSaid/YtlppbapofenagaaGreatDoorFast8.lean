/- The second way to walk: a loop's round, what is asked at its end behind a letter. -/
import Derived.Test.YtlppbapofenagaaGreatDoorFast7
namespace Go.Proofs.YtlppbapofenagaaGreatDoor
open Go.RowKit
noncomputable section

section
variable {P : Program}
/-- the address of an array's element -/
theorem arr_run {T E : TypeId} {b o n k sz : Nat} {kk : IntKind} (w : World) (hT : P.underlying T = some (.array n E)) (hs : cellsN P E = some sz) (hk : k < n) :
    (idxSem T (.pointer (some ⟨b, o, none⟩)) (.int kk k)).run P w = .ok (.value (.pointer (some ⟨b, o + k * sz, none⟩))) w := by
  have hu : (underlying T).run P w = .ok (.array n E) w := by simp [underlying, program, hT, Sem.run, Result.andThen]
  obtain ⟨i, hi, hsz⟩ := Option.map_eq_some_iff.1 hs
  have hz : (sizeOf E).run P w = .ok sz w := by simp [sizeOf, typeInfo, program, hi, hsz, Sem.run, Result.andThen]
  have ha : Addr.add ⟨b, o, none⟩ (k * sz) = ⟨b, o + k * sz, none⟩ := add_addr b o (k * sz)
  have h0 : (0 : Int) ≤ k ∧ (k : Int) < n := by omega
  by_cases ht : n ≤ 1
  · simp [idxSem, Instr.indexAt, Instr.sureAddr, asIntOf, hu, hz, h0, hk, ha, Result.andThen]
  · simp [idxSem, Instr.indexAt, Instr.sureAddr, asIntOf, hu, hz, h0, hk, ha, Result.andThen]
end

section
variable {F : Fence} {mm : Nat} {P : Program} {fin : Fin} {w0 : World} {bs : List Nat} {st : St}
theorem g_loopN {X : Type} (live : X → List (Nat × Value)) (H : X → List HE) (μ : X → Nat) (x0 : X) (h : (loopOf st).isSome = true)
    (hk : Known st.t (live x0)) (hh : H x0 = st.hp)
    (g : ∀ x (N : Act → World → Prop), (∀ y, μ y < μ x → ∀ a w, Rep st.n st.ds a (headT st (live y)) → Sat w0 bs (H y) w → N a w) → Goal F mm P fin w0 bs (roundSt st (headT st (live x)) (H x) N)) : Goal F mm P fin w0 bs st :=
  g_loop live H μ x0 h hk hh fun x => g x _ fun y hy _ _ hr hw => ⟨y, hy, hr, hw⟩
def hookOf (st : St) : Option (Act → World → Prop) := match st.l, st.k with
  | [], .hook N :: _ => some N
  | _, _ => none
theorem g_hook {st0 : St} {lv : List (Nat × Value)} {hp' : List HE} {N : Act → World → Prop} (hN : ∀ a w, Rep st0.n st0.ds a (headT st0 lv) → Sat w0 bs hp' w → N a w)
    (hk : (hookOf st).map (fun N a w => N a w) = some N) (hn : st.n = st0.n) (hd : st.ds = st0.ds) (hl : Known st.t lv) (hf : forget st.t (dsts (loopBody st0)) = forget st0.t (dsts (loopBody st0))) (hh : st.hp = hp') : Goal F mm P fin w0 bs st := by
  subst hh
  refine ⟨fun hF a w hr hw => ?_⟩
  have hk' : st.l = [] ∧ ∃ k, st.k = .hook N :: k := by
    unfold hookOf at hk
    split at hk
    · rename_i N' k h1 h2
      simp only [Option.map_some, Option.some.injEq] at hk
      subst hk
      exact ⟨h1, k, h2⟩
    · cases hk
  obtain ⟨h1, k, h2⟩ := hk'
  rw [h1, h2]
  show N a w
  refine hN a w ?_ hw
  unfold headT
  rw [← hn, ← hd, ← hf]
  exact Rep.sets (Rep.forgets hr) (hl.at hr)
end
attribute [irreducible] hookOf
end
end Go.Proofs.YtlppbapofenagaaGreatDoor
