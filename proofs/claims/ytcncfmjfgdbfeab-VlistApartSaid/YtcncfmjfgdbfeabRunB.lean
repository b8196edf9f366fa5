/- Closed runs over a block that came in. -/
import Derived.Test.YtcncfmjfgdbfeabRun5
namespace Go.Proofs.Ytcncfmjfgdbfeab
open Go.RowKit
noncomputable section
namespace Run
variable {P : Program}
def memB (b : Nat) (cs : List Value) (E : TypeId) (hs : List Nat) : Mem := ⟨.node (some ⟨false, b, .cells (L.ofList cs) E⟩) .nil .nil, 1, 0, hs, [], []⟩
/-- the same, of a block that came in -/
theorem closedB (hmix : P.follows .mixedOrders = true) {f : FuncId} {args : List Value} {v : Value} (hs : List Nat) (n b : Nat) (cs : List Value) (E : TypeId)
    (h : ∀ A : Nat → Nat, (match (recN P false n).fn f args A (memB b cs E hs) with
      | some (u, m) => some (u, m.eqs.map fun (c : List (Nat × Nat)) => c.map Prod.fst)
      | none => none) = (match (recN P false n).fn f args A (memB b cs E hs) with
      | some (_, m) => some (v, m.eqs.map fun (c : List (Nat × Nat)) => c.map Prod.snd)
      | none => some (v, [[0]]))) (w : World) (hb : w.heap[b]? = some (.cells cs.toArray E (0, 0))) :
    Calls P f args.toArray w fun e w' => e = .returned v ∧ Kept w w' := by
  have S := sound P hmix n
  have he : Ends ((recN P false n).fn f args) (fun _ => 0) (memB b cs E hs) fun _ u _ => u = v := fun A _ => by
    have := h A
    split at this
    · rename_i u m hr
      simp only [Option.some.injEq, Prod.mk.injEq] at this
      refine ⟨u, m, hr, fun c hc => ?_, this.1⟩
      refine AllEq.of_map ?_
      have h2 : ∀ (l : List (List (Nat × Nat))), (l.map fun (c : List (Nat × Nat)) => c.map Prod.fst) = (l.map fun (c : List (Nat × Nat)) => c.map Prod.snd) → ∀ c ∈ l, c.map Prod.fst = c.map Prod.snd := by
        intro l
        induction l with
        | nil => intro _ c hc; cases hc
        | cons d l ih =>
          intro h c hc
          simp only [List.map_cons, List.cons.injEq] at h
          rcases List.mem_cons.1 hc with rfl | hc
          · exact h.1
          · exact ih h.2 c hc
      exact h2 _ this.2 c hc
    · cases this
  have hg : ∀ i e, (memB b cs E hs).hp.get i = some e → e = ⟨false, b, .cells (L.ofList cs) E⟩ := fun i e hi => by
    cases i with
    | zero => simp only [memB, T.get_zero, Option.some.injEq] at hi; exact hi.symm
    | succ i => simp only [memB, T.get_succ, T.get_nil] at hi; cases hz : Nat.beq (i % 2) 0 <;> rw [hz] at hi <;> cases hi
  have h0 : SatR ⟨w, []⟩ (memB b cs E hs).hp w := ⟨Kept.refl w, fun i e hi => by rw [hg i e hi]; exact ⟨_, hb, by simp [MK.ok]⟩, fun i e hi ho => by rw [hg i e hi] at ho; (cases ho), fun i j e e' _ hi _ ho => by rw [hg i e hi] at ho; (cases ho), fun p hp => (by cases hp), fun p hp => (by cases hp)⟩
  refine (S.fn h0 he).mono ?_
  rintro e w' ⟨u, A, m', rfl, h5, rfl⟩
  exact ⟨rfl, h5.kept⟩
end Run
end
end Go.Proofs.Ytcncfmjfgdbfeab
