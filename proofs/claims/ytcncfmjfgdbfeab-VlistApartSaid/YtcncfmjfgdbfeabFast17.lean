/- regions that draw, with calls that make memory: an operation whose value a lemma tells. -/
import Derived.Test.YtcncfmjfgdbfeabFast16
namespace Go.Proofs.Ytcncfmjfgdbfeab
open Go.RowKit

noncomputable section
variable {P : Program} {w0 : World} {bs : List Nat} {st : St}
def semAt (st : St) (i : Nat) (T : Tr) : Option (Sem Next) := match opAt st i with
  | some (ops, o) => match wanted? ops T o with
    | some true => opSem T o
    | _ => none
  | none => none
/-- an operation that is no call, its value by a lemma -/
theorem aSem1 {h i : Nat} {W : VP} (d : Nat) (sl : List (Nat × Option Value)) (hdst : dstAt st i = some d) (hc : (outsA st h).contains d = true) (h1 : slotsOk st h i sl = true) (h2 : slotsEq st sl = slotsVal sl)
    (hk : ∀ w, Sat w0 bs st.hp w → AllL W w sl (fun T => ∃ s v, semAt st i T = some s ∧ s.run P w = .ok (.value v) w ∧ W d v w) .nil) : AAt P w0 bs st h W i := by
  refine ⟨fun ops o ho => ?_⟩
  simp only [slotsOk, Bool.and_eq_true, decide_eq_true_eq] at h1
  have hsl : slotsAt st i = slotsOf ops o := by unfold slotsAt; rw [ho]
  have hda : dstAt st i = o.dst := by unfold dstAt; rw [ho]; rfl
  refine AOp.of (sl.map Prod.fst) (hsl.symm.trans h1.1) fun w hC => ?_
  have hmono : ∀ (l : List (Nat × Option Value)) (T : Tr), AllL W w l (fun T => ∃ s v, semAt st i T = some s ∧ s.run P w = .ok (.value v) w ∧ W d v w) T → AllL W w l (ADo P ops (Sat w0 bs st.hp) (knownV st.t (outsA st h) W) o w) T := by
    intro l
    induction l with
    | nil =>
      rintro T ⟨s, v, he, hr, hv⟩
      unfold semAt at he
      rw [ho] at he
      simp only at he
      split at he
      · rename_i hwn
        refine .inr ⟨hwn, s, he, .inl ⟨v, w, hr, hC, Kept.refl w, fun d' hdd => ?_⟩⟩
        rw [← hda, hdst] at hdd
        obtain rfl := Option.some.inj hdd
        exact .inl ⟨hc, hv⟩
      · cases he
    | cons p l ih =>
      obtain ⟨s, u⟩ := p
      cases u with
      | some u => exact fun T hl => ih _ hl
      | none => exact fun T hl v hv => ih _ (hl v hv)
  exact allL_allV h1.2 h2 (hmono sl .nil (hk w hC))
/-! ### an operation that makes a block -/
def newAt (P : Program) (st : St) (i : Nat) (T : Tr) (b : Nat) : Option (Value × List Value × TypeId) := match opAt st i with
  | some (ops, o) => match wanted? ops T o with
    | some true => match opSem T o with
      | some s => match toNew P s with
        | some (c, E, k) => match runQ P (k b) with
          | some (.value v) => some (v, c, E)
          | _ => none
        | none => none
      | none => none
    | _ => none
  | none => none
/-- an operation that makes a block, at any time -/
theorem aNew1 {h i : Nat} {W : VP} (d : Nat) (sl : List (Nat × Option Value)) (hdst : dstAt st i = some d) (hc : (outsA st h).contains d = true) (h1 : slotsOk st h i sl = true) (h2 : slotsEq st sl = slotsVal sl)
    (hk : ∀ w, Sat w0 bs st.hp w → AllL W w sl (fun T => ∃ v c E, newAt P st i T w.heap.size = some (v, c, E) ∧ ∀ w', Kept w w' → w'.heap[w.heap.size]? = some (.cells c.toArray E (0, 0)) → W d v w') .nil) : AAt P w0 bs st h W i := by
  refine ⟨fun ops o ho => ?_⟩
  simp only [slotsOk, Bool.and_eq_true, decide_eq_true_eq] at h1
  have hsl : slotsAt st i = slotsOf ops o := by unfold slotsAt; rw [ho]
  have hda : dstAt st i = o.dst := by unfold dstAt; rw [ho]; rfl
  refine AOp.of (sl.map Prod.fst) (hsl.symm.trans h1.1) fun w hC => ?_
  have hmono : ∀ (l : List (Nat × Option Value)) (T : Tr), AllL W w l (fun T => ∃ v c E, newAt P st i T w.heap.size = some (v, c, E) ∧ ∀ w', Kept w w' → w'.heap[w.heap.size]? = some (.cells c.toArray E (0, 0)) → W d v w') T → AllL W w l (ADo P ops (Sat w0 bs st.hp) (knownV st.t (outsA st h) W) o w) T := by
    intro l
    induction l with
    | nil =>
      rintro T ⟨v, c, E, he, hv⟩
      unfold newAt at he
      rw [ho] at he
      simp only at he
      split at he
      · rename_i hwn
        split at he
        · rename_i s hs1
          split at he
          · rename_i c' E' k hn
            split at he
            · rename_i v' hv'
              simp only [Option.some.injEq, Prod.mk.injEq] at he
              obtain ⟨rfl, rfl, rfl⟩ := he
              have hkk : Kept w { w with heap := w.heap.push (.cells c'.toArray E' (0, 0)) } := (Kept.refl w).alloc (Nat.le_refl _) (.cells c'.toArray E' (0, 0))
              refine .inr ⟨hwn, s, hs1, .inl ⟨v', { w with heap := w.heap.push (.cells c'.toArray E' (0, 0)) }, ?_, hC.of_kept hkk, hkk, fun d' hdd => ?_⟩⟩
              · rw [toNew_run hn, runQ_run hv']
              · rw [← hda, hdst] at hdd
                obtain rfl := Option.some.inj hdd
                exact .inl ⟨hc, hv _ hkk (by simp)⟩
            · cases he
          · cases he
        · cases he
      · cases he
    | cons p l ih =>
      obtain ⟨s, u⟩ := p
      cases u with
      | some u => exact fun T hl => ih _ hl
      | none => exact fun T hl v hv => ih _ (hl v hv)
  exact allL_allV h1.2 h2 (hmono sl .nil (hk w hC))
end
end Go.Proofs.Ytcncfmjfgdbfeab
