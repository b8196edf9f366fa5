/- The second way to walk: regions that draw, whose calls make memory: what they give is told by a property, not by its value. -/
import Derived.Test.YtcncfmjfgdbfeabM29
namespace Go.Proofs.Ytcncfmjfgdbfeab
open Go.RowKit
noncomputable section
abbrev VP := Nat → Value → World → Prop
def ADo (P : Program) (ops : Array Oper) (C : World → Prop) (V : VP) (o : Oper) (w : World) (T : Tr) : Prop :=
 (wanted? ops T o = some false ∧ ∀ d, o.dst = some d → V d undef w) ∨
 (wanted? ops T o = some true ∧ ∃ s, opSem T o = some s ∧ ((∃ v w', (s.run P w = .ok (.value v) w' ∨ s.run P w = .ok .skip w' ∧ v = undef) ∧ C w' ∧ Kept w w' ∧ ∀ d, o.dst = some d → V d v w') ∨
  (∃ f args, s.run P w = .ok (.enter f args) w ∧ Calls P f args w fun e w' => ∃ v, e = .returned v ∧ C w' ∧ Kept w w' ∧ ∀ d, o.dst = some d → V d v w')))
structure AOp (P : Program) (ops : Array Oper) (C : World → Prop) (V : VP) (o : Oper) : Prop where
 out : ∀ (T : Tr) (w : World), C w → (∀ s ∈ slotsOf ops o, ∃ v, T.get s = some v ∧ V s v w) → ADo P ops C V o w T
def AllV (V : VP) (w : World) : List Nat → (Tr → Prop) → Tr → Prop
 | [], k, T => k T
 | s :: r, k, T => ∀ v, V s v w → AllV V w r k (T.set s (some v))
theorem allV_get {V : VP} {w : World} {k : Tr → Prop} {T : Tr} : ∀ {l : List Nat} {T0 : Tr}, (∀ s ∈ l, ∃ v, T.get s = some v ∧ V s v w) → AllV V w l k T0 → ∃ T1, k T1 ∧ (∀ s ∈ l, T1.get s = T.get s) ∧ ∀ s, s ∉ l → T1.get s = T0.get s
 | [], T0, _, h => ⟨T0, h, fun s hs => (by cases hs), fun _ _ => rfl⟩
 | s :: r, T0, hT, h => by
  obtain ⟨v, h1, h2⟩ := hT s (by simp)
  obtain ⟨T1, q1, q2, q3⟩ := allV_get (l := r) (fun s hs => hT s (by simp [hs])) (h v h2)
  refine ⟨T1, q1, fun i hi => ?_, fun i hi => ?_⟩
  ·by_cases hir : i ∈ r
   ·exact q2 i hir
   have : i = s := by
    rcases List.mem_cons.1 hi with e | e
    ·exact e
    exact absurd e hir
   subst this
   rw [q3 i hir, Tr.get_set, if_pos rfl, h1]
  rw [q3 i (fun h => hi (by simp [h])), Tr.get_set, if_neg (fun e => hi (by simp [e]))]
theorem AOp.of {P : Program} {ops : Array Oper} {C : World → Prop} {V : VP} {o : Oper} (slots : List Nat) (hs : slotsOf ops o = slots) (h : ∀ w, C w → AllV V w slots (ADo P ops C V o w) .nil) : AOp P ops C V o := by
 refine ⟨fun T w hC hT => ?_⟩
 rw [hs] at hT
 obtain ⟨T1, h1, h2, _⟩ := allV_get hT (h w hC)
 have hag : ∀ s ∈ slotsOf ops o, T.get s = T1.get s := fun s hm => (h2 s (by rwa [hs] at hm)).symm
 rcases h1 with ⟨q1, q2⟩ | ⟨q1, s, q2, q3⟩
 ·exact .inl ⟨(wanted_agree hag).trans q1, q2⟩
 exact .inr ⟨(wanted_agree hag).trans q1, s, opSem_agree hag q2, q3⟩
theorem tr_of (f : Nat → Option Value) : ∀ n, ∃ T : Tr, ∀ s, s < n → T.get s = f s
 | 0 => ⟨.nil, fun _ h => by omega⟩
 | n + 1 => by
  obtain ⟨T, h⟩ := tr_of f n
  refine ⟨T.set n (f n), fun s hs => ?_⟩
  rw [Tr.get_set]
  by_cases e : s = n
  ·rw [if_pos e, e]
  rw [if_neg e]; exact h s (by omega)
def outsOf (l : List Oper) : List Nat := l.filterMap (·.dst)
def knownV (t : Tr) (outs : List Nat) (W : VP) : VP := fun s v w => (outs.contains s = true ∧ W s v w) ∨ (outs.contains s = false ∧ t.get s = some v)
def readsB (ops : Array Oper) (t : Tr) (h : Nat) : Bool := (ops.toList.take h).all fun o => (slotsOf ops o).all fun s => (outsOf (ops.toList.take h)).contains s || (t.get s).isSome
section
variable {P : Program}
structure AInv (n h : Nat) (ds : List Deferred) (ops : Array Oper) (t : Tr) (W : VP) (listed : Array Bool) (a : Act) (w : World) : Prop where
 head : HeadInv .any ops h listed
 size : a.tmps.size = n
 defers : a.defers = ds
 at_ : ∀ s, ((outsOf (ops.toList.take h)).contains s = true ∨ (t.get s).isSome = true) → (∀ j o, j < h → ops[j]? = some o → listed.getD j true = false → o.dst ≠ some s) → ∃ v, a.tmps[s]? = some v ∧ knownV t (outsOf (ops.toList.take h)) W s v w
variable {F : Fence} {mm : Nat} {Q : Exit → Act → World → Prop} {ops : Array Oper} {C : World → Prop} {t : Tr} {W : VP}
theorem outs_mem {h j : Nat} {o : Oper} {d : Nat} (hj : j < h) (ho : ops[j]? = some o) (hd : o.dst = some d) : (outsOf (ops.toList.take h)).contains d = true := by
 rw [List.contains_iff_mem]
 refine List.mem_filterMap.2 ⟨o, List.mem_of_getElem? (i := j) ?_, hd⟩
 rw [List.getElem?_take, if_pos hj]
 simpa using ho
theorem a_head {h n : Nat} {ds : List Deferred} (hF : OpenF F) (hB : headB ops h n = true) (hR : readsB ops t h = true) (hW : ∀ s v w w', W s v w → Kept w w' → W s v w')
  (hE : ∀ j o, j < h → ops[j]? = some o → AOp P ops C (knownV t (outsOf (ops.toList.take h)) W) o)
  (hT : ∀ a w, a.tmps.size = n → a.defers = ds → (∀ s, ((outsOf (ops.toList.take h)).contains s = true ∨ (t.get s).isSome = true) → ∃ v, a.tmps[s]? = some v ∧ knownV t (outsOf (ops.toList.take h)) W s v w) → C w → wpListIn F mm P ops Q (ops.toList.drop h) a w) :
  ∀ (m fuel : Nat) (listed : Array Bool) (a : Act) (w : World), cnt listed h = m → m + (ops.size - h) ≤ fuel → AInv n h ds ops t W listed a w → C w → wpAnyIn F mm P .any ops Q fuel listed a w := by
 have hV : ∀ s v w w', knownV t (outsOf (ops.toList.take h)) W s v w → Kept w w' → knownV t (outsOf (ops.toList.take h)) W s v w' := fun s v w w' hk hkk => by
  rcases hk with ⟨q1, q2⟩ | q
  ·exact .inl ⟨q1, hW s v w w' q2 hkk⟩
  exact .inr q
 intro m
 induction m with
 | zero =>
  intro fuel listed a w hc hf inv hw
  have hall := cnt_zero hc
  refine d_tail hB (ops.size - h) h fuel listed a w (by have := headB_le hB; omega) (Nat.le_refl _) (by omega) inv.head.size hall (fun j hj hjl => inv.head.tail j hj hjl) (hT a w inv.size inv.defers (fun s hs => inv.at_ s hs fun j o hj ho hu => ?_) hw)
  have := hall j hj
  rw [getD_both hu] at this
  cases this
 | succ m ih =>
  intro fuel listed a w hc hf inv hw
  obtain ⟨f, rfl⟩ : ∃ f, fuel = f + 1 := ⟨fuel - 1, by omega⟩
  obtain ⟨i0, hi0, hu0, hl0⟩ := cnt_pos (listed := listed) (h := h) (by omega)
  have hle := headB_le hB
  obtain ⟨o0, ho0⟩ : ∃ o, ops[i0]? = some o := ⟨ops[i0]'(by omega), by simp [show i0 < ops.size by omega]⟩
  have hr0 : i0 ∈ Region.ready .any ops listed := mem_ready.2 ⟨getD_in (by rw [inv.head.size]; omega) hu0, o0, ho0, fun e he hb => hl0 _ (headB_back hB ho0 e he hb)⟩
  refine ⟨fun h0 => (by rw [h0] at hr0; cases hr0), fun i hi => ?_⟩
  obtain ⟨hun, o, ho, hall⟩ := mem_ready.1 hi
  have hil := (Array.getElem?_eq_some_iff.1 ho).1
  have hih : i < h := by
   rcases headB_tail hB with h5 | ⟨h5, h6⟩
   ·omega
   rcases Nat.lt_or_ge i h with h7 | h7
   ·exact h7
   exact absurd hi (tail_waits h5 h6 (by omega) inv.head _ i0 rfl hi0 (getD_in (by rw [inv.head.size]; omega) hu0) i h7)
  obtain ⟨T, hTT⟩ := tr_of (fun s => a.tmps[s]?) (n + 1)
  have hslots : ∀ s ∈ slotsOf ops o, ∃ v, a.tmps[s]? = some v ∧ knownV t (outsOf (ops.toList.take h)) W s v w := fun s hs => by
   have hr := List.all_eq_true.1 (List.all_eq_true.1 hR o (List.mem_of_getElem? (i := i) (by rw [List.getElem?_take, if_pos hih]; simpa using ho))) s hs
   rw [Bool.or_eq_true] at hr
   refine inv.at_ s hr fun j p hj hp hju e => ?_
   obtain ⟨_, hdep⟩ := headB_deps hB hih hj ho hp e
   obtain ⟨ed, hed, hb, hon⟩ := hdep hs
   have := hall ed hed hb
   rw [hon, getD_both hju] at this
   cases this
  have hTs : ∀ s ∈ slotsOf ops o, T.get s = a.tmps[s]? := fun s hs => by
   obtain ⟨v, hv, _⟩ := hslots s hs
   have := (Array.getElem?_eq_some_iff.1 hv).1
   exact hTT s (by rw [inv.size] at this; omega)
  have hTv : ∀ s ∈ slotsOf ops o, ∀ v, T.get s = some v → a.tmps[s]? = some v := fun s hs v hv => (hTs s hs).symm.trans hv
  have hcase := (hE i o hih ho).out T w hw fun s hs => by
   obtain ⟨v, hv, hk⟩ := hslots s hs
   exact ⟨v, (hTs s hs).trans hv, hk⟩
  have hinv : ∀ v w', Kept w w' → (∀ d, o.dst = some d → knownV t (outsOf (ops.toList.take h)) W d v w') → AInv n h ds ops t W (listed.setIfInBounds i true) (a.put o.dst v) w' := fun v w' hk hd => by
   refine ⟨inv.head.set hi hih, ?_, ?_, fun s hs hno => ?_⟩
   ·cases hd : o.dst <;> simp [Act.put, inv.size]
   ·cases hd : o.dst <;> simp [Act.put, inv.defers]
   by_cases e : o.dst = some s
   ·have hsn := (headB_deps hB hih hih ho ho e).1
    refine ⟨v, ?_, hd s e⟩
    rw [e]
    simp [Act.put, inv.size, hsn]
   obtain ⟨u, hu, hku⟩ := inv.at_ s hs fun j p hj hp hju => by
    by_cases ej : i = j
    ·subst ej
     have : p = o := Option.some.inj (hp.symm.trans ho)
     subst this
     exact e
    exact hno j p hj hp (by rw [getD_set_ne true ej]; exact hju)
   refine ⟨u, ?_, hV s u w w' hku hk⟩
   cases hd : o.dst with
   | none => exact hu
   | some d =>
    simp only [Act.put]
    rw [Array.getElem?_setIfInBounds, if_neg (fun e' => e (by rw [hd, e']))]
    exact hu
  have hnext : ∀ v w', C w' → Kept w w' → (∀ d, o.dst = some d → knownV t (outsOf (ops.toList.take h)) W d v w') → wpAnyIn F mm P .any ops Q f (listed.setIfInBounds i true) (a.put o.dst v) w' := fun v w' hw' hk hd => by
   have := cnt_set (listed := listed) (by rw [inv.head.size]; exact hil) (getD_both hun) hih
   exact ih f _ _ w' (by omega) (by omega) (hinv v w' hk hd) hw'
  unfold wpOpIn
  simp only [ho]
  rcases hcase with ⟨hwn, hd⟩ | ⟨hwn, s, hs, hq⟩
  ·rw [wanted_of_slots hTv hwn, if_neg (by simp)]
   exact ⟨fun f _ => hF.fn f, hnext undef w hw (Kept.refl w) hd⟩
  rw [wanted_of_slots hTv hwn, if_pos rfl]
  refine ⟨fun f _ => hF.fn f, ?_⟩
  have hx := rep_of_slots hTv hs
  have hy := Oper.semAt_eq F.round a.eval o (noDefer (opSem_noSel hs))
  rw [hy, hx]
  rcases hq with ⟨v, w', h8, hw', hk, hd⟩ | ⟨fc, args, h8, hcalls⟩
  ·rcases h8 with h8 | ⟨h8, rfl⟩ <;> rw [h8] <;> exact hnext _ w' hw' hk hd
  rw [h8]
  refine ⟨fun h => hF.depth h (m := mm), hF.calls (m := mm - 1) (hcalls.mono ?_)⟩
  rintro e w' ⟨v, rfl, hw', hk, hd⟩
  exact hnext v w' hw' hk hd
theorem wpIn_drawA {h n id : Nat} {ds : List Deferred} {a : Act} {w : World} (hF : OpenF F) (hm : P.follows .mixedOrders = true) (hB : headB ops h n = true) (hR : readsB ops t h = true) (hC : ∀ w k, C w → C { w with drawn := k }) (hw : C w) (hr : Rep n ds a t)
  (hW : ∀ s v w w', W s v w → Kept w w' → W s v w') (hE : ∀ j o, j < h → ops[j]? = some o → AOp P ops C (knownV t (outsOf (ops.toList.take h)) W) o)
  (hT : ∀ a w, a.tmps.size = n → a.defers = ds → (∀ s, ((outsOf (ops.toList.take h)).contains s = true ∨ (t.get s).isSome = true) → ∃ v, a.tmps[s]? = some v ∧ knownV t (outsOf (ops.toList.take h)) W s v w) → C w → wpListIn F mm P ops Q (ops.toList.drop h) a w) : (Code.region id ops true).wpIn F mm P Q a w := by
 refine wpIn_region_any hm ?_
 have hle := headB_le hB
 refine a_head hF hB hR hW hE hT (cnt (Array.replicate ops.size false) h) ops.size _ a _ rfl ?_ ⟨⟨by simp, fun j oj _ hl => ?_, fun t ht htl => ?_⟩, hr.size, hr.defers, fun s hs hno => ?_⟩ (hC w _ hw)
 ·have : ∀ k, cnt (Array.replicate ops.size false) k ≤ k := fun k => by
   induction k with
   | zero => exact Nat.le_refl _
   | succ k ih =>
    simp only [cnt]
    cases (Array.replicate ops.size false).getD k false <;> simp <;> omega
  have := this h
  omega
 ·rw [getD_replicate_false] at hl; cases hl
 ·simp [htl]
 have hout : (outsOf (ops.toList.take h)).contains s = false := by
  cases hc : (outsOf (ops.toList.take h)).contains s with
  | false => rfl
  | true =>
   exfalso
   rw [List.contains_iff_mem] at hc
   obtain ⟨o, ho, hd⟩ := List.mem_filterMap.1 hc
   obtain ⟨j, hj⟩ := List.mem_iff_getElem?.1 ho
   rw [List.getElem?_take] at hj
   by_cases hjh : j < h
   ·rw [if_pos hjh] at hj
    exact hno j o hjh (by simpa using hj) (by simp [show j < ops.size by omega]) hd
   rw [if_neg hjh] at hj; cases hj
 rcases hs with hs | hs
 ·rw [hout] at hs; cases hs
 obtain ⟨v, hv⟩ := Option.isSome_iff_exists.1 hs
 exact ⟨v, hr.at_ s v hv, .inr ⟨hout, hv⟩⟩
end
/-! ### the rule -/
theorem forget_get : ∀ {l : List Nat} {t : Tr} {s : Nat} {v : Value}, (Go.Proofs.Ytcncfmjfgdbfeab.forget t l).get s = some v → s ∉ l ∧ t.get s = some v
 | [], _, _, _, h => ⟨List.not_mem_nil, h⟩
 | d :: l, t, s, v, h => by
  obtain ⟨h1, h2⟩ := forget_get (l := l) h
  rw [Tr.get_set] at h2
  by_cases e : s = d
  ·rw [if_pos e] at h2; cases h2
  rw [if_neg e] at h2
  exact ⟨fun hm => by
   rcases List.mem_cons.1 hm with q | q
   ·exact e q
   exact h1 q, h2⟩
theorem Sat.at' {w0 w : World} {bs : List Nat} {hp hp' : List HE} (h : Sat w0 bs hp w) (e : hp = hp') : Sat w0 bs hp' w := e ▸ h
theorem Sat.plus {w : World} {hp : List HE} {x : Nat} {cs : List Value} {T : TypeId} (h : Sat w [] hp w) (hn : ∀ e ∈ hp, e.own = false) (hx : w.heap[x]? = some (.cells cs.toArray T (0, 0))) : Sat w [] (hp ++ [.obj false x cs T]) w := by
 refine ⟨.refl _ _, fun e he => ?_, fun i j e e' _ hi _ ho => ?_⟩
 ·rcases List.mem_append.1 he with he | he
  ·exact h.holds e he
  rw [List.mem_singleton.1 he]
  exact ⟨hx, fun h => by cases h⟩
 rcases List.mem_append.1 (List.mem_of_getElem? hi) with q | q
 ·rw [hn e q] at ho; cases ho
 rw [List.mem_singleton.1 q] at ho; cases ho
section
variable {F : Fence} {mm : Nat} {P : Program} {fin : Fin} {w0 : World} {bs : List Nat} {st : St}
def outsA (st : St) (h : Nat) : List Nat := match drawOf st with
 | some (ops, _) => outsOf (ops.toList.take h)
 | none => []
def drawR (st : St) (h : Nat) : Bool := match drawOf st with
 | some (ops, _) => readsB ops st.t h
 | none => false
def aSt (st : St) (h : Nat) (vs : List (Nat × Value)) (hp : List HE) : St := match drawOf st with
 | some (ops, k) => { st with ops, l := ops.toList.drop h, k, t := sets (Go.Proofs.Ytcncfmjfgdbfeab.forget st.t (outsA st h)) vs, hp }
 | none => st
def opAt (st : St) (i : Nat) : Option (Array Oper × Oper) := match drawOf st with
 | some (ops, _) => (ops[i]?).map fun o => (ops, o)
 | none => none
def slotsAt (st : St) (i : Nat) : List Nat := match opAt st i with
 | some (ops, o) => slotsOf ops o
 | none => []
def dstAt (st : St) (i : Nat) : Option Nat := (opAt st i).bind fun x => x.2.dst
def AllL (W : VP) (w : World) : List (Nat × Option Value) → (Tr → Prop) → Tr → Prop
 | [], k, T => k T
 | (s, some v) :: r, k, T => AllL W w r k (T.set s (some v))
 | (s, none) :: r, k, T => ∀ v, W s v w → AllL W w r k (T.set s (some v))
structure AAt (P : Program) (w0 : World) (bs : List Nat) (st : St) (h : Nat) (W : VP) (i : Nat) : Prop where
 out : ∀ ops o, opAt st i = some (ops, o) → AOp P ops (Sat w0 bs st.hp) (knownV st.t (outsA st h) W) o
def slotsOk (st : St) (h i : Nat) (sl : List (Nat × Option Value)) : Bool := decide (slotsAt st i = sl.map Prod.fst) && sl.all fun p => (outsA st h).contains p.1 == p.2.isNone
def slotsEq (st : St) (sl : List (Nat × Option Value)) : List (Option Value) := sl.filterMap fun p => match p.2 with
 | some _ => some (st.t.get p.1)
 | none => none
def slotsVal (sl : List (Nat × Option Value)) : List (Option Value) := sl.filterMap fun p => match p.2 with
 | some v => some (some v)
 | none => none
theorem allL_allV {W : VP} {w : World} {h : Nat} {k : Tr → Prop} : ∀ {sl : List (Nat × Option Value)} {T : Tr}, (sl.all fun p => (outsA st h).contains p.1 == p.2.isNone) = true → slotsEq st sl = slotsVal sl → AllL W w sl k T → AllV (knownV st.t (outsA st h) W) w (sl.map Prod.fst) k T
 | [], T, _, _, hl => hl
 | (s, some u) :: r, T, h1, h2, hl => by
  simp only [List.all_cons, Bool.and_eq_true, beq_iff_eq, Option.isNone_some] at h1
  have h3 : st.t.get s = some u ∧ slotsEq st r = slotsVal r := by
   simp only [slotsEq, slotsVal, List.filterMap_cons, List.cons.injEq] at h2
   exact h2
  intro v hv
  rcases hv with ⟨q, _⟩ | ⟨_, q⟩
  ·rw [h1.1] at q; cases q
  rw [h3.1] at q
  obtain rfl := Option.some.inj q
  exact allL_allV h1.2 h3.2 hl
 | (s, none) :: r, T, h1, h2, hl => by
  simp only [List.all_cons, Bool.and_eq_true, beq_iff_eq, Option.isNone_none] at h1
  have h3 : slotsEq st r = slotsVal r := by
   simp only [slotsEq, slotsVal, List.filterMap_cons] at h2
   exact h2
  intro v hv
  rcases hv with ⟨_, q⟩ | ⟨q, _⟩
  ·exact allL_allV h1.2 h3 (hl v q)
  rw [h1.1] at q; cases q
def enterAt (P : Program) (st : St) (i : Nat) (T : Tr) : Option (FuncId × Array Value) := match opAt st i with
 | some (ops, o) => match wanted? ops T o with
  | some true => match opSem T o with
   | some s => match runQ P s with
    | some (.enter f args) => some (f, args)
    | _ => none
   | none => none
  | _ => none
 | none => none
def valueAt (P : Program) (st : St) (i : Nat) (T : Tr) (hs : List Nat) : Option (Value × List (Nat × Nat)) := match opAt st i with
 | some (ops, o) => match wanted? ops T o with
  | some true => match opSem T o with
   | some s => match runR P st.hp s hs with
    | some (.value v, _, e) => some (v, e)
    | _ => none
   | none => none
  | _ => none
 | none => none
theorem aCall {h i : Nat} {W : VP} (sl : List (Nat × Option Value)) (h1 : slotsOk st h i sl = true) (h2 : slotsEq st sl = slotsVal sl) (hd : ∀ d, dstAt st i = some d → (outsA st h).contains d = true)
  (hk : ∀ w, Sat w0 bs st.hp w → AllL W w sl (fun T => ∃ f args, enterAt P st i T = some (f, args) ∧ Calls P f args w fun e w' => ∃ v, e = .returned v ∧ Kept w w' ∧ ∀ d, dstAt st i = some d → W d v w') .nil) : AAt P w0 bs st h W i := by
 refine ⟨fun ops o ho => ?_⟩
 simp only [slotsOk, Bool.and_eq_true, decide_eq_true_eq] at h1
 have hsl : slotsAt st i = slotsOf ops o := by unfold slotsAt; rw [ho]
 have hda : dstAt st i = o.dst := by unfold dstAt; rw [ho]; rfl
 refine AOp.of (sl.map Prod.fst) (hsl.symm.trans h1.1) fun w hC => ?_
 have hmono : ∀ (l : List (Nat × Option Value)) (T : Tr), AllL W w l (fun T => ∃ f args, enterAt P st i T = some (f, args) ∧ Calls P f args w fun e w' => ∃ v, e = .returned v ∧ Kept w w' ∧ ∀ d, dstAt st i = some d → W d v w') T → AllL W w l (ADo P ops (Sat w0 bs st.hp) (knownV st.t (outsA st h) W) o w) T := by
  intro l
  induction l with
  | nil =>
   rintro T ⟨f, args, he, hc⟩
   unfold enterAt at he
   rw [ho] at he
   simp only at he
   split at he
   ·rename_i hwn
    split at he
    ·rename_i s hs
     split at he
     ·rename_i f' args' hq
      simp only [Option.some.injEq, Prod.mk.injEq] at he
      obtain ⟨rfl, rfl⟩ := he
      refine .inr ⟨hwn, s, hs, .inr ⟨f', args', runQ_run hq w, hc.mono ?_⟩⟩
      rintro e w' ⟨v, rfl, hkk, hv⟩
      exact ⟨v, rfl, hC.of_kept hkk, hkk, fun d hdd => .inl ⟨hd d (by rw [hda]; exact hdd), hv d (by rw [hda]; exact hdd)⟩⟩
     cases he
    cases he
   cases he
  | cons p l ih =>
   obtain ⟨s, u⟩ := p
   cases u with
   | some u => exact fun T hl => ih _ hl
   | none => exact fun T hl v hv => ih _ (hl v hv)
 exact allL_allV h1.2 h2 (hmono sl .nil (hk w hC))
theorem aVal {h i : Nat} {W : VP} (sl : List (Nat × Option Value)) (hs : List Nat) (h1 : slotsOk st h i sl = true) (h2 : slotsEq st sl = slotsVal sl) (hd : ∀ d, dstAt st i = some d → (outsA st h).contains d = true)
  (hk : ∀ w, Sat w0 bs st.hp w → AllL W w sl (fun T => ∃ v e, valueAt P st i T hs = some (v, e) ∧ e.map Prod.fst = e.map Prod.snd ∧ ∀ d, dstAt st i = some d → W d v w) .nil) : AAt P w0 bs st h W i := by
 refine ⟨fun ops o ho => ?_⟩
 simp only [slotsOk, Bool.and_eq_true, decide_eq_true_eq] at h1
 have hsl : slotsAt st i = slotsOf ops o := by unfold slotsAt; rw [ho]
 have hda : dstAt st i = o.dst := by unfold dstAt; rw [ho]; rfl
 refine AOp.of (sl.map Prod.fst) (hsl.symm.trans h1.1) fun w hC => ?_
 have hmono : ∀ (l : List (Nat × Option Value)) (T : Tr), AllL W w l (fun T => ∃ v e, valueAt P st i T hs = some (v, e) ∧ e.map Prod.fst = e.map Prod.snd ∧ ∀ d, dstAt st i = some d → W d v w) T → AllL W w l (ADo P ops (Sat w0 bs st.hp) (knownV st.t (outsA st h) W) o w) T := by
  intro l
  induction l with
  | nil =>
   rintro T ⟨v, e, he, hee, hv⟩
   unfold valueAt at he
   rw [ho] at he
   simp only at he
   split at he
   ·rename_i hwn
    split at he
    ·rename_i s hs1
     split at he
     ·rename_i v' hs2 e2 hrun
      simp only [Option.some.injEq, Prod.mk.injEq] at he
      obtain ⟨rfl, rfl⟩ := he
      exact .inr ⟨hwn, s, hs1, .inl ⟨v', w, .inl (runR_run hC hrun (AllEq.of_map hee)), hC, Kept.refl w, fun d hdd => .inl ⟨hd d (by rw [hda]; exact hdd), hv d (by rw [hda]; exact hdd)⟩⟩⟩
     cases he
    cases he
   cases he
  | cons p l ih =>
   obtain ⟨s, u⟩ := p
   cases u with
   | some u => exact fun T hl => ih _ hl
   | none => exact fun T hl v hv => ih _ (hl v hv)
 exact allL_allV h1.2 h2 (hmono sl .nil (hk w hC))
def sizeA (st : St) (h : Nat) : Bool := match drawOf st with
 | some (ops, _) => decide (h ≤ ops.size)
 | none => false
def AllAt (P : Program) (w0 : World) (bs : List Nat) (st : St) (h : Nat) (W : VP) : Nat → Prop
 | 0 => True
 | k + 1 => AllAt P w0 bs st h W k ∧ AAt P w0 bs st h W k
theorem allAt_get {h : Nat} {W : VP} : ∀ {k : Nat}, AllAt P w0 bs st h W k → ∀ i, i < k → AAt P w0 bs st h W i
 | 0, _, i, hi => by omega
 | k + 1, ⟨h1, h2⟩, i, hi => by
  by_cases e : i = k
  ·rw [e]; exact h2
  exact allAt_get h1 i (by omega)
theorem g_drawA {X : Type} (h : Nat) (W : VP) (val : X → List (Nat × Value)) (hp' : X → List HE) (hm : P.follows .mixedOrders = true) (hB : drawOk st h = true) (hR : drawR st h = true) (hW : ∀ s v w w', W s v w → Kept w w' → W s v w')
  (hE : AllAt P w0 bs st h W h) (hX : ∀ w (f : Nat → Value), Sat w0 bs st.hp w → (∀ s, (outsA st h).contains s = true → W s (f s) w) → ∃ x, (∀ p ∈ val x, f p.1 = p.2 ∧ (outsA st h).contains p.1 = true) ∧ Sat w0 bs (hp' x) w)
  (g : ∀ x, Goal F mm P fin w0 bs (aSt st h (val x) (hp' x))) : Goal F mm P fin w0 bs st := by
 refine ⟨fun hF a w hr hw => ?_⟩
 have hEE := fun i (hi : i < h) => (allAt_get hE i hi).out
 obtain ⟨n, ds, ops0, l, k0, t, hp⟩ := st
 unfold drawOk at hB
 unfold drawR at hR
 cases hd : drawOf ⟨n, ds, ops0, l, k0, t, hp⟩ with
 | none => rw [hd] at hB; cases hB
 | some x =>
  obtain ⟨ops, k⟩ := x
  have hout : outsA ⟨n, ds, ops0, l, k0, t, hp⟩ h = outsOf (ops.toList.take h) := by unfold outsA; rw [hd]
  rw [hout] at hX hEE
  have hg := fun x => (g x).out hF
  unfold aSt at hg
  rw [hd, hout] at hg
  rw [hd] at hB hR
  simp only at hB hR hr hw hg ⊢
  have hopAt : ∀ i o, ops[i]? = some o → opAt ⟨n, ds, ops0, l, k0, t, hp⟩ i = some (ops, o) := fun i o ho => by
   unfold opAt
   rw [hd]
   simp only [ho, Option.map_some]
  have hE' : ∀ j o, j < h → ops[j]? = some o → AOp P ops (Sat w0 bs hp) (knownV t (outsOf (ops.toList.take h)) W) o := fun j o hj ho => hEE j hj ops o (hopAt j o ho)
  unfold drawOf at hd
  simp only at hd
  split at hd
  ·simp only [Option.some.injEq, Prod.mk.injEq] at hd
   obtain ⟨rfl, rfl⟩ := hd
   refine wpIn_drawA hF hm hB hR (fun _ k hw => hw.draw k) hw hr hW hE' fun a' w' hs1 hs2 hk hC => ?_
   obtain ⟨x, hx1, hx2⟩ := hX w' (fun s => (a'.tmps[s]?).getD undef) hC fun s hs => by
    obtain ⟨v, hv, hkk⟩ := hk s (.inl hs)
    rcases hkk with ⟨_, q⟩ | ⟨q, _⟩
    ·simp only [hv, Option.getD_some]; exact q
    rw [hs] at q; cases q
   refine hg x a' w' (Rep.sets ⟨hs1, hs2, fun s v hv => ?_⟩ fun p hp => ?_) hx2
   ·obtain ⟨q1, q2⟩ := forget_get hv
    obtain ⟨u, hu, hkk⟩ := hk s (.inr (by rw [q2]; rfl))
    rcases hkk with ⟨q, _⟩ | ⟨_, q⟩
    ·exact absurd (List.contains_iff_mem.1 q) q1
    rw [q2] at q
    obtain rfl := Option.some.inj q
    exact hu
   obtain ⟨q1, q2⟩ := hx1 p hp
   obtain ⟨u, hu, _⟩ := hk p.1 (.inl q2)
   rw [hu] at q1 ⊢
   rw [← q1]; rfl
  cases hd
theorem aCall1 {h i : Nat} {W : VP} (d : Nat) (sl : List (Nat × Option Value)) (hdst : dstAt st i = some d) (hc : (outsA st h).contains d = true) (h1 : slotsOk st h i sl = true) (h2 : slotsEq st sl = slotsVal sl)
  (hk : ∀ w, Sat w0 bs st.hp w → AllL W w sl (fun T => ∃ f args, enterAt P st i T = some (f, args) ∧ Calls P f args w fun e w' => ∃ v, e = .returned v ∧ Kept w w' ∧ W d v w') .nil) : AAt P w0 bs st h W i := by
 refine aCall sl h1 h2 (fun d' hd' => by rw [hdst] at hd'; rw [← Option.some.inj hd']; exact hc) fun w hw => ?_
 have hmono : ∀ (l : List (Nat × Option Value)) (T : Tr), AllL W w l (fun T => ∃ f args, enterAt P st i T = some (f, args) ∧ Calls P f args w fun e w' => ∃ v, e = .returned v ∧ Kept w w' ∧ W d v w') T → AllL W w l (fun T => ∃ f args, enterAt P st i T = some (f, args) ∧ Calls P f args w fun e w' => ∃ v, e = .returned v ∧ Kept w w' ∧ ∀ d, dstAt st i = some d → W d v w') T := by
  intro l
  induction l with
  | nil =>
   rintro T ⟨f, args, he, hcl⟩
   refine ⟨f, args, he, hcl.mono ?_⟩
   rintro e w' ⟨v, h3, h4, h5⟩
   exact ⟨v, h3, h4, fun d' hd' => by rw [hdst] at hd'; rw [← Option.some.inj hd']; exact h5⟩
  | cons p l ih =>
   obtain ⟨s, u⟩ := p
   cases u with
   | some u => exact fun T hl => ih _ hl
   | none => exact fun T hl v hv => ih _ (hl v hv)
 exact hmono sl .nil (hk w hw)
theorem aVal1 {h i : Nat} {W : VP} (d : Nat) (sl : List (Nat × Option Value)) (hs : List Nat) (hdst : dstAt st i = some d) (hc : (outsA st h).contains d = true) (h1 : slotsOk st h i sl = true) (h2 : slotsEq st sl = slotsVal sl)
  (hk : ∀ w, Sat w0 bs st.hp w → AllL W w sl (fun T => ∃ v, (valueAt P st i T hs).map Prod.fst = some v ∧ (valueAt P st i T hs).map (fun x => x.2.map Prod.fst) = (valueAt P st i T hs).map (fun x => x.2.map Prod.snd) ∧ W d v w) .nil) : AAt P w0 bs st h W i := by
 refine aVal sl hs h1 h2 (fun d' hd' => by rw [hdst] at hd'; rw [← Option.some.inj hd']; exact hc) fun w hw => ?_
 have hmono : ∀ (l : List (Nat × Option Value)) (T : Tr), AllL W w l (fun T => ∃ v, (valueAt P st i T hs).map Prod.fst = some v ∧ (valueAt P st i T hs).map (fun x => x.2.map Prod.fst) = (valueAt P st i T hs).map (fun x => x.2.map Prod.snd) ∧ W d v w) T → AllL W w l (fun T => ∃ v e, valueAt P st i T hs = some (v, e) ∧ e.map Prod.fst = e.map Prod.snd ∧ ∀ d, dstAt st i = some d → W d v w) T := by
  intro l
  induction l with
  | nil =>
   rintro T ⟨v, h3, h4, h5⟩
   obtain ⟨⟨v', e⟩, h6, h7⟩ := Option.map_eq_some_iff.1 h3
   simp only at h7
   subst h7
   rw [h6] at h4
   exact ⟨v', e, h6, Option.some.inj h4, fun d' hd' => by rw [hdst] at hd'; rw [← Option.some.inj hd']; exact h5⟩
  | cons p l ih =>
   obtain ⟨s, u⟩ := p
   cases u with
   | some u => exact fun T hl => ih _ hl
   | none => exact fun T hl v hv => ih _ (hl v hv)
 exact hmono sl .nil (hk w hw)
def VsOk (W : VP) : List (Nat × Value) → Prop
 | [] => True
 | (s, v) :: r => (∀ u w, W s u w → u = v) ∧ VsOk W r
theorem vsOk_get {W : VP} : ∀ {vs : List (Nat × Value)}, VsOk W vs → ∀ p ∈ vs, ∀ u w, W p.1 u w → u = p.2
 | [], _, p, hp => by cases hp
 | (s, v) :: r, ⟨h1, h2⟩, p, hp => by
  rcases List.mem_cons.1 hp with rfl | hp
  ·exact h1
  exact vsOk_get h2 p hp
theorem g_drawU (h : Nat) (W : VP) (vs : List (Nat × Value)) (hp' : List HE) (hm : P.follows .mixedOrders = true) (hB : drawOk st h = true) (hR : drawR st h = true) (hW : ∀ s v w w', W s v w → Kept w w' → W s v w')
  (hc : (vs.all fun p => (outsA st h).contains p.1) = true) (hvs : VsOk W vs) (hhp : st.hp = hp') (hE : AllAt P w0 bs st h W h)
  (g : Goal F mm P fin w0 bs (aSt st h vs hp')) : Goal F mm P fin w0 bs st :=
 g_drawA (X := Unit) h W (fun _ => vs) (fun _ => hp') hm hB hR hW hE (fun w f hs hf => ⟨(), fun p hp => by
  have h1 := List.all_eq_true.1 hc p hp
  exact ⟨vsOk_get hvs p hp _ w (hf p.1 h1), h1⟩, hs.at' hhp⟩) (fun _ => g)
end
attribute [irreducible] aSt outsA drawR
end
end Go.Proofs.Ytcncfmjfgdbfeab
