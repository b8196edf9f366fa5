/- The second way to walk: regions that draw: up to h: loads, a chain, one block that is made at any time; from h on one by one. -/
import Derived.Test.YtcncfmjfgdbfeabFast11
namespace Go.Proofs.Ytcncfmjfgdbfeab
open Go.RowKit
noncomputable section
section
variable {P : Program}
def chainOf (hd : List Nat) (fl : Option Nat) (h : Nat) : List Nat := (List.range h).filter fun i => !hd.contains i && !(fl == some i)
def drawHB (ops : Array Oper) (hd : List Nat) (fl : Option Nat) (h n : Nat) : Bool :=
 decide (h ≤ ops.size) && (decide (h = ops.size) || (Region.sinkB .any ops h && Region.chainB .any ops h)) &&
 ((List.range ops.size).all fun i => match ops[i]? with
  | some o => o.after.all (fun e => !Region.binds .any e || decide (e.on < i))
  | none => true) &&
 chainL ops (chainOf hd fl h) && hd.all (fun j => decide (j < h)) &&
 ((List.range h).all fun i => hd.all fun j => match ops[i]?, ops[j]? with
  | some o, some p =>
   (match p.dst with
    | some d => decide (d < n) && (!(slotsOf ops o).contains d || waitsOn o j) && (i == j || !(o.dst == some d))
    | none => true) &&
   (hd.contains i || waitsOn o j || (match o.dst with | some d => !(slotsOf ops p).contains d | none => true))
  | _, _ => true) &&
 (match fl with
  | none => true
  | some f => decide (f < h) && !hd.contains f && (match ops[f]? with
   | some p => p.guard.isNone && (match p.dst with
    | some d => decide (d < n) && ((List.range h).all fun i => match ops[i]? with
     | some o => i == f || (!(slotsOf ops o).contains d && !(o.dst == some d))
     | none => true)
    | none => false)
   | none => false))
structure HFacts (ops : Array Oper) (hd : List Nat) (fl : Option Nat) (h n : Nat) : Prop where
 le : h ≤ ops.size
 tail : h = ops.size ∨ (Region.sinkB .any ops h = true ∧ Region.chainB .any ops h = true)
 back : ∀ {i : Nat} {o : Oper}, ops[i]? = some o → ∀ e ∈ o.after, Region.binds .any e = true → e.on < i
 chain : chainL ops (chainOf hd fl h) = true
 lt : ∀ {j : Nat}, j ∈ hd → j < h
 dst : ∀ {i j d : Nat} {o p : Oper}, j ∈ hd → i < h → ops[i]? = some o → ops[j]? = some p → p.dst = some d → d < n ∧ (d ∈ slotsOf ops o → waitsOn o j = true) ∧ (i ≠ j → o.dst ≠ some d)
 read : ∀ {i j d : Nat} {o p : Oper}, j ∈ hd → i < h → i ∉ hd → ops[i]? = some o → ops[j]? = some p → o.dst = some d → d ∈ slotsOf ops p → waitsOn o j = true
 float : ∀ {f : Nat}, fl = some f → f < h ∧ f ∉ hd ∧ ∃ p d, ops[f]? = some p ∧ p.guard = none ∧ p.dst = some d ∧ d < n ∧ ∀ {i : Nat} {o : Oper}, i < h → ops[i]? = some o → i ≠ f → d ∉ slotsOf ops o ∧ o.dst ≠ some d
theorem hFacts {ops : Array Oper} {hd : List Nat} {fl : Option Nat} {h n : Nat} (hb : drawHB ops hd fl h n = true) : HFacts ops hd fl h n := by
 simp only [drawHB, Bool.and_eq_true, Bool.or_eq_true, decide_eq_true_eq] at hb
 obtain ⟨⟨⟨⟨⟨⟨h1, h2⟩, h3⟩, h4⟩, h5⟩, h6⟩, h7⟩ := hb
 have key : ∀ {i j : Nat} {o p : Oper}, j ∈ hd → i < h → ops[i]? = some o → ops[j]? = some p → _ := fun {i j o p} hj hi ho hp => by
  have := List.all_eq_true.1 (List.all_eq_true.1 h6 i (List.mem_range.2 hi)) j hj
  rw [ho, hp] at this
  exact this
 refine ⟨h1, h2, fun {i o} ho e he hbe => ?_, h4, fun {j} hj => of_decide_eq_true (List.all_eq_true.1 h5 j hj), fun {i j d o p} hj hi ho hp hd' => ?_, fun {i j d o p} hj hi hih ho hp hd' => ?_, fun {f} hf => ?_⟩
 ·have := List.all_eq_true.1 h3 i (List.mem_range.2 (Array.getElem?_eq_some_iff.1 ho).1)
  rw [ho] at this
  have h5 := Array.all_eq_true_iff_forall_mem.1 this e he
  simpa [hbe] using h5
 ·have := key hj hi ho hp
  simp only [hd', Bool.and_eq_true, Bool.or_eq_true, decide_eq_true_eq, Bool.not_eq_true', List.contains_eq_mem, decide_eq_false_iff_not, beq_iff_eq] at this
  obtain ⟨⟨⟨q1, q2⟩, q3⟩, _⟩ := this
  refine ⟨q1, fun hm => ?_, fun hne e => ?_⟩
  ·rcases q2 with q2 | q2
   ·exact absurd hm q2
   exact q2
  rcases q3 with q3 | q3
  ·exact hne q3
  rw [e] at q3; simp at q3
 ·have := key hj hi ho hp
  simp only [Bool.and_eq_true, Bool.or_eq_true, hd', List.contains_eq_mem, decide_eq_true_eq, Bool.not_eq_true', decide_eq_false_iff_not] at this
  intro hm
  rcases this.2 with (q | q) | q
  ·exact absurd q hih
  ·exact q
  exact absurd hm q
 subst hf
 simp only [Bool.and_eq_true, decide_eq_true_eq] at h7
 obtain ⟨⟨q1, q2⟩, q3⟩ := h7
 refine ⟨q1, by simpa using q2, ?_⟩
 split at q3
 ·rename_i p hp
  simp only [Bool.and_eq_true] at q3
  obtain ⟨q4, q5⟩ := q3
  split at q5
  ·rename_i d hdp
   simp only [Bool.and_eq_true, decide_eq_true_eq] at q5
   refine ⟨p, d, hp, by simpa using q4, hdp, q5.1, fun {i o} hi ho hne => ?_⟩
   have := List.all_eq_true.1 q5.2 i (List.mem_range.2 hi)
   rw [ho] at this
   simp only [Bool.or_eq_true, Bool.and_eq_true, beq_iff_eq, List.contains_eq_mem, Bool.not_eq_true', decide_eq_false_iff_not] at this
   rcases this with h | ⟨h, h'⟩
   ·exact absurd h hne
   exact ⟨h, fun e => by rw [e] at h'; simp at h'⟩
  cases q5
 cases q3
def earlyOf (ops : Array Oper) (fl : Option Nat) (ph : Option Value) : Option (Nat × Value) := match fl, ph with
 | some f, some v => match (ops[f]?).bind (·.dst) with
  | some d => some (d, v)
  | none => none
 | _, _ => none
def landOf (ops : Array Oper) (fl : Option Nat) (ph : Option Value) (a : Act) : Act := match earlyOf ops fl ph with
 | some (d, v) => a.put (some d) v
 | none => a
structure HInv (n : Nat) (ops : Array Oper) (hd : List Nat) (T : Tr) (early : Option (Nat × Value)) (listed : Array Bool) (a af : Act) : Prop where
 size : a.tmps.size = n
 sizef : af.tmps.size = n
 defers : a.defers = af.defers
 agree : ∀ s, (∀ j o, j ∈ hd → ops[j]? = some o → listed.getD j true = false → o.dst ≠ some s) → (∀ d v, early = some (d, v) → s ≠ d) → a.tmps[s]? = af.tmps[s]?
 head : ∀ j o d v, j ∈ hd → ops[j]? = some o → o.dst = some d → T.get d = some v → af.tmps[d]? = some v
 reads : ∀ j o s v, j ∈ hd → ops[j]? = some o → listed.getD j true = false → s ∈ slotsOf ops o → T.get s = some v → af.tmps[s]? = some v
 early : ∀ d v, early = some (d, v) → a.tmps[d]? = some v ∧ d < n
variable {F : Fence} {mm : Nat} {Q : Exit → Act → World → Prop} {ops : Array Oper} {hd : List Nat} {fl : Option Nat}
theorem earlyOf_some {ph : Option Value} {d : Nat} {v : Value} (he : earlyOf ops fl ph = some (d, v)) : ∃ f p, fl = some f ∧ ph = some v ∧ ops[f]? = some p ∧ p.dst = some d := by
 unfold earlyOf at he
 split at he
 ·rename_i f v'
  cases hp : ops[f]? with
  | none => rw [hp] at he; cases he
  | some p =>
   rw [hp] at he
   cases hd : p.dst with
   | none => simp [hd] at he
   | some d' =>
    simp only [Option.bind_some, hd, Option.some.injEq, Prod.mk.injEq] at he
    obtain ⟨rfl, rfl⟩ := he
    exact ⟨f, p, rfl, rfl, hp, hd⟩
 cases he
theorem hTail {h n : Nat} (hX : HFacts ops hd fl h n) : ∀ (g k fuel : Nat) (listed : Array Bool) (a : Act) (w : World), k + g = ops.size → h ≤ k → g ≤ fuel → listed.size = ops.size →
  (∀ j, j < k → listed.getD j false = true) → (∀ j, k ≤ j → j < ops.size → listed.getD j true = false) →
  wpListIn F mm P ops Q (ops.toList.drop k) a w → wpAnyIn F mm P .any ops Q fuel listed a w := by
 intro g
 induction g with
 | zero =>
  intro k fuel listed a w hk hhk hf hsz h1 h2 hw
  have hr : Region.ready .any ops listed = [] := by
   cases hc : Region.ready .any ops listed with
   | nil => rfl
   | cons i r =>
    obtain ⟨h3, o, ho, _⟩ := mem_ready.1 (show i ∈ Region.ready .any ops listed by rw [hc]; simp)
    have hi := (Array.getElem?_eq_some_iff.1 ho).1
    have h4 := h1 i (by omega)
    rw [getD_both h3] at h4
    cases h4
  rw [List.drop_eq_nil_of_le (by simp; omega)] at hw
  cases fuel with
  | zero => exact ⟨hr, hw⟩
  | succ f => exact ⟨fun _ => hw, by rw [hr]; simp⟩
 | succ g ih =>
  intro k fuel listed a w hk hhk hf hsz h1 h2 hw
  obtain ⟨f, rfl⟩ : ∃ f, fuel = f + 1 := ⟨fuel - 1, by omega⟩
  have hkl : k < ops.size := by omega
  obtain ⟨o, ho⟩ : ∃ o, ops[k]? = some o := ⟨ops[k], by simp [hkl]⟩
  have hkr : k ∈ Region.ready .any ops listed := mem_ready.2 ⟨h2 k (Nat.le_refl _) hkl, o, ho, fun e he hb => h1 _ (hX.back ho e he hb)⟩
  refine ⟨fun h0 => (by rw [h0] at hkr; cases hkr), fun i hi => ?_⟩
  have hik : i = k := by
   obtain ⟨h3, oi, hoi, hall⟩ := mem_ready.1 hi
   have hil := (Array.getElem?_eq_some_iff.1 hoi).1
   rcases Nat.lt_trichotomy i k with h4 | h4 | h4
   ·have := h1 i h4
    rw [getD_both h3] at this
    cases this
   ·exact h4
   rcases hX.tail with h5 | ⟨_, h5⟩
   ·omega
   have h6 := List.all_eq_true.1 h5 i (List.mem_range.2 hil)
   simp only [Bool.or_eq_true, decide_eq_true_eq] at h6
   rcases h6 with h6 | h6
   ·omega
   obtain ⟨o', ho', e, he, hb, hon⟩ := Region.waitsFor_spec h6
   have : o' = oi := Option.some.inj (ho'.symm.trans hoi)
   subst this
   have h7 := hall e he hb
   rw [hon, getD_both (h2 (i - 1) (by omega) (by omega))] at h7
   cases h7
  subst hik
  have hd : ops.toList.drop i = o :: ops.toList.drop (i + 1) := by
   rw [List.drop_eq_getElem_cons (by simpa using hkl)]
   have : ops.toList[i]'(by simpa using hkl) = o := by
    have := (Array.getElem?_eq_some_iff.1 ho).2
    simpa using this
   rw [this]
  rw [hd] at hw
  have hop : wpOpIn F mm P ops Q i (wpListIn F mm P ops Q (ops.toList.drop (i + 1))) a w := by
   unfold wpOpIn
   simp only [ho]
   exact hw
  refine wpOpIn_mono (fun a' w' h' => ih (i + 1) f _ a' w' (by omega) (by omega) (by omega) (by simp [hsz]) (fun j hj => ?_) (fun j hj hjl => ?_) h') hop
  ·by_cases e : i = j
   ·subst e; simp [hsz, hkl]
   rw [getD_set_ne false e]; exact h1 j (by omega)
  rw [getD_set_ne true (by omega)]; exact h2 j (by omega) hjl
theorem drawH_go {h n : Nat} {T : Tr} {C : World → Prop} {St : Option Value → List Nat → Act → World → Prop} (hC0 : ∀ ph l af w, St ph l af w → C w)
  (hEnd : ∀ ph af w, St ph [] af w → (fl.isSome = true → ph.isSome = true) → wpListIn F mm P ops Q (ops.toList.drop h) (landOf ops fl ph af) w)
  (hOp : ∀ ph i l af w, St ph (i :: l) af w → wpOpIn F mm P ops Q i (fun a' w' => St ph l a' w') af w)
  (hFl : ∀ l af w f o, fl = some f → ops[f]? = some o → St none l af w → ∀ ρ, ∃ v w', (execOp ρ o).run P w = .ok (.value v) w' ∧ St (some v) l af w')
  (hF : OpenF F) (hX : HFacts ops hd fl h n) (hE : ∀ w0, C w0 → ∀ j o, j ∈ hd → ops[j]? = some o → Ev P n ops (fun w => w = w0) T o) (hnp : ∀ ch a w, Q (.panic ch) a w → False) (hsel : ∀ (i : Nat) (o : Oper), ops[i]? = some o → noSel o.op = true) :
  ∀ (m fuel : Nat) (listed : Array Bool) (a af : Act) (w : World) (ph : Option Value) (l pre : List Nat), cnt listed h = m → m + (ops.size - h) ≤ fuel → HeadInv .any ops h listed →
   (∀ i ∈ l, listed.getD i true = false) → (∀ i, i < h → i ∉ hd → fl ≠ some i → listed.getD i true = false → i ∈ l) → chainOf hd fl h = pre ++ l → l.Nodup → chainL ops l = true →
   (∀ f, fl = some f → (listed.getD f true = true ↔ ph.isSome = true)) → (ph.isSome = true → fl.isSome = true) →
   HInv n ops hd T (earlyOf ops fl ph) listed a af → St ph l af w → wpAnyIn F mm P .any ops Q fuel listed a w := by
 intro m
 induction m with
 | zero =>
  intro fuel listed a af w ph l pre hc hf hinv hu hv hpre hnd hch hfl hph inv hw
  have hall := cnt_zero hc
  have hall' : ∀ j, j < h → listed.getD j true = true := fun j hj => by
   cases hb : listed.getD j true with
   | true => rfl
   | false => have := hall j hj; rw [getD_both hb] at this; cases this
  have hl : l = [] := by
   cases l with
   | nil => rfl
   | cons i l =>
    have h1 := hu i (by simp)
    have h2 : i ∈ chainOf hd fl h := by rw [hpre]; simp
    rw [hall' i (List.mem_range.1 (List.mem_filter.1 h2).1)] at h1; cases h1
  subst hl
  have hfp : fl.isSome = true → ph.isSome = true := fun hs => by
   obtain ⟨f, hf'⟩ := Option.isSome_iff_exists.1 hs
   exact (hfl f hf').1 (hall' f (hX.float hf').1)
  have ha : a = landOf ops fl ph af := by
   have hte : ∀ s, a.tmps[s]? = (landOf ops fl ph af).tmps[s]? := fun s => by
    unfold landOf
    cases he : earlyOf ops fl ph with
    | none => exact inv.agree s (fun j o hj ho hl => by rw [hall' j (hX.lt hj)] at hl; cases hl) (fun d v h => by rw [he] at h; cases h)
    | some x =>
     obtain ⟨d, v⟩ := x
     obtain ⟨q1, q2⟩ := inv.early d v he
     by_cases e : s = d
     ·subst e
      rw [q1, put_here, if_pos (by rw [inv.sizef]; exact q2)]
     rw [put_other (fun e' => e (Option.some.inj e').symm)]
     exact inv.agree s (fun j o hj ho hl => by rw [hall' j (hX.lt hj)] at hl; cases hl) (fun d' v' h => by rw [he] at h; cases h; exact e)
   have hde : a.defers = (landOf ops fl ph af).defers := by
    unfold landOf
    split
    ·rw [put_defers]; exact inv.defers
    exact inv.defers
   obtain ⟨at_, ad⟩ := a
   have e1 : at_ = (landOf ops fl ph af).tmps := Array.ext_getElem? hte
   simp only at hde
   rw [e1, hde]
  rw [ha]
  exact hTail hX (ops.size - h) h fuel listed _ w (by have := hX.le; omega) (Nat.le_refl _) (by omega) hinv.size hall (fun j hj hjl => hinv.tail j hj hjl) (hEnd ph af w hw hfp)
 | succ m ih =>
  intro fuel listed a af w ph l pre hc hf hinv hu hv hpre hnd hch hfl hph inv hw
  obtain ⟨f, rfl⟩ : ∃ f, fuel = f + 1 := ⟨fuel - 1, by omega⟩
  obtain ⟨i0, hi0, hu0, hl0⟩ := cnt_pos (listed := listed) (h := h) (by omega)
  have hle := hX.le
  obtain ⟨o0, ho0⟩ : ∃ o, ops[i0]? = some o := ⟨ops[i0]'(by omega), by simp [show i0 < ops.size by omega]⟩
  have hr0 : i0 ∈ Region.ready .any ops listed := mem_ready.2 ⟨getD_in (by rw [hinv.size]; omega) hu0, o0, ho0, fun e he hb => hl0 _ (hX.back ho0 e he hb)⟩
  refine ⟨fun h0 => (by rw [h0] at hr0; cases hr0), fun i hi => ?_⟩
  obtain ⟨hun, o, ho, hall⟩ := mem_ready.1 hi
  have hil := (Array.getElem?_eq_some_iff.1 ho).1
  have hih : i < h := by
   rcases hX.tail with h5 | ⟨h5, h6⟩
   ·omega
   rcases Nat.lt_or_ge i h with h7 | h7
   ·exact h7
   exact absurd hi (tail_waits h5 h6 (by omega) hinv _ i0 rfl hi0 (getD_in (by rw [hinv.size]; omega) hu0) i h7)
  have hcnt : cnt (listed.setIfInBounds i true) h = m := by
   have := cnt_set (listed := listed) (by rw [hinv.size]; exact hil) (getD_both hun) hih
   omega
  have hinv' := hinv.set hi hih
  have hset : (listed.setIfInBounds i true).getD i true = true := by simp [show i < listed.size by rw [hinv.size]; exact hil]
  have waits : ∀ j, waitsOn o j = true → listed.getD j true = true := fun j hj => by
   obtain ⟨ed, hed, hb⟩ := Array.any_eq_true'.1 hj
   simp only [Bool.and_eq_true, beq_iff_eq] at hb
   have h1 := hall ed hed hb.1
   rw [hb.2] at h1
   cases hc' : listed.getD j true with
   | true => rfl
   | false => rw [getD_both hc'] at h1; cases h1
  have hslots : (∀ f', fl = some f' → i ≠ f') → ∀ s ∈ slotsOf ops o, a.tmps[s]? = af.tmps[s]? := fun hne s hs => inv.agree s (fun j p hj hp hju e => by
    have := waits j ((hX.dst hj hih ho hp e).2.1 hs)
    rw [this] at hju; cases hju) fun d v hev e => by
   subst e
   obtain ⟨f', p, hf1, hf2, hp, hpd⟩ := earlyOf_some hev
   obtain ⟨_, _, p', d', hp', _, hd', _, hno⟩ := hX.float hf1
   rw [hp] at hp'; cases hp'
   rw [hpd] at hd'; cases hd'
   exact (hno hih ho (hne f' hf1)).1 hs
  by_cases hihd : i ∈ hd
  ·-- a load
   have hne : ∀ f', fl = some f' → i ≠ f' := fun f' hf' e => (hX.float hf').2.1 (e ▸ hihd)
   obtain ⟨v, hv1, hcase⟩ := (hE w (hC0 _ _ _ _ hw) i o hihd ho).out
   have hT : ∀ s ∈ slotsOf ops o, ∀ u, T.get s = some u → a.tmps[s]? = some u := fun s hs u hu' => (hslots hne s hs).trans (inv.reads i o s u hihd ho hun hs hu')
   have hI : HInv n ops hd T (earlyOf ops fl ph) (listed.setIfInBounds i true) (a.put o.dst v) af := by
    refine ⟨put_size.trans inv.size, inv.sizef, put_defers.trans inv.defers, fun s hno hea => ?_, inv.head, fun j p s u hj hp hju hs hu => inv.reads j p s u hj hp (by
     by_cases e : i = j
     ·subst e; rw [hset] at hju; cases hju
     rw [getD_set_ne true e] at hju; exact hju) hs hu, fun d u hd' => ?_⟩
    ·by_cases e : o.dst = some s
     ·have hsn := (hX.dst hihd hih ho ho e).1
      have h5 := hv1 s e hsn
      rw [e, put_here, if_pos (by rw [inv.size]; exact hsn)]
      exact (inv.head i o s v hihd ho e h5).symm
     rw [put_other e]
     refine inv.agree s (fun j p hj hp hju => ?_) hea
     by_cases ej : i = j
     ·subst ej
      have : p = o := Option.some.inj (hp.symm.trans ho)
      subst this
      exact e
     exact hno j p hj hp (by rw [getD_set_ne true ej]; exact hju)
    obtain ⟨q1, q2⟩ := inv.early d u hd'
    refine ⟨?_, q2⟩
    obtain ⟨f', p, hf1, hf2, hp, hpd⟩ := earlyOf_some hd'
    obtain ⟨_, _, p', d', hp', _, hd2, _, hno⟩ := hX.float hf1
    rw [hp] at hp'; cases hp'
    rw [hpd] at hd2; cases hd2
    rw [put_other (hno hih ho (hne f' hf1)).2]; exact q1
   have hnext : ∀ w', w' = w → wpAnyIn F mm P .any ops Q f (listed.setIfInBounds i true) (a.put o.dst v) w' := fun w' e => by
    subst e
    have hnl : ∀ k ∈ l, i ≠ k := fun k hk e => by
     subst e
     have : i ∈ chainOf hd fl h := by rw [hpre]; exact List.mem_append_right _ hk
     have := (List.mem_filter.1 this).2
     simp [hihd] at this
    exact ih f _ _ af w' ph l pre hcnt (by omega) hinv' (fun k hk => by rw [getD_set_ne true (hnl k hk)]; exact hu k hk) (fun k hk hkh hkf hku => hv k hk hkh hkf (by
     by_cases e : i = k
     ·subst e; exact absurd hihd hkh
     rw [getD_set_ne true e] at hku; exact hku)) hpre hnd hch (fun f' hf' => by rw [getD_set_ne true (hne f' hf')]; exact hfl f' hf') hph hI hw
   unfold wpOpIn
   simp only [ho]
   rcases hcase with ⟨hwn, rfl⟩ | ⟨hwn, s, hs, hq⟩
   ·rw [wanted_of_slots hT hwn, if_neg (by simp)]
    exact ⟨fun f _ => hF.fn f, hnext w rfl⟩
   rw [wanted_of_slots hT hwn, if_pos rfl]
   refine ⟨fun f _ => hF.fn f, ?_⟩
   have hx := rep_of_slots hT hs
   have hy := Oper.semAt_eq F.round a.eval o (noDefer (opSem_noSel hs))
   rw [hy, hx]
   rcases hq w rfl with h8 | ⟨fc, args, h8, hcalls⟩ | ⟨hu, h8⟩
   rotate_left 2
   ·subst hu; rw [h8]; exact hnext w rfl
   ·rw [h8]; exact hnext w rfl
   rw [h8]
   refine ⟨fun h => hF.depth h (m := mm), hF.calls (m := mm - 1) (hcalls.mono ?_)⟩
   rintro e w' ⟨rfl, hw'⟩
   exact hnext w' hw'
  by_cases hif : fl = some i
  ·-- the block that is made at any time
   have hph0 : ph = none := by
    cases ph with
    | none => rfl
    | some v => have := (hfl i hif).2 rfl; rw [this] at hun; cases hun
   subst hph0
   obtain ⟨_, _, p, d, hp, hg, hd', hdn, hno⟩ := hX.float hif
   rw [ho] at hp; cases hp
   obtain ⟨v, w', hrun, hst⟩ := hFl l af w i o hif ho hw a.eval
   have he : earlyOf ops fl (some v) = some (d, v) := by simp [earlyOf, hif, ho, hd']
   unfold wpOpIn
   simp only [ho]
   have hwn : Region.wanted o (yielded ops a.tmps) = true := by unfold Region.wanted; rw [hg]
   rw [hwn, if_pos rfl]
   refine ⟨fun f _ => hF.fn f, ?_⟩
   rw [Oper.semAt_eq _ _ _ (noDefer' (hsel i o ho)), hrun]
   refine ih f _ _ af w' (some v) l pre hcnt (by omega) hinv' (fun k hk => ?_) (fun k hk hkh hkf hku => hv k hk hkh hkf (by
    by_cases e : i = k
    ·subst e; exact absurd hif hkf
    ·rw [getD_set_ne true e] at hku; exact hku)) hpre hnd hch (fun f' hf' => ?_) (fun _ => by rw [hif]; rfl) ⟨put_size.trans inv.size, inv.sizef, put_defers.trans inv.defers, fun s hnoh hea => ?_, inv.head, fun j p s u hj hp hju hs hu => inv.reads j p s u hj hp (by
    by_cases e : i = j
    ·subst e; rw [hset] at hju; cases hju
    rw [getD_set_ne true e] at hju; exact hju) hs hu, fun d' v' hdv => ?_⟩ hst
   ·have : i ≠ k := fun e => by
     subst e
     have : i ∈ chainOf hd fl h := by rw [hpre]; exact List.mem_append_right _ hk
     have := (List.mem_filter.1 this).2
     simp [hif] at this
    rw [getD_set_ne true this]; exact hu k hk
   ·rw [hif] at hf'; cases hf'
    rw [hset]; simp
   ·have hsd : s ≠ d := hea d v he
    rw [put_other (by rw [hd']; exact fun e => hsd (Option.some.inj e).symm)]
    refine inv.agree s (fun j p hj hp hju => ?_) (fun d' v' h => by simp [earlyOf] at h)
    by_cases ej : i = j
    ·subst ej; exact absurd hj hihd
    exact hnoh j p hj hp (by rw [getD_set_ne true ej]; exact hju)
   rw [he] at hdv; cases hdv
   rw [hd', put_here, if_pos (by rw [inv.size]; exact hdn)]
   exact ⟨rfl, hdn⟩
  -- of the chain
  have hne : ∀ f', fl = some f' → i ≠ f' := fun f' hf' e => hif (by rw [hf', e])
  have hmem := hv i hih hihd hif hun
  have hhead := chain_ready hch hu i hmem hi
  obtain ⟨l', rfl⟩ : ∃ l', l = i :: l' := by
   cases l with
   | nil => cases hhead
   | cons x l' => simp only [List.head?_cons, Option.some.injEq] at hhead; exact ⟨l', by rw [hhead]⟩
  have hw := hOp ph i l' af w hw
  have hsl := hsel i o ho
  have hni : i ∉ l' := (List.nodup_cons.1 hnd).1
  have hch' : chainL ops l' = true := by
   cases l' with
   | nil => rfl
   | cons k l' => simp only [chainL, Bool.and_eq_true] at hch; exact hch.2
  have hdst : ∀ s j p, j ∈ hd → ops[j]? = some p → p.dst = some s → o.dst ≠ some s := fun s j p hj hp hps => (hX.dst hj hih ho hp hps).2.2 (fun e => hihd (by rw [e]; exact hj))
  have hmove : ∀ (D : List Deferred) v w', St ph l' (({ af with defers := D } : Act).put o.dst v) w' → wpAnyIn F mm P .any ops Q f (listed.setIfInBounds i true) (({ a with defers := D } : Act).put o.dst v) w' := fun D v w' hst => by
   refine ih f _ _ _ w' ph l' (pre ++ [i]) hcnt (by omega) hinv' (fun k hk => ?_) (fun k hk hkh hkf hku => ?_) (by simp [hpre]) (List.nodup_cons.1 hnd).2 hch' (fun f' hf' => by rw [getD_set_ne true (hne f' hf')]; exact hfl f' hf') hph ⟨?_, ?_, ?_, fun s hno hea => ?_, fun j p d u hj hp hpd hu => ?_, fun j p s u hj hp hju hs hu => ?_, fun d u hd' => ?_⟩ hst
   ·have e : i ≠ k := fun e => hni (e ▸ hk)
    rw [getD_set_ne true e]; exact hu k (List.mem_cons_of_mem _ hk)
   ·by_cases e : i = k
    ·subst e; rw [hset] at hku; cases hku
    rw [getD_set_ne true e] at hku
    rcases List.mem_cons.1 (hv k hk hkh hkf hku) with e' | h'
    ·exact absurd e'.symm e
    exact h'
   ·exact put_size.trans inv.size
   ·exact put_size.trans inv.sizef
   ·rw [put_defers, put_defers]
   ·refine put_agree (inv.size.trans inv.sizef.symm) (inv.agree s (fun j p hj hp hju => hno j p hj hp ?_) hea)
    rw [getD_set_ne true (fun e => hihd (by rw [e]; exact hj))]; exact hju
   ·rw [put_other (hdst d j p hj hp hpd)]
    exact inv.head j p d u hj hp hpd hu
   ·have hju' : listed.getD j true = false := by
     by_cases e : i = j
     ·subst e; rw [hset] at hju; cases hju
     rw [getD_set_ne true e] at hju; exact hju
    rw [put_other (fun e => by
     have := waits j (hX.read hj hih hihd ho hp e hs)
     rw [this] at hju'; cases hju')]
    exact inv.reads j p s u hj hp hju' hs hu
   obtain ⟨q1, q2⟩ := inv.early d u hd'
   obtain ⟨f', p, hf1, hf2, hp, hpd⟩ := earlyOf_some hd'
   obtain ⟨_, _, p', d', hp', _, hd2, _, hno⟩ := hX.float hf1
   rw [hp] at hp'; cases hp'
   rw [hpd] at hd2; cases hd2
   exact ⟨by rw [put_other (hno hih ho (hne f' hf1)).2]; exact q1, q2⟩
  have hmove0 : ∀ v w', St ph l' (af.put o.dst v) w' → wpAnyIn F mm P .any ops Q f (listed.setIfInBounds i true) (a.put o.dst v) w' := fun v w' h => by
   have h1 := hmove a.defers v w'
   have e1 : ({ a with defers := a.defers } : Act) = a := rfl
   have e2 : ({ af with defers := a.defers } : Act) = af := by rw [inv.defers]
   rw [e1, e2] at h1
   exact h1 h
  unfold wpOpIn at hw ⊢
  simp only [ho] at hw ⊢
  rw [wanted_of_same (hslots hne)]
  split at hw
  ·rename_i hwn
   rw [if_pos hwn]
   refine ⟨fun f _ => hF.fn f, ?_⟩
   have h9 := hw.2
   rw [Oper.semAt_eq _ _ _ (noDefer' hsl)] at h9 ⊢
   rw [same_of_slots hsl (hslots hne)]
   revert h9
   generalize (execOp af.eval o).run P w = r
   intro h9
   unfold Oper.uponIn at h9 ⊢
   split at h9
   ·exact hmove0 _ _ h9
   ·exact hmove0 _ _ h9
   ·rename_i d w'
    have h1 := hmove (d :: a.defers) undef w'
    rw [inv.defers] at h1 ⊢
    exact h1 h9
   ·refine ⟨h9.1, h9.2.mono ?_⟩
    rintro e w'' h10
    cases e with
    | returned v => exact hmove0 _ _ h10
    | panicked ch => exact (hnp _ _ _ h10).elim
    | outgrown => exact h10
   ·refine ⟨h9.1, h9.2.mono ?_⟩
    rintro v w'' h10
    exact hmove0 _ _ h10
   ·refine ⟨h9.1, h9.2.mono ?_⟩
    rintro e w'' h10
    cases e with
    | returned v => exact hmove0 _ _ h10
    | panicked ch => exact (hnp _ _ _ h10).elim
    | outgrown => exact h10
   ·exact (hnp _ _ _ h9).elim
   exact h9.elim
  rename_i hwn
  rw [if_neg hwn]
  exact ⟨fun f _ => hF.fn f, hmove0 _ _ hw.2⟩
theorem wpIn_drawH {h n id : Nat} {ds : List Deferred} {t T : Tr} {a : Act} {w : World} {C : World → Prop} {St : Option Value → List Nat → Act → World → Prop} (hC0 : ∀ ph l af w, St ph l af w → C w)
  (hEnd : ∀ ph af w, St ph [] af w → (fl.isSome = true → ph.isSome = true) → wpListIn F mm P ops Q (ops.toList.drop h) (landOf ops fl ph af) w)
  (hOp : ∀ ph i l af w, St ph (i :: l) af w → wpOpIn F mm P ops Q i (fun a' w' => St ph l a' w') af w)
  (hFl : ∀ l af w f o, fl = some f → ops[f]? = some o → St none l af w → ∀ ρ, ∃ v w', (execOp ρ o).run P w = .ok (.value v) w' ∧ St (some v) l af w')
  (hC : C w) (hF : OpenF F) (hm : P.follows .mixedOrders = true) (hB : drawHB ops hd fl h n = true) (hT : ∀ w0, C w0 → Lex P n ops (fun w => w = w0) (fun t => t = T) (opsOf ops hd) t) (hssa : ssaL ops (opsOf ops hd) = true)
  (hsel : ops.toList.all (fun o => noSel o.op) = true) (hr : Rep n ds a t) (hnp : ∀ ch a w, Q (.panic ch) a w → False)
  (hL : ∀ a w', Rep n ds a T → Kept w w' → St none (chainOf hd fl h) a w') : (Code.region id ops true).wpIn F mm P Q a w := by
 refine wpIn_region_any hm ?_
 have hX := hFacts hB
 have hev : ∀ w0 : World, C w0 → (∀ s, (∀ o ∈ opsOf ops hd, o.dst ≠ some s) → T.get s = t.get s) ∧ ∀ o ∈ opsOf ops hd, Ev P n ops (fun w => w = w0) T o := fun w0 hc => by
  obtain ⟨T', hk, hag, hev⟩ := lex_ev hssa (hT w0 hc)
  subst hk
  exact ⟨hag, hev⟩
 have hmem : ∀ {j : Nat} {o : Oper}, j ∈ hd → ops[j]? = some o → o ∈ opsOf ops hd := fun {j o} hj ho => List.mem_filterMap.2 ⟨j, hj, ho⟩
 obtain ⟨af, haf⟩ : ∃ af : Act, af = { a with tmps := Array.ofFn (n := n) fun i => ((T.get i).getD ((a.tmps[(i : Nat)]?).getD undef)) } := ⟨_, rfl⟩
 have hget : ∀ s, s < n → af.tmps[s]? = some ((T.get s).getD ((a.tmps[s]?).getD undef)) := fun s hs => by
  rw [haf]; simp [hs]
 have hsz : af.tmps.size = n := by rw [haf]; simp
 have hrepT : Rep n ds af T := by
  refine ⟨hsz, by rw [haf]; exact hr.defers, fun i v hv => ?_⟩
  by_cases hin : i < n
  ·rw [hget i hin, hv]; rfl
  exfalso
  by_cases hd' : ∃ o ∈ opsOf ops hd, o.dst = some i
  ·obtain ⟨o, ho, hdst⟩ := hd'
   obtain ⟨j, hj, hjo⟩ := List.mem_filterMap.1 ho
   exact hin (hX.dst hj (hX.lt hj) hjo hjo hdst).1
  rw [(hev w hC).1 i fun o ho e => hd' ⟨o, ho, e⟩] at hv
  have := (Array.getElem?_eq_some_iff.1 (hr.at_ i v hv)).1
  rw [hr.size] at this
  exact hin this
 have hdr : Kept w { w with drawn := w.drawn + 1 } := ⟨rfl, rfl, rfl, Nat.le_refl _, fun _ _ => rfl⟩
 have hle := hX.le
 have hcle : ∀ k, cnt (Array.replicate ops.size false) k ≤ k := fun k => by
  induction k with
  | zero => exact Nat.le_refl _
  | succ k ih =>
   simp only [cnt]
   cases (Array.replicate ops.size false).getD k false <;> simp <;> omega
 refine drawH_go (n := n) (T := T) (C := C) (St := St) hC0 hEnd hOp hFl hF hX (fun w0 hc j o hj ho => (hev w0 hc).2 o (hmem hj ho)) hnp (fun i o ho => List.all_eq_true.1 hsel o (by
   have := List.mem_of_getElem? (l := ops.toList) (i := i) (by simpa using ho)
   exact this)) (cnt (Array.replicate ops.size false) h) ops.size _ a af _ none (chainOf hd fl h) [] rfl (by have := hcle h; omega) ⟨by simp, fun j oj _ hl => ?_, fun t ht htl => ?_⟩ (fun i hi => ?_) (fun i hi hih hif _ => ?_) rfl ?_ hX.chain (fun f hf => ?_) (fun h => by cases h) ⟨hr.size, hsz, by rw [haf], fun s hno _ => ?_, fun j o d v hj ho hdst hv => hrepT.at_ d v hv, fun j o s v hj ho _ hs hv => hrepT.at_ s v hv, fun d v hdv => by simp [earlyOf] at hdv⟩ (hL af _ hrepT hdr)
 ·rw [getD_replicate_false] at hl; cases hl
 ·simp [htl]
 ·have := List.mem_range.1 (List.mem_filter.1 hi).1
  simp [show i < ops.size by omega]
 ·exact List.mem_filter.2 ⟨List.mem_range.2 hi, by simp [hih, hif]⟩
 ·exact (List.nodup_range).filter _
 ·have := (hX.float hf).1
  simp [show f < ops.size by omega]
 by_cases hs : s < n
 ·rw [hget s hs]
  have hTs : T.get s = t.get s := (hev w hC).1 s fun o ho e => by
   obtain ⟨j, hj, hjo⟩ := List.mem_filterMap.1 ho
   exact hno j o hj hjo (by have := hX.lt hj; simp [show j < ops.size by omega]) e
  have hlt : s < a.tmps.size := by rw [hr.size]; exact hs
  rw [hTs]
  cases hv : t.get s with
  | none => simp [hlt]
  | some v => rw [hr.at_ s v hv]; rfl
 rw [Array.getElem?_eq_none (by rw [hr.size]; exact Nat.le_of_not_lt hs), Array.getElem?_eq_none (by rw [hsz]; exact Nat.le_of_not_lt hs)]
end
end
end Go.Proofs.Ytcncfmjfgdbfeab
