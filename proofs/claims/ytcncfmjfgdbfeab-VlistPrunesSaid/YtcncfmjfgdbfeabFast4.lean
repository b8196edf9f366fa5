/- The second way to walk: regions that draw their order. -/
import Derived.Test.YtcncfmjfgdbfeabFast3
import Derived.StillTail
import Derived.OrdersIn
namespace Go.Proofs.Ytcncfmjfgdbfeab
open Go.RowKit
noncomputable section
section
variable {P : Program}
def QRun (P : Program) (C : World → Prop) (s : Sem Next) (v : Value) : Prop :=
 ∀ w, C w → s.run P w = .ok (.value v) w ∨ (∃ f args, s.run P w = .ok (.enter f args) w ∧ Calls P f args w fun e w' => e = .returned v ∧ C w') ∨ (v = undef ∧ s.run P w = .ok .skip w)
def Lex (P : Program) (n : Nat) (ops : Array Oper) (C : World → Prop) (kont : Tr → Prop) : List Oper → Tr → Prop
 | [], t => kont t
 | o :: l, t => (wanted? ops t o = some false ∧ Lex P n ops C kont l (t.put n o.dst undef)) ∨
   (wanted? ops t o = some true ∧ ∃ s v, opSem t o = some s ∧ QRun P C s v ∧ Lex P n ops C kont l (t.put n o.dst v))
def slotsOf (ops : Array Oper) (o : Oper) : List Nat :=
 (o.op.operands.toList.filterMap fun | .tmp t => some t | _ => none) ++
 (match o.guard with
  | some (g, _) => ((ops[g]?).bind (·.dst)).toList
  | none => [])
structure Ev (P : Program) (n : Nat) (ops : Array Oper) (C : World → Prop) (T : Tr) (o : Oper) : Prop where
 out : ∃ v, (∀ d, o.dst = some d → d < n → T.get d = some v) ∧ ((wanted? ops T o = some false ∧ v = undef) ∨ (wanted? ops T o = some true ∧ ∃ s, opSem T o = some s ∧ QRun P C s v))
theorem wanted_agree {ops : Array Oper} {t t' : Tr} {o : Oper} (h : ∀ s ∈ slotsOf ops o, t'.get s = t.get s) : wanted? ops t' o = wanted? ops t o := by
 unfold wanted?
 cases hg : o.guard with
 | none => rfl
 | some jw =>
  obtain ⟨j, want⟩ := jw
  cases hd : (ops[j]?).bind (·.dst) with
  | none => simp only [hd]
  | some d =>
   have := h d (by unfold slotsOf; rw [hg]; simp [hd])
   simp only [hd, this]
theorem ev_agree {t t' : Tr} {x : Operand} (h : ∀ s, x = .tmp s → t'.get s = t.get s) : t'.ev? x = t.ev? x := by
 cases x with
 | tmp s => exact h s rfl
 | _ => rfl
theorem opSem_agree {ops : Array Oper} {t t' : Tr} {o : Oper} {s : Sem Next} (h : ∀ s ∈ slotsOf ops o, t'.get s = t.get s) (hs : opSem t o = some s) : opSem t' o = some s := by
 have he : ∀ x ∈ o.op.operands, t'.ev? x = t.ev? x := fun x hx => ev_agree fun i hi => h i (by
  subst hi
  exact List.mem_append_left _ (List.mem_filterMap.2 ⟨.tmp i, by simpa using hx, rfl⟩))
 have hsel := opSem_noSel hs
 unfold opSem at hs ⊢
 have hall : (o.op.operands.toList.all fun x => (t'.ev? x).isSome) = (o.op.operands.toList.all fun x => (t.ev? x).isSome) := by
  rw [Bool.eq_iff_iff, List.all_eq_true, List.all_eq_true]
  exact ⟨fun h1 x hx => by rw [← he x (by simpa using hx)]; exact h1 x hx, fun h1 x hx => by rw [he x (by simpa using hx)]; exact h1 x hx⟩
 rw [hall]
 cases hb : (noSel o.op && o.op.operands.toList.all fun x => (t.ev? x).isSome) with
 | false => rw [hb] at hs; cases hs
 | true =>
  rw [hb] at hs
  simp only [cond_true, Option.some.injEq] at hs ⊢
  rw [← hs]
  refine execOp_congr o (fun cs b e => by rw [e] at hsel; cases hsel) fun x hx => ?_
  simp only [Tr.ev, he x hx]
theorem put_get {n : Nat} {t : Tr} {dst : Option Tmp} {v : Value} {s : Nat} (h : dst ≠ some s) : (t.put n dst v).get s = t.get s := by
 cases dst with
 | none => rfl
 | some d =>
  simp only [Tr.put]
  cases Nat.blt d n with
  | false => rfl
  | true =>
   rw [cond_true, Tr.get_set, if_neg (fun e => h (by rw [e]))]
theorem put_same {n : Nat} {t : Tr} {d : Nat} {v : Value} (h : d < n) : (t.put n (some d) v).get d = some v := by
 simp only [Tr.put]
 have : Nat.blt d n = true := Nat.ble_eq_true_of_le h
 rw [this, cond_true, Tr.get_set, if_pos rfl]
def ssaL (ops : Array Oper) : List Oper → Bool
 | [] => true
 | o :: l => (o :: l).all (fun p => match p.dst with | some d => !(slotsOf ops o).contains d | none => true) &&
   l.all (fun p => match p.dst, o.dst with | some d, some d' => !(d == d') | _, _ => true) && ssaL ops l
theorem lex_ev {n : Nat} {ops : Array Oper} {C : World → Prop} {kont : Tr → Prop} : ∀ {l : List Oper} {t : Tr}, ssaL ops l = true → Lex P n ops C kont l t →
  ∃ T, kont T ∧ (∀ s, (∀ o ∈ l, o.dst ≠ some s) → T.get s = t.get s) ∧ ∀ o ∈ l, Ev P n ops C T o
 | [], t, _, h => ⟨t, h, fun _ _ => rfl, fun _ ho => by cases ho⟩
 | o :: l, t, hb, h => by
  simp only [ssaL, Bool.and_eq_true] at hb
  obtain ⟨⟨h1, h2⟩, h3⟩ := hb
  have hslots : ∀ s ∈ slotsOf ops o, ∀ p ∈ o :: l, p.dst ≠ some s := fun s hs p hp e => by
   have := List.all_eq_true.1 h1 p hp
   rw [e] at this
   simp only [Bool.not_eq_true', List.contains_eq_mem, decide_eq_false_iff_not] at this
   exact this hs
  have hdst : ∀ d, o.dst = some d → ∀ p ∈ l, p.dst ≠ some d := fun d hd p hp e => by
   have := List.all_eq_true.1 h2 p hp
   rw [e, hd] at this
   simp at this
  have key : ∀ v, Lex P n ops C kont l (t.put n o.dst v) → ((wanted? ops t o = some false ∧ v = undef) ∨ (wanted? ops t o = some true ∧ ∃ s, opSem t o = some s ∧ QRun P C s v)) →
    ∃ T, kont T ∧ (∀ s, (∀ p ∈ o :: l, p.dst ≠ some s) → T.get s = t.get s) ∧ ∀ p ∈ o :: l, Ev P n ops C T p := by
   intro v hl hv
   obtain ⟨T, hk, hT, hE⟩ := lex_ev h3 hl
   have hag : ∀ s, (∀ p ∈ o :: l, p.dst ≠ some s) → T.get s = t.get s := fun s hs => by
    rw [hT s (fun p hp => hs p (by simp [hp])), put_get (hs o (by simp))]
   have hsl : ∀ s ∈ slotsOf ops o, T.get s = t.get s := fun s hs => hag s (hslots s hs)
   refine ⟨T, hk, hag, fun p hp => ?_⟩
   rcases List.mem_cons.1 hp with rfl | hp
   ·refine ⟨v, fun d hd hdn => ?_, ?_⟩
    ·rw [hT d (hdst d hd), hd, put_same hdn]
    rcases hv with ⟨hw, rfl⟩ | ⟨hw, s, hs, hq⟩
    ·exact .inl ⟨(wanted_agree hsl).trans hw, rfl⟩
    exact .inr ⟨(wanted_agree hsl).trans hw, s, opSem_agree hsl hs, hq⟩
   exact hE p hp
  rcases h with ⟨hw, hl⟩ | ⟨hw, s, v, hs, hq, hl⟩
  ·exact key undef hl (.inl ⟨hw, rfl⟩)
  exact key v hl (.inr ⟨hw, s, hs, hq⟩)
def headB (ops : Array Oper) (h n : Nat) : Bool :=
 ssaL ops (ops.toList.take h) && decide (h ≤ ops.size) &&
 ((List.range ops.size).all fun i => match ops[i]? with
  | some o => o.after.all (fun e => !Region.binds .any e || decide (e.on < i))
  | none => true) &&
 ((List.range h).all fun i => (List.range h).all fun j => match ops[i]?, ops[j]? with
  | some o, some p => (match p.dst with
   | some d => decide (d < n) && (!(slotsOf ops o).contains d || o.after.any (fun e => Region.binds .any e && e.on == j))
   | none => true)
  | _, _ => true) &&
 (decide (h = ops.size) || (Region.sinkB .any ops h && Region.chainB .any ops h))
structure DInv (n h : Nat) (ds : List Deferred) (ops : Array Oper) (T : Tr) (listed : Array Bool) (a : Act) : Prop where
 head : HeadInv .any ops h listed
 size : a.tmps.size = n
 defers : a.defers = ds
 at_ : ∀ s v, T.get s = some v → (∀ j o, j < h → ops[j]? = some o → listed.getD j true = false → o.dst ≠ some s) → a.tmps[s]? = some v
theorem rep_of_slots {ops : Array Oper} {T : Tr} {a : Act} {o : Oper} {s : Sem Next} (h : ∀ i ∈ slotsOf ops o, ∀ v, T.get i = some v → a.tmps[i]? = some v) (hs : opSem T o = some s) : execOp a.eval o = s := by
 let t' : Tr := (slotsOf ops o).foldl (fun t i => t.set i (T.get i)) .nil
 have hsel := opSem_noSel hs
 unfold opSem at hs
 cases hb : (noSel o.op && o.op.operands.toList.all fun x => (T.ev? x).isSome) with
 | false => rw [hb] at hs; cases hs
 | true =>
  rw [hb] at hs
  simp only [cond_true, Option.some.injEq] at hs
  rw [← hs]
  simp only [Bool.and_eq_true, List.all_eq_true] at hb
  refine execOp_congr o (fun cs b e => by rw [e] at hsel; cases hsel) fun x hx => ?_
  obtain ⟨v, hv⟩ := Option.isSome_iff_exists.1 (hb.2 x (by simpa using hx))
  have hT : T.ev x = v := by simp [Tr.ev, hv]
  rw [hT]
  cases x with
  | tmp i =>
   have := h i (List.mem_append_left _ (List.mem_filterMap.2 ⟨.tmp i, by simpa using hx, rfl⟩)) v hv
   simp [Act.eval, this]
  | const u => exact Option.some.inj hv
  | global g => exact Option.some.inj hv
  | func f => exact Option.some.inj hv
theorem wanted_of_slots {ops : Array Oper} {T : Tr} {a : Act} {o : Oper} {b : Bool} (h : ∀ i ∈ slotsOf ops o, ∀ v, T.get i = some v → a.tmps[i]? = some v) (hb : wanted? ops T o = some b) : Region.wanted o (yielded ops a.tmps) = b := by
 unfold wanted? at hb
 unfold Region.wanted
 cases hg : o.guard with
 | none => rw [hg] at hb; simpa using hb
 | some jw =>
  obtain ⟨j, want⟩ := jw
  rw [hg] at hb
  simp only at hb ⊢
  unfold yielded
  cases hd : (ops[j]?).bind (·.dst) with
  | none => rw [hd] at hb; simp only [Option.some.injEq] at hb; subst hb; rfl
  | some d =>
   rw [hd] at hb
   simp only [Option.bind_some] at hb ⊢
   cases hv : T.get d with
   | none => rw [hv] at hb; cases hb
   | some v =>
    have := h d (by unfold slotsOf; rw [hg]; simp [hd]) v hv
    rw [hv] at hb
    rw [this]
    cases v <;> simp only [Option.some.injEq] at hb <;> subst hb <;> simp
def cnt (listed : Array Bool) : Nat → Nat
 | 0 => 0
 | h + 1 => cnt listed h + (bif listed.getD h false then 0 else 1)
theorem cnt_far {listed : Array Bool} {i : Nat} : ∀ {h : Nat}, h ≤ i → cnt (listed.setIfInBounds i true) h = cnt listed h
 | 0, _ => rfl
 | h + 1, hi => by
  have hne : i ≠ h := by omega
  have := cnt_far (listed := listed) (i := i) (h := h) (by omega)
  simp only [cnt, this, getD_set_ne false hne]
theorem cnt_set {listed : Array Bool} {i : Nat} (hs : i < listed.size) (hu : listed.getD i false = false) : ∀ {h : Nat}, i < h → cnt (listed.setIfInBounds i true) h + 1 = cnt listed h
 | 0, hi => by omega
 | h + 1, hi => by
  simp only [cnt]
  by_cases e : i = h
  ·subst e
   rw [cnt_far (Nat.le_refl _), hu]
   have : (listed.setIfInBounds i true).getD i false = true := by simp [hs]
   rw [this]
   rfl
  have := cnt_set hs hu (h := h) (by omega)
  rw [getD_set_ne false e]
  omega
theorem cnt_zero {listed : Array Bool} : ∀ {h : Nat}, cnt listed h = 0 → ∀ j, j < h → listed.getD j false = true
 | 0, _, j, hj => by omega
 | h + 1, hc, j, hj => by
  simp only [cnt] at hc
  by_cases e : j = h
  ·subst e
   cases hb : listed.getD j false with
   | true => rfl
   | false => rw [hb] at hc; simp at hc
  exact cnt_zero (h := h) (by omega) j (by omega)
theorem cnt_pos {listed : Array Bool} {h : Nat} (hc : cnt listed h ≠ 0) : ∃ i, i < h ∧ listed.getD i false = false ∧ ∀ j, j < i → listed.getD j false = true := by
 induction h with
 | zero => exact absurd rfl hc
 | succ h ih =>
  by_cases e : cnt listed h = 0
  ·refine ⟨h, Nat.lt_succ_self h, ?_, cnt_zero e⟩
   simp only [cnt, e] at hc
   cases hb : listed.getD h false with
   | false => rfl
   | true => rw [hb] at hc; simp at hc
  obtain ⟨i, h1, h2, h3⟩ := ih e
  exact ⟨i, by omega, h2, h3⟩
theorem headB_back {ops : Array Oper} {h n : Nat} (hB : headB ops h n = true) {i : Nat} {o : Oper} (ho : ops[i]? = some o) : ∀ e ∈ o.after, Region.binds .any e = true → e.on < i := by
 simp only [headB, Bool.and_eq_true] at hB
 have := List.all_eq_true.1 hB.1.1.2 i (List.mem_range.2 (Array.getElem?_eq_some_iff.1 ho).1)
 rw [ho] at this
 intro e he hb
 have h2 := Array.all_eq_true_iff_forall_mem.1 this e he
 simpa [hb] using h2
theorem headB_le {ops : Array Oper} {h n : Nat} (hB : headB ops h n = true) : h ≤ ops.size := by
 simp only [headB, Bool.and_eq_true, decide_eq_true_eq] at hB
 exact hB.1.1.1.2
theorem headB_deps {ops : Array Oper} {h n : Nat} (hB : headB ops h n = true) {i j d : Nat} {o p : Oper} (hi : i < h) (hj : j < h) (ho : ops[i]? = some o) (hp : ops[j]? = some p) (hd : p.dst = some d) :
  d < n ∧ (d ∈ slotsOf ops o → ∃ e ∈ o.after, Region.binds .any e = true ∧ e.on = j) := by
 simp only [headB, Bool.and_eq_true] at hB
 have h1 := List.all_eq_true.1 (List.all_eq_true.1 hB.1.2 i (List.mem_range.2 hi)) j (List.mem_range.2 hj)
 rw [ho, hp] at h1
 simp only [hd, Bool.and_eq_true, decide_eq_true_eq, Bool.or_eq_true, Bool.not_eq_true', List.contains_eq_mem, decide_eq_false_iff_not] at h1
 refine ⟨h1.1, fun hm => ?_⟩
 rcases h1.2 with h2 | h2
 ·exact absurd hm h2
 obtain ⟨e, he, hb⟩ := Array.any_eq_true'.1 h2
 simp only [Bool.and_eq_true, beq_iff_eq] at hb
 exact ⟨e, he, hb.1, hb.2⟩
theorem headB_tail {ops : Array Oper} {h n : Nat} (hB : headB ops h n = true) : h = ops.size ∨ (Region.sinkB .any ops h = true ∧ Region.chainB .any ops h = true) := by
 simp only [headB, Bool.and_eq_true, Bool.or_eq_true, decide_eq_true_eq] at hB
 exact hB.2
variable {F : Fence} {mm : Nat} {Q : Exit → Act → World → Prop} {ops : Array Oper} {C : World → Prop}
theorem d_tail {h n : Nat} (hB : headB ops h n = true) : ∀ (g k fuel : Nat) (listed : Array Bool) (a : Act) (w : World), k + g = ops.size → h ≤ k → g ≤ fuel → listed.size = ops.size →
  (∀ j, j < k → listed.getD j false = true) → (∀ j, k ≤ j → j < ops.size → listed.getD j true = false) →
  wpListIn F mm P ops Q (ops.toList.drop k) a w → wpAnyIn F mm P .any ops Q fuel listed a w := by
 intro g
 induction g with
 | zero =>
  intro k fuel listed a w hk hhk hf hsz h1 h2 hw
  have hr : Region.ready .any ops listed = [] := by
   cases hc : Region.ready .any ops listed with
   | nil => rfl
   | cons i r =>
    obtain ⟨h3, o, ho, _⟩ := mem_ready.1 (show i ∈ Region.ready .any ops listed by rw [hc]; simp)
    have hi := (Array.getElem?_eq_some_iff.1 ho).1
    have h4 := h1 i (by omega)
    rw [getD_both h3] at h4
    cases h4
  rw [List.drop_eq_nil_of_le (by simp; omega)] at hw
  cases fuel with
  | zero => exact ⟨hr, hw⟩
  | succ f => exact ⟨fun _ => hw, by rw [hr]; simp⟩
 | succ g ih =>
  intro k fuel listed a w hk hhk hf hsz h1 h2 hw
  obtain ⟨f, rfl⟩ : ∃ f, fuel = f + 1 := ⟨fuel - 1, by omega⟩
  have hkl : k < ops.size := by omega
  obtain ⟨o, ho⟩ : ∃ o, ops[k]? = some o := ⟨ops[k], by simp [hkl]⟩
  have hkr : k ∈ Region.ready .any ops listed := mem_ready.2 ⟨h2 k (Nat.le_refl _) hkl, o, ho, fun e he hb => h1 _ (headB_back hB ho e he hb)⟩
  refine ⟨fun h0 => (by rw [h0] at hkr; cases hkr), fun i hi => ?_⟩
  have hik : i = k := by
   obtain ⟨h3, oi, hoi, hall⟩ := mem_ready.1 hi
   have hil := (Array.getElem?_eq_some_iff.1 hoi).1
   rcases Nat.lt_trichotomy i k with h4 | h4 | h4
   ·have := h1 i h4
    rw [getD_both h3] at this
    cases this
   ·exact h4
   rcases headB_tail hB with h5 | ⟨_, h5⟩
   ·omega
   have h6 := List.all_eq_true.1 h5 i (List.mem_range.2 hil)
   simp only [Bool.or_eq_true, decide_eq_true_eq] at h6
   rcases h6 with h6 | h6
   ·omega
   obtain ⟨o', ho', e, he, hb, hon⟩ := Region.waitsFor_spec h6
   have : o' = oi := Option.some.inj (ho'.symm.trans hoi)
   subst this
   have h7 := hall e he hb
   rw [hon, getD_both (h2 (i - 1) (by omega) (by omega))] at h7
   cases h7
  subst hik
  have hd : ops.toList.drop i = o :: ops.toList.drop (i + 1) := by
   rw [List.drop_eq_getElem_cons (by simpa using hkl)]
   have : ops.toList[i]'(by simpa using hkl) = o := by
    have := (Array.getElem?_eq_some_iff.1 ho).2
    simpa using this
   rw [this]
  rw [hd] at hw
  have hop : wpOpIn F mm P ops Q i (wpListIn F mm P ops Q (ops.toList.drop (i + 1))) a w := by
   unfold wpOpIn
   simp only [ho]
   exact hw
  refine wpOpIn_mono (fun a' w' h' => ih (i + 1) f _ a' w' (by omega) (by omega) (by omega) (by simp [hsz]) (fun j hj => ?_) (fun j hj hjl => ?_) h') hop
  ·by_cases e : i = j
   ·subst e; simp [hsz, hkl]
   rw [getD_set_ne false e]; exact h1 j (by omega)
  rw [getD_set_ne true (by omega)]; exact h2 j (by omega) hjl
theorem d_head {h n : Nat} {ds : List Deferred} {T : Tr} (hF : OpenF F) (hB : headB ops h n = true) (hE : ∀ j o, j < h → ops[j]? = some o → Ev P n ops C T o)
  (hT : ∀ a w, Rep n ds a T → C w → wpListIn F mm P ops Q (ops.toList.drop h) a w) :
  ∀ (m fuel : Nat) (listed : Array Bool) (a : Act) (w : World), cnt listed h = m → m + (ops.size - h) ≤ fuel → DInv n h ds ops T listed a → C w → wpAnyIn F mm P .any ops Q fuel listed a w := by
 intro m
 induction m with
 | zero =>
  intro fuel listed a w hc hf inv hw
  have hall := cnt_zero hc
  refine d_tail hB (ops.size - h) h fuel listed a w (by have := headB_le hB; omega) (Nat.le_refl _) (by omega) inv.head.size hall (fun j hj hjl => inv.head.tail j hj hjl) (hT a w ⟨inv.size, inv.defers, fun s v hs => inv.at_ s v hs fun j o hj ho hu => ?_⟩ hw)
  have := hall j hj
  rw [getD_both hu] at this
  cases this
 | succ m ih =>
  intro fuel listed a w hc hf inv hw
  obtain ⟨f, rfl⟩ : ∃ f, fuel = f + 1 := ⟨fuel - 1, by omega⟩
  obtain ⟨i0, hi0, hu0, hl0⟩ := cnt_pos (listed := listed) (h := h) (by omega)
  have hle := headB_le hB
  obtain ⟨o0, ho0⟩ : ∃ o, ops[i0]? = some o := ⟨ops[i0]'(by omega), by simp [show i0 < ops.size by omega]⟩
  have hr0 : i0 ∈ Region.ready .any ops listed := mem_ready.2 ⟨getD_in (by rw [inv.head.size]; omega) hu0, o0, ho0, fun e he hb => hl0 _ (headB_back hB ho0 e he hb)⟩
  refine ⟨fun h0 => (by rw [h0] at hr0; cases hr0), fun i hi => ?_⟩
  obtain ⟨hun, o, ho, hall⟩ := mem_ready.1 hi
  have hil := (Array.getElem?_eq_some_iff.1 ho).1
  have hih : i < h := by
   rcases headB_tail hB with h5 | ⟨h5, h6⟩
   ·omega
   rcases Nat.lt_or_ge i h with h7 | h7
   ·exact h7
   exact absurd hi (tail_waits h5 h6 (by omega) inv.head _ i0 rfl hi0 (getD_in (by rw [inv.head.size]; omega) hu0) i h7)
  have hslots : ∀ s ∈ slotsOf ops o, ∀ v, T.get s = some v → a.tmps[s]? = some v := fun s hs v hv => inv.at_ s v hv fun j p hj hp hju e => by
   obtain ⟨_, hdep⟩ := headB_deps hB hih hj ho hp e
   obtain ⟨ed, hed, hb, hon⟩ := hdep hs
   have := hall ed hed hb
   rw [hon, getD_both hju] at this
   cases this
  obtain ⟨v, hv, hcase⟩ := (hE i o hih ho).out
  have hinv : DInv n h ds ops T (listed.setIfInBounds i true) (a.put o.dst v) := by
   refine ⟨inv.head.set hi hih, ?_, ?_, fun s u hs hno => ?_⟩
   ·cases hd : o.dst <;> simp [Act.put, inv.size]
   ·cases hd : o.dst <;> simp [Act.put, inv.defers]
   by_cases e : o.dst = some s
   ·have hsn := (headB_deps hB hih hih ho ho e).1
    have := hv s e hsn
    rw [this] at hs
    obtain rfl := Option.some.inj hs
    rw [e]
    simp [Act.put, inv.size, hsn]
   have hold : a.tmps[s]? = some u := inv.at_ s u hs fun j p hj hp hju => by
    by_cases ej : i = j
    ·subst ej
     have : p = o := Option.some.inj (hp.symm.trans ho)
     subst this
     exact e
    exact hno j p hj hp (by rw [getD_set_ne true ej]; exact hju)
   cases hd : o.dst with
   | none => exact hold
   | some d =>
    simp only [Act.put]
    rw [Array.getElem?_setIfInBounds, if_neg (fun e' => e (by rw [hd, e']))]
    exact hold
  have hnext : ∀ w', C w' → wpAnyIn F mm P .any ops Q f (listed.setIfInBounds i true) (a.put o.dst v) w' := fun w' hw' => by
   have := cnt_set (listed := listed) (by rw [inv.head.size]; exact hil) (getD_both hun) hih
   exact ih f _ _ w' (by omega) (by omega) hinv hw'
  unfold wpOpIn
  simp only [ho]
  rcases hcase with ⟨hwn, rfl⟩ | ⟨hwn, s, hs, hq⟩
  ·rw [wanted_of_slots hslots hwn, if_neg (by simp)]
   exact ⟨fun f _ => hF.fn f, hnext w hw⟩
  rw [wanted_of_slots hslots hwn, if_pos rfl]
  refine ⟨fun f _ => hF.fn f, ?_⟩
  have hx := rep_of_slots hslots hs
  have hy := Oper.semAt_eq F.round a.eval o (noDefer (opSem_noSel hs))
  rw [hy, hx]
  rcases hq w hw with h8 | ⟨fc, args, h8, hcalls⟩ | ⟨hu, h8⟩
  rotate_left 2
  ·subst hu; rw [h8]; exact hnext w hw
  ·rw [h8]; exact hnext w hw
  rw [h8]
  refine ⟨fun h => hF.depth h (m := mm), hF.calls (m := mm - 1) (hcalls.mono ?_)⟩
  rintro e w' ⟨rfl, hw'⟩
  exact hnext w' hw'
theorem wpIn_draw {h n id : Nat} {ds : List Deferred} {t : Tr} {a : Act} {w : World} (hF : OpenF F) (hm : P.follows .mixedOrders = true) (hB : headB ops h n = true) (hC : ∀ w k, C w → C { w with drawn := k }) (hw : C w) (hr : Rep n ds a t)
  (hL : Lex P n ops C (fun T => ∀ a w, Rep n ds a T → C w → wpListIn F mm P ops Q (ops.toList.drop h) a w) (ops.toList.take h) t) : (Code.region id ops true).wpIn F mm P Q a w := by
 refine wpIn_region_any hm ?_
 have hssa : ssaL ops (ops.toList.take h) = true := by
  simp only [headB, Bool.and_eq_true] at hB
  exact hB.1.1.1.1
 obtain ⟨T, hk, hag, hev⟩ := lex_ev hssa hL
 have hle := headB_le hB
 have hmem : ∀ j o, j < h → ops[j]? = some o → o ∈ ops.toList.take h := fun j o hj ho => by
  refine List.mem_of_getElem? (i := j) ?_
  rw [List.getElem?_take, if_pos hj]
  simpa using ho
 refine d_head hF hB (fun j o hj ho => hev o (hmem j o hj ho)) hk (cnt (Array.replicate ops.size false) h) ops.size _ a _ rfl ?_ ⟨⟨by simp, fun j oj _ hl => ?_, fun t ht htl => ?_⟩, hr.size, hr.defers, fun s v hs hno => ?_⟩ (hC w _ hw)
 ·have : ∀ k, cnt (Array.replicate ops.size false) k ≤ k := fun k => by
   induction k with
   | zero => exact Nat.le_refl _
   | succ k ih =>
    simp only [cnt]
    cases (Array.replicate ops.size false).getD k false <;> simp <;> omega
  have := this h
  omega
 ·rw [getD_replicate_false] at hl; cases hl
 ·simp [htl]
 refine hr.at_ s v ?_
 rw [← hag s fun o ho e => ?_]
 ·exact hs
 obtain ⟨j, hj⟩ := List.mem_iff_getElem?.1 ho
 rw [List.getElem?_take] at hj
 by_cases hjh : j < h
 ·rw [if_pos hjh] at hj
  have hj' : ops[j]? = some o := by simpa using hj
  exact hno j o hjh hj' (by simp [show j < ops.size by omega]) e
 rw [if_neg hjh] at hj; cases hj
end
/-! ### the rules within such a region -/
structure LGoal (F : Fence) (mm : Nat) (P : Program) (fin : Fin) (w0 : World) (bs : List Nat) (tail : List Oper) (st : St) : Prop where
 out : OpenF F → Lex P st.n st.ops (Sat w0 bs st.hp) (fun T => ∀ a w, Rep st.n st.ds a T → Sat w0 bs st.hp w → wpListIn F mm P st.ops (den F mm P fin st.k) tail a w) st.l st.t
section
variable {F : Fence} {mm : Nat} {P : Program} {fin : Fin} {w0 : World} {bs : List Nat} {tail : List Oper} {st : St}
def drawOf (st : St) : Option (Array Oper × List K) :=
 match st.l, st.k with
 | [], .code (.region _ ops true) :: k => some (ops, k)
 | _, _ => none
def drawSt (st : St) (h : Nat) : St := match drawOf st with
 | some (ops, k) => { st with ops, l := ops.toList.take h, k }
 | none => st
def drawTail (st : St) (h : Nat) : List Oper := match drawOf st with
 | some (ops, _) => ops.toList.drop h
 | none => []
def drawOk (st : St) (h : Nat) : Bool := match drawOf st with
 | some (ops, _) => headB ops h st.n
 | none => false
theorem g_draw (h : Nat) (hm : P.follows .mixedOrders = true) (hB : drawOk st h = true) (g : LGoal F mm P fin w0 bs (drawTail st h) (drawSt st h)) : Goal F mm P fin w0 bs st := by
 refine ⟨fun hF a w hr hw => ?_⟩
 have hg := g.out hF
 obtain ⟨n, ds, ops0, l, k0, t, hp⟩ := st
 unfold drawOk at hB
 unfold drawSt drawTail at hg
 cases hd : drawOf ⟨n, ds, ops0, l, k0, t, hp⟩ with
 | none => rw [hd] at hB; cases hB
 | some x =>
  obtain ⟨ops, k⟩ := x
  rw [hd] at hB hg
  simp only at hB hg hr hw ⊢
  unfold drawOf at hd
  simp only at hd
  split at hd
  ·simp only [Option.some.injEq, Prod.mk.injEq] at hd
   obtain ⟨rfl, rfl⟩ := hd
   exact wpIn_draw hF hm hB (fun _ k hw => hw.draw k) hw hr hg
  cases hd
def lop1 (P : Program) (hs : List Nat) (m : Nat) (st : St) : Option (List Nat × Nat × St × List (Nat × Nat)) :=
 match st.l with
 | [] => none
 | o :: rest =>
  match o.guard.isSome, m with
  | true, 0 => none
  | gd, _ => match wanted? st.ops st.t o with
   | none => none
   | some false => some (hs, (bif gd then m - 1 else m), { st with l := rest, t := st.t.put st.n o.dst undef }, [])
   | some true => match opSem st.t o with
    | none => none
    | some s => match runR P st.hp s hs with
     | some (.value v, hs', e) => some (hs', (bif gd then m - 1 else m), { st with l := rest, t := st.t.put st.n o.dst v }, e)
     | _ => none
theorem lop1_ok {hs hs' : List Nat} {m m' : Nat} {st' : St} {e : List (Nat × Nat)} (h : lop1 P hs m st = some (hs', m', st', e)) (he : AllEq e) (g : LGoal F mm P fin w0 bs tail st') : LGoal F mm P fin w0 bs tail st := by
 refine ⟨fun hF => ?_⟩
 have hg := g.out hF
 obtain ⟨n, ds, ops, l, k, t, hp⟩ := st
 unfold lop1 at h
 simp only at h ⊢
 cases l with
 | nil => cases h
 | cons o rest =>
  simp only at h
  have key : ∀ gd : Bool, (match wanted? ops t o with
   | none => none
   | some false => some (hs, (bif gd then m - 1 else m), ({ n, ds, ops, l := rest, k, t := t.put n o.dst undef, hp } : St), [])
   | some true => match opSem t o with
    | none => none
    | some s => match runR P hp s hs with
     | some (.value v, hs', e) => some (hs', (bif gd then m - 1 else m), { n, ds, ops, l := rest, k, t := t.put n o.dst v, hp }, e)
     | _ => none) = some (hs', m', st', e) → Lex P n ops (Sat w0 bs hp) (fun T => ∀ a w, Rep n ds a T → Sat w0 bs hp w → wpListIn F mm P ops (den F mm P fin k) tail a w) (o :: rest) t := by
   intro gd h
   split at h
   ·cases h
   ·rename_i hwn
    simp only [Option.some.injEq, Prod.mk.injEq] at h
    obtain ⟨_, _, rfl, _⟩ := h
    exact .inl ⟨hwn, hg⟩
   rename_i hwn
   split at h
   ·cases h
   rename_i s hs1
   split at h
   ·rename_i v hs2 e2 hrun
    simp only [Option.some.injEq, Prod.mk.injEq] at h
    obtain ⟨_, _, rfl, rfl⟩ := h
    exact .inr ⟨hwn, s, v, hs1, fun w hw => .inl (runR_run hw hrun he), hg⟩
   cases h
  split at h
  ·cases h
  exact key _ h
def lexec (P : Program) (u : Nat) : Nat → List Nat → Nat → St → St × List (Nat × Nat)
 | 0, _, _, st => (st, [])
 | f + 1, hs, m, st => match st.l with
  | [] => (st, [])
  | o :: _ => bif stopAt u o then (st, []) else match lop1 P hs m st with
   | some (hs', m', st', e) => ((lexec P u f hs' m' st').1, e ++ (lexec P u f hs' m' st').2)
   | none => (st, [])
theorem lexec_ok (u : Nat) : ∀ (f : Nat) (hs : List Nat) (m : Nat) (st : St), AllEq (lexec P u f hs m st).2 → LGoal F mm P fin w0 bs tail (lexec P u f hs m st).1 → LGoal F mm P fin w0 bs tail st
 | 0, _, _, _, _, g => g
 | f + 1, hs, m, st, he, g => by
  simp only [lexec] at he g
  split at g
  ·exact g
  rename_i o r hl
  rw [hl] at he
  simp only at he
  cases hst : stopAt u o with
  | true => rw [hst] at g; exact g
  | false =>
   rw [hst, cond_false] at he g
   split at g
   ·rename_i hs' m' st' e hc
    rw [hc] at he
    obtain ⟨h1, h2⟩ := AllEq.append he
    exact lop1_ok hc h1 (lexec_ok u f hs' m' st' h2 g)
   exact g
theorem l_run (u : Nat) (hs : List Nat) (m : Nat) (he : (lexec P u 999 hs m st).2.map Prod.fst = (lexec P u 999 hs m st).2.map Prod.snd)
  (g : LGoal F mm P fin w0 bs tail (lexec P u 999 hs m st).1) : LGoal F mm P fin w0 bs tail st :=
 lexec_ok u 999 hs m st (AllEq.of_map he) g
theorem l_val (s : Sem Next) (v : Value) (h : headSem st = some s) (hv : QRun P (Sat w0 bs st.hp) s v) (g : LGoal F mm P fin w0 bs tail (retSt st v st.hp)) : LGoal F mm P fin w0 bs tail st := by
 refine ⟨fun hF => ?_⟩
 have hg := g.out hF
 obtain ⟨n, ds, ops, l, k, t, hp⟩ := st
 unfold headSem at h
 unfold retSt at hg
 simp only at h hg hv ⊢
 cases l with
 | nil => cases h
 | cons o rest =>
  simp only at h
  split at h
  ·rename_i hwn
   exact .inr ⟨hwn, s, v, h, hv, hg⟩
  cases h
theorem l_callq (fc : FuncId) (args : Array Value) (v : Value) (h : callOf P st = some (fc, args))
  (hc : ∀ w, Sat w0 bs st.hp w → Calls P fc args w fun e w' => e = .returned v ∧ Kept w w')
  (g : LGoal F mm P fin w0 bs tail (retSt st v st.hp)) : LGoal F mm P fin w0 bs tail st := by
 refine ⟨fun hF => ?_⟩
 have hg := g.out hF
 obtain ⟨n, ds, ops, l, k, t, hp⟩ := st
 unfold callOf at h
 unfold retSt at hg
 simp only at h hg hc ⊢
 cases l with
 | nil => cases h
 | cons o rest =>
  simp only at h
  split at h
  ·rename_i hwn
   split at h
   ·cases h
   rename_i s hs1
   split at h
   ·rename_i f' args' hq
    simp only [Option.some.injEq, Prod.mk.injEq] at h
    obtain ⟨rfl, rfl⟩ := h
    exact .inr ⟨hwn, s, v, hs1, fun w hw => .inr (.inl ⟨_, _, runQ_run hq w, (hc w hw).mono fun _ _ ⟨he, hk⟩ => ⟨he, hw.of_kept hk⟩⟩), hg⟩
   cases h
  cases h
theorem lex_rw {n d : Nat} {ops : Array Oper} {C : World → Prop} {kont : Tr → Prop} {v : Value} : ∀ {l : List Oper} {t : Tr}, t.get d = some v → (∀ t t' : Tr, (∀ s, t'.get s = t.get s) → kont t' → kont t) → Lex P n ops C kont l (t.set d (some v)) → Lex P n ops C kont l t
 | [], t, h, hk, hl => hk _ _ (fun s => by rw [Tr.get_set]; by_cases e : s = d <;> simp [e, h]) hl
 | o :: l, t, h, hk, hl => by
  have hag : ∀ s, (t.set d (some v)).get s = t.get s := fun s => by rw [Tr.get_set]; by_cases e : s = d <;> simp [e, h]
  have key : ∀ {l : List Oper} {t t' : Tr}, (∀ s, t'.get s = t.get s) → Lex P n ops C kont l t' → Lex P n ops C kont l t := by
   intro l
   induction l with
   | nil => intro t t' hs hl; exact hk _ _ hs hl
   | cons o l ih =>
    intro t t' hs hl
    have hp : ∀ u s, (t'.put n o.dst u).get s = (t.put n o.dst u).get s := fun u s => by
     cases hd : o.dst with
     | none => exact hs s
     | some d =>
      simp only [Tr.put]
      cases Nat.blt d n with
      | false => exact hs s
      | true => simp only [cond_true, Tr.get_set, hs]
    rcases hl with ⟨hw, hl⟩ | ⟨hw, s, u, h1, h2, hl⟩
    ·exact .inl ⟨(wanted_agree (fun i _ => (hs i).symm)).trans hw, ih (hp _) hl⟩
    exact .inr ⟨(wanted_agree (fun i _ => (hs i).symm)).trans hw, s, u, opSem_agree (ops := ops) (fun i _ => (hs i).symm) h1, h2, ih (hp _) hl⟩
  exact key hag hl
theorem l_rw (d : Nat) (v v' : Value) (h : st.t.get d = some v) (e : v = v') (g : LGoal F mm P fin w0 bs tail (st.slot d v')) : LGoal F mm P fin w0 bs tail st := by
 subst e
 refine ⟨fun hF => ?_⟩
 have hg := g.out hF
 unfold St.slot at hg
 refine lex_rw h (fun t t' hs hk a w hr hw => hk a w ⟨hr.size, hr.defers, fun i u hu => hr.at_ i u (by rw [← hs i]; exact hu)⟩ hw) hg
theorem l_dec (d : Nat) (b : Bool) (h : st.t.get d = some (.bool b)) (ht : b = true → LGoal F mm P fin w0 bs tail (st.slot d (.bool true))) (hf : b = false → LGoal F mm P fin w0 bs tail (st.slot d (.bool false))) : LGoal F mm P fin w0 bs tail st := by
 cases hb : b with
 | true => exact l_rw d _ _ h (congrArg Value.bool hb) (ht hb)
 | false => exact l_rw d _ _ h (congrArg Value.bool hb) (hf hb)
def endSt (st : St) (tail : List Oper) : St := { st with l := tail }
theorem l_end (h : st.l.isEmpty = true) (g : Goal F mm P fin w0 bs (endSt st tail)) : LGoal F mm P fin w0 bs tail st := by
 refine ⟨fun hF => ?_⟩
 have hl : st.l = [] := by simpa using h
 rw [hl]
 exact g.out hF
end
attribute [irreducible] drawSt drawTail lexec endSt
end
theorem lA {F : Fence} {mm : Nat} {P : Program} {fin : Fin} {w0 : World} {bs : List Nat} {st : St} {tail : List Oper} (hs : List Nat) (m : Nat) (g : LGoal F mm P fin w0 bs tail (lexec P 9999 999 hs m st).1)
    (he : (lexec P 9999 999 hs m st).2.map Prod.fst = (lexec P 9999 999 hs m st).2.map Prod.snd := by kernel_rfl) : LGoal F mm P fin w0 bs tail st := l_run 9999 hs m he g
theorem lU {F : Fence} {mm : Nat} {P : Program} {fin : Fin} {w0 : World} {bs : List Nat} {st : St} {tail : List Oper} (u : Nat) (hs : List Nat) (m : Nat) (g : LGoal F mm P fin w0 bs tail (lexec P u 999 hs m st).1)
    (he : (lexec P u 999 hs m st).2.map Prod.fst = (lexec P u 999 hs m st).2.map Prod.snd := by kernel_rfl) : LGoal F mm P fin w0 bs tail st := l_run u hs m he g
theorem l0 {F : Fence} {mm : Nat} {P : Program} {fin : Fin} {w0 : World} {bs : List Nat} {st : St} {tail : List Oper} (g : LGoal F mm P fin w0 bs tail (lexec P 9999 999 [] 0 st).1)
    (he : (lexec P 9999 999 [] 0 st).2.map Prod.fst = (lexec P 9999 999 [] 0 st).2.map Prod.snd := by kernel_rfl) : LGoal F mm P fin w0 bs tail st := l_run 9999 [] 0 he g
theorem lE {F : Fence} {mm : Nat} {P : Program} {fin : Fin} {w0 : World} {bs : List Nat} {st : St} {tail : List Oper} (g : Goal F mm P fin w0 bs (endSt st tail)) (h : st.l.isEmpty = true := by kernel_rfl) : LGoal F mm P fin w0 bs tail st := l_end h g
theorem gD {F : Fence} {mm : Nat} {P : Program} {fin : Fin} {w0 : World} {bs : List Nat} {st : St} (h : Nat) (g : LGoal F mm P fin w0 bs (drawTail st h) (drawSt st h)) (hm : P.follows .mixedOrders = true := by kernel_rfl) (hB : drawOk st h = true := by kernel_rfl) : Goal F mm P fin w0 bs st := g_draw h hm hB g
end Go.Proofs.Ytcncfmjfgdbfeab
