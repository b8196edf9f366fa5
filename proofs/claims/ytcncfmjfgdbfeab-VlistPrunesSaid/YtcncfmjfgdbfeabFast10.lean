/- The second way to walk: regions that draw, where some operations ask nothing but their operands, and the others come one by one. -/
import Derived.Test.YtcncfmjfgdbfeabM12
namespace Go.Proofs.Ytcncfmjfgdbfeab
open Go.RowKit
noncomputable section
section
variable {P : Program}
def restOf (ops : Array Oper) (hd : List Nat) : List Nat := (List.range ops.size).filter fun i => !hd.contains i
def opsOf (ops : Array Oper) (l : List Nat) : List Oper := l.filterMap fun i => ops[i]?
def waitsOn (o : Oper) (j : Nat) : Bool := o.after.any fun e => Region.binds .any e && e.on == j
def chainL (ops : Array Oper) : List Nat → Bool
 | i :: j :: l => (match ops[j]? with | some o => waitsOn o i | none => false) && chainL ops (j :: l)
 | _ => true
def drawEB (ops : Array Oper) (hd : List Nat) (n : Nat) : Bool :=
 chainL ops (restOf ops hd) &&
 ((List.range ops.size).all fun i => match ops[i]? with
  | some o => o.after.all (fun e => !Region.binds .any e || decide (e.on < i))
  | none => true) &&
 hd.all (fun j => decide (j < ops.size)) &&
 -- who reads what a head operation writes waits for it; nobody else writes it; nobody but the head writes what a head operation reads
 ((List.range ops.size).all fun i => hd.all fun j => match ops[i]?, ops[j]? with
  | some o, some p =>
   (match p.dst with
    | some d => decide (d < n) && (!(slotsOf ops o).contains d || waitsOn o j) && (i == j || !(o.dst == some d))
    | none => true) &&
   (hd.contains i || (match o.dst with | some d => !(slotsOf ops p).contains d | none => true))
  | _, _ => true)
theorem noDefer' {o : Oper} (h : noSel o.op = true) : ∀ c, o.op ≠ .defer c := fun c e => by rw [e] at h; cases h
structure EInv (n : Nat) (ds : List Deferred) (ops : Array Oper) (hd : List Nat) (T : Tr) (listed : Array Bool) (a af : Act) : Prop where
 size : a.tmps.size = n
 sizef : af.tmps.size = n
 defers : a.defers = af.defers
 agree : ∀ s, (∀ j o, j ∈ hd → ops[j]? = some o → listed.getD j true = false → o.dst ≠ some s) → a.tmps[s]? = af.tmps[s]?
 head : ∀ j o d v, j ∈ hd → ops[j]? = some o → o.dst = some d → T.get d = some v → af.tmps[d]? = some v
 reads : ∀ j o s v, j ∈ hd → ops[j]? = some o → s ∈ slotsOf ops o → T.get s = some v → af.tmps[s]? = some v
theorem same_of_slots {ops : Array Oper} {a af : Act} {o : Oper} (hsel : noSel o.op = true) (h : ∀ s ∈ slotsOf ops o, a.tmps[s]? = af.tmps[s]?) : execOp a.eval o = execOp af.eval o := by
 refine execOp_congr o (fun cs b e => by rw [e] at hsel; cases hsel) fun x hx => ?_
 cases x with
 | tmp i =>
  have := h i (List.mem_append_left _ (List.mem_filterMap.2 ⟨.tmp i, by simpa using hx, rfl⟩))
  simp [Act.eval, this]
 | const u => rfl
 | global g => rfl
 | func f => rfl
theorem wanted_of_same {ops : Array Oper} {a af : Act} {o : Oper} (h : ∀ s ∈ slotsOf ops o, a.tmps[s]? = af.tmps[s]?) : Region.wanted o (yielded ops a.tmps) = Region.wanted o (yielded ops af.tmps) := by
 unfold Region.wanted
 cases hg : o.guard with
 | none => rfl
 | some jw =>
  obtain ⟨j, want⟩ := jw
  simp only
  unfold yielded
  cases hd : (ops[j]?).bind (·.dst) with
  | none => rfl
  | some d =>
   have := h d (by unfold slotsOf; rw [hg]; simp [hd])
   simp only [Option.bind_some, this]
theorem put_other {a : Act} {dst : Option Tmp} {v : Value} {s : Nat} (h : dst ≠ some s) : (a.put dst v).tmps[s]? = a.tmps[s]? := by
 cases dst with
 | none => rfl
 | some d =>
  simp only [Act.put]
  rw [Array.getElem?_setIfInBounds, if_neg (fun e => h (by rw [e]))]
theorem put_here {a : Act} {d : Nat} {v : Value} : (a.put (some d) v).tmps[d]? = if d < a.tmps.size then some v else none := by
 simp only [Act.put]
 rw [Array.getElem?_setIfInBounds, if_pos rfl]
theorem put_agree {a af : Act} {dst : Option Tmp} {v : Value} {s : Nat} (hs : a.tmps.size = af.tmps.size) (h : a.tmps[s]? = af.tmps[s]?) : (a.put dst v).tmps[s]? = (af.put dst v).tmps[s]? := by
 by_cases e : dst = some s
 ·subst e; rw [put_here, put_here, hs]
 rw [put_other e, put_other e, h]
theorem put_size {a : Act} {dst : Option Tmp} {v : Value} : (a.put dst v).tmps.size = a.tmps.size := by cases dst <;> simp [Act.put]
theorem put_defers {a : Act} {dst : Option Tmp} {v : Value} : (a.put dst v).defers = a.defers := by cases dst <;> rfl
structure EFacts (ops : Array Oper) (hd : List Nat) (n : Nat) : Prop where
 chain : chainL ops (restOf ops hd) = true
 back : ∀ {i : Nat} {o : Oper}, ops[i]? = some o → ∀ e ∈ o.after, Region.binds .any e = true → e.on < i
 lt : ∀ {j : Nat}, j ∈ hd → j < ops.size
 dst : ∀ {i j d : Nat} {o p : Oper}, j ∈ hd → ops[i]? = some o → ops[j]? = some p → p.dst = some d → d < n ∧ (d ∈ slotsOf ops o → waitsOn o j = true) ∧ (i ≠ j → o.dst ≠ some d)
 read : ∀ {i j d : Nat} {o p : Oper}, j ∈ hd → i ∉ hd → ops[i]? = some o → ops[j]? = some p → o.dst = some d → d ∉ slotsOf ops p
theorem eFacts {ops : Array Oper} {hd : List Nat} {n : Nat} (h : drawEB ops hd n = true) : EFacts ops hd n := by
 simp only [drawEB, Bool.and_eq_true] at h
 obtain ⟨⟨⟨h1, h2⟩, h3⟩, h4⟩ := h
 have key : ∀ {i j : Nat} {o p : Oper}, j ∈ hd → ops[i]? = some o → ops[j]? = some p → _ := fun {i j o p} hj ho hp => by
  have := List.all_eq_true.1 (List.all_eq_true.1 h4 i (List.mem_range.2 (Array.getElem?_eq_some_iff.1 ho).1)) j hj
  rw [ho, hp] at this
  exact this
 refine ⟨h1, fun {i o} ho e he hb => ?_, fun {j} hj => of_decide_eq_true (List.all_eq_true.1 h3 j hj), fun {i j d o p} hj ho hp hd' => ?_, fun {i j d o p} hj hi ho hp hd' => ?_⟩
 ·have := List.all_eq_true.1 h2 i (List.mem_range.2 (Array.getElem?_eq_some_iff.1 ho).1)
  rw [ho] at this
  have h5 := Array.all_eq_true_iff_forall_mem.1 this e he
  simpa [hb] using h5
 ·have := key hj ho hp
  simp only [hd', Bool.and_eq_true, Bool.or_eq_true, decide_eq_true_eq, Bool.not_eq_true', List.contains_eq_mem, decide_eq_false_iff_not, beq_iff_eq] at this
  obtain ⟨⟨⟨q1, q2⟩, q3⟩, _⟩ := this
  refine ⟨q1, fun hm => ?_, fun hne e => ?_⟩
  ·rcases q2 with q2 | q2
   ·exact absurd hm q2
   exact q2
  rcases q3 with q3 | q3
  ·exact hne q3
  rw [e] at q3; simp at q3
 have := key hj ho hp
 simp only [Bool.and_eq_true, Bool.or_eq_true, hd', List.contains_eq_mem, decide_eq_true_eq, Bool.not_eq_true', decide_eq_false_iff_not] at this
 rcases this.2 with q | q
 ·exact absurd q hi
 exact q
variable {F : Fence} {mm : Nat} {Q : Exit → Act → World → Prop} {ops : Array Oper} {hd : List Nat}
theorem chain_ready {listed : Array Bool} : ∀ {l : List Nat}, chainL ops l = true → (∀ i ∈ l, listed.getD i true = false) → ∀ i ∈ l, i ∈ Region.ready .any ops listed → l.head? = some i
 | [], _, _, i, hi, _ => by cases hi
 | [j], _, _, i, hi, _ => by rw [List.mem_singleton.1 hi]; rfl
 | j :: k :: l, hc, hu, i, hi, hr => by
  rcases List.mem_cons.1 hi with rfl | hi
  ·rfl
  exfalso
  simp only [chainL, Bool.and_eq_true] at hc
  have := chain_ready hc.2 (fun i hi => hu i (List.mem_cons_of_mem _ hi)) i hi hr
  simp only [List.head?_cons, Option.some.injEq] at this
  subst this
  obtain ⟨_, o, ho, hall⟩ := mem_ready.1 hr
  rw [ho] at hc
  obtain ⟨e, he, hb⟩ := Array.any_eq_true'.1 hc.1
  simp only [Bool.and_eq_true, beq_iff_eq] at hb
  have h1 := hall e he hb.1
  rw [hb.2, getD_both (hu j (by simp))] at h1
  cases h1
theorem drawE_go {n : Nat} {ds : List Deferred} {T : Tr} {C : World → Prop} {Chain : List Nat → Act → World → Prop} (hC0 : ∀ l af w, Chain l af w → C w) (hCend : ∀ af w, Chain [] af w → Q .normal af w)
  (hCop : ∀ i l af w, Chain (i :: l) af w → wpOpIn F mm P ops Q i (fun a' w' => Chain l a' w') af w) (hF : OpenF F) (hX : EFacts ops hd n) (hE : ∀ w0, C w0 → ∀ j o, j ∈ hd → ops[j]? = some o → Ev P n ops (fun w => w = w0) T o) (hnp : ∀ ch a w, Q (.panic ch) a w → False) (hsel : ∀ i o, i ∉ hd → ops[i]? = some o → noSel o.op = true) :
  ∀ (fuel : Nat) (listed : Array Bool) (a af : Act) (w : World) (l pre : List Nat), listed.size = ops.size → (∀ i ∈ l, listed.getD i true = false) → (∀ i, i < ops.size → i ∉ hd → listed.getD i true = false → i ∈ l) → l.Nodup → restOf ops hd = pre ++ l → chainL ops l = true →
   ((List.range ops.size).filter fun i => !listed.getD i true).length ≤ fuel →
   EInv n ds ops hd T listed a af → Chain l af w → wpAnyIn F mm P .any ops Q fuel listed a w := by
 -- nothing is ready only at the end
 have ends : ∀ (listed : Array Bool) (a af : Act) (w : World) (l : List Nat), listed.size = ops.size → (∀ i ∈ l, listed.getD i true = false) → EInv n ds ops hd T listed a af → Chain l af w → Region.ready .any ops listed = [] → Q .normal a w := by
  intro listed a af w l hsz hu inv hw hr
  have hall : ∀ i, i < ops.size → listed.getD i true = true := by
   intro i
   induction i using Nat.strongRecOn with
   | _ i ih =>
    intro hi
    cases hb : listed.getD i true with
    | true => rfl
    | false =>
     exfalso
     obtain ⟨o, ho⟩ : ∃ o, ops[i]? = some o := ⟨ops[i], by simp [hi]⟩
     have : i ∈ Region.ready .any ops listed := mem_ready.2 ⟨hb, o, ho, fun e he hbe => by
      have h1 := hX.back ho e he hbe
      have h2 := ih e.on h1 (by omega)
      cases hc : listed.getD e.on false with
      | true => rfl
      | false => rw [getD_in (by omega) hc] at h2; cases h2⟩
     rw [hr] at this; cases this
  have hl : l = [] := by
   cases l with
   | nil => rfl
   | cons i l =>
    have h1 := hu i (by simp)
    have h2 : i < listed.size := by
     rcases Nat.lt_or_ge i listed.size with h3 | h3
     ·exact h3
     rw [Array.getD_eq_getD_getElem?, Array.getElem?_eq_none h3] at h1; cases h1
    rw [hall i (by omega)] at h1; cases h1
  subst hl
  have ha : a = af := by
   obtain ⟨at_, ad⟩ := a
   obtain ⟨ft, fd⟩ := af
   have e1 : at_ = ft := by
    apply Array.ext_getElem?
    intro s
    exact inv.agree s fun j o hj ho hl => by
     rw [hall j (hX.lt hj)] at hl; cases hl
   have e2 : ad = fd := inv.defers
   rw [e1, e2]
  rw [ha]
  exact hCend _ _ hw
 intro fuel
 induction fuel with
 | zero =>
  intro listed a af w l pre hsz hu hv hnd hpre hc hcnt inv hw
  have hr : Region.ready .any ops listed = [] := by
   cases hb : Region.ready .any ops listed with
   | nil => rfl
   | cons i r =>
    exfalso
    obtain ⟨h3, o, ho, _⟩ := mem_ready.1 (show i ∈ Region.ready .any ops listed by rw [hb]; simp)
    have hi := (Array.getElem?_eq_some_iff.1 ho).1
    have : i ∈ (List.range ops.size).filter fun i => !listed.getD i true := by
     rw [List.mem_filter]; exact ⟨List.mem_range.2 hi, by rw [h3]; rfl⟩
    have hne := List.ne_nil_of_mem this
    exact hne (List.length_eq_zero_iff.1 (by omega))
  exact ⟨hr, ends listed a af w l hsz hu inv hw hr⟩
 | succ fuel ih =>
  intro listed a af w l pre hsz hu hv hnd hpre hc hcnt inv hw
  refine ⟨fun hr => ends listed a af w l hsz hu inv hw hr, fun i hi => ?_⟩
  obtain ⟨hun, o, ho, hall⟩ := mem_ready.1 hi
  have hil := (Array.getElem?_eq_some_iff.1 ho).1
  have hls : i < listed.size := by omega
  have hset : (listed.setIfInBounds i true).getD i true = true := by simp [hls]
  have hcnt' : ((List.range ops.size).filter fun k => !(listed.setIfInBounds i true).getD k true).length ≤ fuel := by
   have h1 : ((List.range ops.size).filter fun k => !(listed.setIfInBounds i true).getD k true) = ((List.range ops.size).filter fun k => !listed.getD k true).filter (fun k => !(k == i)) := by
    rw [List.filter_filter]
    refine List.filter_congr fun k _ => ?_
    by_cases e : i = k
    ·subst e; rw [hset]; simp
    rw [getD_set_ne true e]
    have : (k == i) = false := by simpa using fun e' => e e'.symm
    simp [this]
   have h2 : i ∈ (List.range ops.size).filter fun k => !listed.getD k true := by
    rw [List.mem_filter]; exact ⟨List.mem_range.2 hil, by rw [hun]; rfl⟩
   have h3 : ∀ (m : List Nat), i ∈ m → (m.filter fun k => !(k == i)).length < m.length := by
    intro m
    induction m with
    | nil => intro h; cases h
    | cons x m ihm =>
     intro h
     by_cases e : x = i
     ·subst e
      simp only [List.filter_cons, beq_self_eq_true, Bool.not_true]
      have := List.length_filter_le (fun k => !(k == x)) m
      simp only [List.length_cons]
      exact Nat.lt_succ_of_le this
     rcases List.mem_cons.1 h with h | h
     ·exact absurd h.symm e
     have hb : (x == i) = false := by simpa using e
     simp only [List.filter_cons, hb, Bool.not_false, if_true, List.length_cons]
     exact Nat.succ_lt_succ (ihm h)
   rw [h1]
   have := h3 _ h2
   omega
  have hslots : ∀ s ∈ slotsOf ops o, a.tmps[s]? = af.tmps[s]? := fun s hs => inv.agree s fun j p hj hp hju e => by
   obtain ⟨_, hdep, _⟩ := hX.dst hj ho hp e
   obtain ⟨ed, hed, hb⟩ := Array.any_eq_true'.1 (hdep hs)
   simp only [Bool.and_eq_true, beq_iff_eq] at hb
   have := hall ed hed hb.1
   rw [hb.2, getD_both hju] at this
   cases this
  by_cases hih : i ∈ hd
  ·-- of the head
   obtain ⟨v, hv1, hcase⟩ := (hE w (hC0 _ _ _ hw) i o hih ho).out
   have hT : ∀ s ∈ slotsOf ops o, ∀ u, T.get s = some u → a.tmps[s]? = some u := fun s hs u hu' => (hslots s hs).trans (inv.reads i o s u hih ho hs hu')
   have hinv : EInv n ds ops hd T (listed.setIfInBounds i true) (a.put o.dst v) af := by
    refine ⟨put_size.trans inv.size, inv.sizef, put_defers.trans inv.defers, fun s hno => ?_, inv.head, inv.reads⟩
    by_cases e : o.dst = some s
    ·have hsn := (hX.dst hih ho ho e).1
     have h5 := hv1 s e hsn
     rw [e, put_here, if_pos (by rw [inv.size]; exact hsn)]
     exact (inv.head i o s v hih ho e h5).symm
    rw [put_other e]
    refine inv.agree s fun j p hj hp hju => ?_
    by_cases ej : i = j
    ·subst ej
     have : p = o := Option.some.inj (hp.symm.trans ho)
     subst this
     exact e
    exact hno j p hj hp (by rw [getD_set_ne true ej]; exact hju)
   have hnext : ∀ w', w' = w → wpAnyIn F mm P .any ops Q fuel (listed.setIfInBounds i true) (a.put o.dst v) w' := fun w' e => by
    subst e
    have hnl : ∀ k ∈ l, i ≠ k := fun k hk e => by
     subst e
     have : i ∈ restOf ops hd := by rw [hpre]; exact List.mem_append_right _ hk
     unfold restOf at this
     have := (List.mem_filter.1 this).2
     simp [hih] at this
    exact ih _ _ af w' l pre (by simp [hsz]) (fun k hk => by rw [getD_set_ne true (hnl k hk)]; exact hu k hk) (fun k hk hkh hku => hv k hk hkh (by
     by_cases e : i = k
     ·subst e; exact absurd hih hkh
     rw [getD_set_ne true e] at hku; exact hku)) hnd hpre hc hcnt' hinv hw
   unfold wpOpIn
   simp only [ho]
   rcases hcase with ⟨hwn, rfl⟩ | ⟨hwn, s, hs, hq⟩
   ·rw [wanted_of_slots hT hwn, if_neg (by simp)]
    exact ⟨fun f _ => hF.fn f, hnext w rfl⟩
   rw [wanted_of_slots hT hwn, if_pos rfl]
   refine ⟨fun f _ => hF.fn f, ?_⟩
   have hx := rep_of_slots hT hs
   have hy := Oper.semAt_eq F.round a.eval o (noDefer (opSem_noSel hs))
   rw [hy, hx]
   rcases hq w rfl with h8 | ⟨fc, args, h8, hcalls⟩ | ⟨hu, h8⟩
   rotate_left 2
   ·subst hu; rw [h8]; exact hnext w rfl
   ·rw [h8]; exact hnext w rfl
   rw [h8]
   refine ⟨fun h => hF.depth h (m := mm), hF.calls (m := mm - 1) (hcalls.mono ?_)⟩
   rintro e w' ⟨rfl, hw'⟩
   exact hnext w' hw'
  -- of the chain
  have hmem := hv i hil hih hun
  have hhead := chain_ready hc hu i hmem hi
  obtain ⟨l', rfl⟩ : ∃ l', l = i :: l' := by
   cases l with
   | nil => cases hhead
   | cons x l' => simp only [List.head?_cons, Option.some.injEq] at hhead; exact ⟨l', by rw [hhead]⟩
  have hw := hCop i l' af w hw
  have hsl := hsel i o hih ho
  have hni : i ∉ l' := (List.nodup_cons.1 hnd).1
  have hc' : chainL ops l' = true := by
   cases l' with
   | nil => rfl
   | cons k l' => simp only [chainL, Bool.and_eq_true] at hc; exact hc.2
  have hdst : ∀ s j p, j ∈ hd → ops[j]? = some p → p.dst = some s → o.dst ≠ some s := fun s j p hj hp hps => (hX.dst hj ho hp hps).2.2 (fun e => hih (by rw [e]; exact hj))
  have hmove : ∀ (D : List Deferred) v w', Chain l' (({ af with defers := D } : Act).put o.dst v) w' → wpAnyIn F mm P .any ops Q fuel (listed.setIfInBounds i true) (({ a with defers := D } : Act).put o.dst v) w' := fun D v w' h => by
   refine ih _ _ _ w' l' (pre ++ [i]) (by simp [hsz]) (fun k hk => ?_) (fun k hk hkh hku => ?_) (List.nodup_cons.1 hnd).2 (by simp [hpre]) hc' hcnt' ⟨?_, ?_, ?_, fun s hno => ?_, fun j p d u hj hp hpd hu => ?_, fun j p s u hj hp hs hu => ?_⟩ h
   ·have e : i ≠ k := fun e => hni (e ▸ hk)
    rw [getD_set_ne true e]; exact hu k (List.mem_cons_of_mem _ hk)
   ·by_cases e : i = k
    ·subst e; rw [hset] at hku; cases hku
    rw [getD_set_ne true e] at hku
    rcases List.mem_cons.1 (hv k hk hkh hku) with e' | h'
    ·exact absurd e'.symm e
    exact h'
   ·exact put_size.trans inv.size
   ·exact put_size.trans inv.sizef
   ·rw [put_defers, put_defers]
   ·refine put_agree (inv.size.trans inv.sizef.symm) (inv.agree s fun j p hj hp hju => hno j p hj hp ?_)
    rw [getD_set_ne true (fun e => hih (by rw [e]; exact hj))]; exact hju
   ·rw [put_other (hdst d j p hj hp hpd)]
    exact inv.head j p d u hj hp hpd hu
   rw [put_other (fun e => hX.read hj hih ho hp e hs)]
   exact inv.reads j p s u hj hp hs hu
  have hmove0 : ∀ v w', Chain l' (af.put o.dst v) w' → wpAnyIn F mm P .any ops Q fuel (listed.setIfInBounds i true) (a.put o.dst v) w' := fun v w' h => by
   have h1 := hmove a.defers v w'
   have e1 : ({ a with defers := a.defers } : Act) = a := rfl
   have e2 : ({ af with defers := a.defers } : Act) = af := by rw [inv.defers]
   rw [e1, e2] at h1
   exact h1 h
  unfold wpOpIn at hw ⊢
  simp only [ho] at hw ⊢
  rw [wanted_of_same hslots]
  split at hw
  ·rename_i hwn
   rw [if_pos hwn]
   refine ⟨fun f _ => hF.fn f, ?_⟩
   have h9 := hw.2
   rw [Oper.semAt_eq _ _ _ (noDefer' hsl)] at h9 ⊢
   rw [same_of_slots hsl hslots]
   revert h9
   generalize (execOp af.eval o).run P w = r
   intro h9
   unfold Oper.uponIn at h9 ⊢
   split at h9
   ·exact hmove0 _ _ h9
   ·exact hmove0 _ _ h9
   ·rename_i d w'
    have h1 := hmove (d :: a.defers) undef w'
    rw [inv.defers] at h1 ⊢
    exact h1 h9
   ·refine ⟨h9.1, h9.2.mono ?_⟩
    rintro e w'' h10
    cases e with
    | returned v => exact hmove0 _ _ h10
    | panicked ch => exact (hnp _ _ _ h10).elim
    | outgrown => exact h10
   ·refine ⟨h9.1, h9.2.mono ?_⟩
    rintro v w'' h10
    exact hmove0 _ _ h10
   ·refine ⟨h9.1, h9.2.mono ?_⟩
    rintro e w'' h10
    cases e with
    | returned v => exact hmove0 _ _ h10
    | panicked ch => exact (hnp _ _ _ h10).elim
    | outgrown => exact h10
   ·exact (hnp _ _ _ h9).elim
   exact h9.elim
  rename_i hwn
  rw [if_neg hwn]
  exact ⟨fun f _ => hF.fn f, hmove0 _ _ hw.2⟩
theorem wpIn_drawG {n id : Nat} {ds : List Deferred} {t T : Tr} {a : Act} {w : World} {C : World → Prop} {Chain : List Nat → Act → World → Prop} (hC0 : ∀ l af w, Chain l af w → C w) (hCend : ∀ af w, Chain [] af w → Q .normal af w)
  (hCop : ∀ i l af w, Chain (i :: l) af w → wpOpIn F mm P ops Q i (fun a' w' => Chain l a' w') af w) (hC : C w) (hF : OpenF F) (hm : P.follows .mixedOrders = true) (hB : drawEB ops hd n = true) (hT : ∀ w0, C w0 → Lex P n ops (fun w => w = w0) (fun t => t = T) (opsOf ops hd) t) (hssa : ssaL ops (opsOf ops hd) = true)
  (hsel : ops.toList.all (fun o => noSel o.op) = true) (hr : Rep n ds a t) (hnp : ∀ ch a w, Q (.panic ch) a w → False)
  (hL : ∀ a w', Rep n ds a T → Kept w w' → w'.heap = w.heap → Chain (restOf ops hd) a w') : (Code.region id ops true).wpIn F mm P Q a w := by
 refine wpIn_region_any hm ?_
 have hX := eFacts hB
 have hev : ∀ w0 : World, C w0 → (∀ s, (∀ o ∈ opsOf ops hd, o.dst ≠ some s) → T.get s = t.get s) ∧ ∀ o ∈ opsOf ops hd, Ev P n ops (fun w => w = w0) T o := fun w0 hc => by
  obtain ⟨T', hk, hag, hev⟩ := lex_ev hssa (hT w0 hc)
  subst hk
  exact ⟨hag, hev⟩
 have hmem : ∀ {j : Nat} {o : Oper}, j ∈ hd → ops[j]? = some o → o ∈ opsOf ops hd := fun {j o} hj ho => List.mem_filterMap.2 ⟨j, hj, ho⟩
 -- the frame with all that the head writes
 obtain ⟨af, haf⟩ : ∃ af : Act, af = { a with tmps := Array.ofFn (n := n) fun i => ((T.get i).getD ((a.tmps[(i : Nat)]?).getD undef)) } := ⟨_, rfl⟩
 have hget : ∀ s, s < n → af.tmps[s]? = some ((T.get s).getD ((a.tmps[s]?).getD undef)) := fun s hs => by
  rw [haf]; simp [hs]
 have hsz : af.tmps.size = n := by rw [haf]; simp
 have hrepT : Rep n ds af T := by
  refine ⟨hsz, by rw [haf]; exact hr.defers, fun i v hv => ?_⟩
  by_cases hin : i < n
  ·rw [hget i hin, hv]; rfl
  exfalso
  by_cases hd' : ∃ o ∈ opsOf ops hd, o.dst = some i
  ·obtain ⟨o, ho, hdst⟩ := hd'
   obtain ⟨j, hj, hjo⟩ := List.mem_filterMap.1 ho
   exact hin (hX.dst hj hjo hjo hdst).1
  rw [(hev w hC).1 i fun o ho e => hd' ⟨o, ho, e⟩] at hv
  have := (Array.getElem?_eq_some_iff.1 (hr.at_ i v hv)).1
  rw [hr.size] at this
  exact hin this
 have hdr : Kept w { w with drawn := w.drawn + 1 } := ⟨rfl, rfl, rfl, Nat.le_refl _, fun _ _ => rfl⟩
 refine drawE_go (n := n) (ds := ds) (T := T) (C := C) (Chain := Chain) hC0 hCend hCop hF hX (fun w0 hc j o hj ho => (hev w0 hc).2 o (hmem hj ho)) hnp (fun i o _ ho => List.all_eq_true.1 hsel o (by
   have := List.mem_of_getElem? (l := ops.toList) (i := i) (by simpa using ho)
   exact this)) ops.size _ a af _ (restOf ops hd) [] (by simp) (fun i hi => ?_) (fun i hi hih _ => ?_) ?_ rfl hX.chain ?_ ⟨hr.size, hsz, by rw [haf], fun s hno => ?_, fun j o d v hj ho hdst hv => hrepT.at_ d v hv, fun j o s v hj ho hs hv => hrepT.at_ s v hv⟩ (hL af _ hrepT hdr rfl)
 ·have := List.mem_range.1 (List.mem_filter.1 hi).1
  simp [this]
 ·exact List.mem_filter.2 ⟨List.mem_range.2 hi, by simpa using hih⟩
 ·exact (List.nodup_range).filter _
 ·have := List.length_filter_le (fun i => !(Array.replicate ops.size false).getD i true) (List.range ops.size)
  simpa using this
 -- what no head operation writes is as it was
 by_cases hs : s < n
 ·rw [hget s hs]
  have hTs : T.get s = t.get s := (hev w hC).1 s fun o ho e => by
   obtain ⟨j, hj, hjo⟩ := List.mem_filterMap.1 ho
   exact hno j o hj hjo (by simp [hX.lt hj]) e
  have hlt : s < a.tmps.size := by rw [hr.size]; exact hs
  rw [hTs]
  cases hv : t.get s with
  | none => simp [hlt]
  | some v => rw [hr.at_ s v hv]; rfl
 rw [Array.getElem?_eq_none (by rw [hr.size]; exact Nat.le_of_not_lt hs), Array.getElem?_eq_none (by rw [hsz]; exact Nat.le_of_not_lt hs)]
theorem wpIn_drawE {n id : Nat} {ds : List Deferred} {t T : Tr} {a : Act} {w : World} (hF : OpenF F) (hm : P.follows .mixedOrders = true) (hB : drawEB ops hd n = true) (hT : ∀ w0, Lex P n ops (fun w => w = w0) (fun t => t = T) (opsOf ops hd) t) (hssa : ssaL ops (opsOf ops hd) = true)
  (hsel : ops.toList.all (fun o => noSel o.op) = true) (hr : Rep n ds a t) (hnp : ∀ ch a w, Q (.panic ch) a w → False)
  (hL : ∀ a w', Rep n ds a T → Kept w w' → w'.heap = w.heap → wpListIn F mm P ops Q (opsOf ops (restOf ops hd)) a w') : (Code.region id ops true).wpIn F mm P Q a w := by
 refine wpIn_drawG (C := fun _ => True) (Chain := fun l af w => (∀ i ∈ l, i < ops.size) ∧ wpListIn F mm P ops Q (opsOf ops l) af w) (fun _ _ _ _ => trivial) (fun af w h => h.2) (fun i l af w h => ?_) trivial hF hm hB (fun w0 _ => hT w0) hssa hsel hr hnp
  (fun a w' h1 h2 h3 => ⟨fun i hi => List.mem_range.1 (List.mem_filter.1 hi).1, hL a w' h1 h2 h3⟩)
 obtain ⟨h1, h2⟩ := h
 obtain ⟨o, ho⟩ : ∃ o, ops[i]? = some o := ⟨ops[i]'(h1 i (by simp)), by simp [h1 i (by simp)]⟩
 have hops : opsOf ops (i :: l) = o :: opsOf ops l := by simp [opsOf, ho]
 rw [hops] at h2
 refine wpOpIn_mono (fun a' w' h' => ⟨fun k hk => h1 k (by simp [hk]), h'⟩) ?_
 unfold wpOpIn
 simp only [ho]
 exact h2
end
section
variable {F : Fence} {mm : Nat} {P : Program} {fin : Fin} {w0 : World} {bs : List Nat} {st : St}
theorem den_panic {ch : List PanicEntry} {a : Act} {w : World} : ∀ {k : List K}, den F mm P fin k (.panic ch) a w → fin (.panic ch) a w
 | [], h => h
 | .blk _ :: k, h => den_panic (k := k) h
 | .code _ :: k, h => den_panic (k := k) h
 | .hook _ :: k, h => den_panic (k := k) h
 | .again _ _ :: k, h => den_panic (k := k) h
 | .scp :: k, h => den_panic (k := k) h
structure EGoal (F : Fence) (mm : Nat) (P : Program) (fin : Fin) (w0 : World) (bs : List Nat) (tail : List Oper) (hp : List HE) (st : St) : Prop where
 out : st.hp = [] → OpenF F → ∃ T, (∀ w1, Lex P st.n st.ops (fun w => w = w1) (fun t => t = T) st.l st.t) ∧
  (∀ a w, Rep st.n st.ds a T → Sat w0 bs hp w → wpListIn F mm P st.ops (den F mm P fin st.k) tail a w)
variable {tail : List Oper} {hp : List HE}
theorem elop1_ok {hs hs' : List Nat} {m m' : Nat} {st' : St} {e : List (Nat × Nat)} (h : lop1 P hs m st = some (hs', m', st', e)) (he : AllEq e) (g : EGoal F mm P fin w0 bs tail hp st') : EGoal F mm P fin w0 bs tail hp st := by
 refine ⟨fun h0 hF => ?_⟩
 have hg := g.out
 obtain ⟨n, ds, ops, l, k, t, hp0⟩ := st
 simp only at h0
 subst h0
 unfold lop1 at h
 simp only at h ⊢
 cases l with
 | nil => cases h
 | cons o rest =>
  simp only at h
  have key : ∀ gd : Bool, (match wanted? ops t o with
   | none => none
   | some false => some (hs, (bif gd then m - 1 else m), ({ n, ds, ops, l := rest, k, t := t.put n o.dst undef, hp := [] } : St), [])
   | some true => match opSem t o with
    | none => none
    | some s => match runR P [] s hs with
     | some (.value v, hs', e) => some (hs', (bif gd then m - 1 else m), { n, ds, ops, l := rest, k, t := t.put n o.dst v, hp := [] }, e)
     | _ => none) = some (hs', m', st', e) → ∃ T, (∀ w1, Lex P n ops (fun w => w = w1) (fun t => t = T) (o :: rest) t) ∧ (∀ a w, Rep n ds a T → Sat w0 bs hp w → wpListIn F mm P ops (den F mm P fin k) tail a w) := by
   intro gd h
   split at h
   ·cases h
   ·rename_i hwn
    simp only [Option.some.injEq, Prod.mk.injEq] at h
    obtain ⟨_, _, rfl, _⟩ := h
    obtain ⟨T, h1, h2⟩ := hg rfl hF
    exact ⟨T, fun w1 => .inl ⟨hwn, h1 w1⟩, h2⟩
   rename_i hwn
   split at h
   ·cases h
   rename_i s hs1
   split at h
   ·rename_i v hs2 e2 hrun
    simp only [Option.some.injEq, Prod.mk.injEq] at h
    obtain ⟨_, _, rfl, rfl⟩ := h
    obtain ⟨T, h1, h2⟩ := hg rfl hF
    exact ⟨T, fun w1 => .inr ⟨hwn, s, v, hs1, fun w _ => .inl (runR_run (w0 := w) (bs := []) ⟨.refl _ _, fun e he => by simp at he, fun i j e e' _ hi => by simp at hi⟩ hrun he), h1 w1⟩, h2⟩
   cases h
  split at h
  ·cases h
  exact key _ h
theorem elexec_ok (u : Nat) : ∀ (f : Nat) (hs : List Nat) (m : Nat) (st : St), AllEq (lexec P u f hs m st).2 → EGoal F mm P fin w0 bs tail hp (lexec P u f hs m st).1 → EGoal F mm P fin w0 bs tail hp st
 | 0, _, _, _, _, g => by rw [lexec.eq_def] at g; exact g
 | f + 1, hs, m, st, he, g => by
  rw [lexec.eq_def] at he g
  simp only at he g
  split at g
  ·exact g
  rename_i o r hl
  rw [hl] at he
  simp only at he
  cases hst : stopAt u o with
  | true => rw [hst] at g; exact g
  | false =>
   rw [hst, cond_false] at he g
   split at g
   ·rename_i hs' m' st' e hc
    rw [hc] at he
    obtain ⟨h1, h2⟩ := AllEq.append he
    exact elop1_ok hc h1 (elexec_ok u f hs' m' st' h2 g)
   exact g
theorem e_run (u : Nat) (hs : List Nat) (m : Nat) (he : (lexec P u 999 hs m st).2.map Prod.fst = (lexec P u 999 hs m st).2.map Prod.snd)
  (g : EGoal F mm P fin w0 bs tail hp (lexec P u 999 hs m st).1) : EGoal F mm P fin w0 bs tail hp st :=
 elexec_ok u 999 hs m st (AllEq.of_map he) g
theorem e_val (s : Sem Next) (v : Value) (h : headSem st = some s) (hv : ∀ w, s.run P w = .ok (.value v) w) (g : EGoal F mm P fin w0 bs tail hp (retSt st v st.hp)) : EGoal F mm P fin w0 bs tail hp st := by
 refine ⟨fun h0 hF => ?_⟩
 have hg := g.out
 obtain ⟨n, ds, ops, l, k, t, hp0⟩ := st
 unfold headSem at h
 unfold retSt at hg
 simp only at h h0 hg ⊢
 cases l with
 | nil => cases h
 | cons o rest =>
  simp only at h
  split at h
  ·rename_i hwn
   obtain ⟨T, h1, h2⟩ := hg h0 hF
   exact ⟨T, fun w1 => .inr ⟨hwn, s, v, h, fun w _ => .inl (hv w), h1 w1⟩, h2⟩
  cases h
def drawESt (st : St) (hd : List Nat) : St := match drawOf st with
 | some (ops, k) => { st with ops, l := opsOf ops hd, k, hp := [] }
 | none => St.dead
def drawETail (st : St) (hd : List Nat) : List Oper := match drawOf st with
 | some (ops, _) => opsOf ops (restOf ops hd)
 | none => []
def drawEok (st : St) (hd : List Nat) : Bool := match drawOf st with
 | some (ops, _) => drawEB ops hd st.n && ssaL ops (opsOf ops hd) && ops.toList.all (fun o => noSel o.op)
 | none => false
theorem g_drawE (hd : List Nat) (hm : P.follows .mixedOrders = true) (hB : drawEok st hd = true) (hnp : ∀ ch a w, fin (.panic ch) a w → False) (g : EGoal F mm P fin w0 bs (drawETail st hd) st.hp (drawESt st hd)) : Goal F mm P fin w0 bs st := by
 refine ⟨fun hF a w hr hw => ?_⟩
 have hg := g.out
 obtain ⟨n, ds, ops0, l, k0, t, hp⟩ := st
 unfold drawEok at hB
 unfold drawESt drawETail at hg
 cases hd' : drawOf ⟨n, ds, ops0, l, k0, t, hp⟩ with
 | none => rw [hd'] at hB; cases hB
 | some x =>
  obtain ⟨ops, k⟩ := x
  rw [hd'] at hB hg
  simp only [Bool.and_eq_true] at hB
  obtain ⟨⟨h1, h3⟩, h4⟩ := hB
  simp only at hg hr hw ⊢
  obtain ⟨T, hT, hk⟩ := hg trivial hF
  unfold drawOf at hd'
  simp only at hd'
  split at hd'
  ·simp only [Option.some.injEq, Prod.mk.injEq] at hd'
   obtain ⟨rfl, rfl⟩ := hd'
   exact wpIn_drawE hF hm h1 hT h3 h4 hr (fun ch a w h => hnp ch a w (den_panic h)) fun a' w' hr' hkw _ => hk a' w' hr' (hw.of_kept hkw)
  cases hd'
def endEt (st : St) (tail : List Oper) (hp : List HE) : St := { st with l := tail, hp }
theorem e_end (h : st.l.isEmpty = true) (g : Goal F mm P fin w0 bs (endEt st tail hp)) : EGoal F mm P fin w0 bs tail hp st := by
 refine ⟨fun _ hF => ?_⟩
 have hl : st.l = [] := by simpa using h
 rw [hl]
 exact ⟨st.t, fun _ => rfl, fun a w hr hw => g.out hF a w hr hw⟩
theorem noPan_body {fn : Func} {V : Ending → World → Prop} (h : ∀ ch w, V (.panicked ch) w → False) : ∀ ch a w, bodyPost P fn V (.panic ch) a w → False := fun ch _ w hb => h ch w hb.2
end
attribute [irreducible] drawESt drawETail endEt
end
end Go.Proofs.Ytcncfmjfgdbfeab
