/- Whole runs of closed calls: functions, loops, code; the theorem. -/
import Derived.Test.YtcncfmjfgdbfeabRun4
namespace Go.Proofs.Ytcncfmjfgdbfeab
open Go.RowKit
noncomputable section
namespace Run
theorem loopU_loop {F : Fence} {mm : Nat} {P : Program} {Q : Fin} {c : Code} {n : Nat} {a : Act} {w : World} (hu : loopU F mm P Q c n a w) : (Code.loop c).wpIn F mm P Q a w := by
 refine wpIn_loop (fun a w => ∃ n, loopU F mm P Q c n a w) (fun a w => least fun n => loopU F mm P Q c n a w) ⟨n, hu⟩ ?_
 intro a1 w1 hI
 have h1 := least_spec hI
 generalize hn : least (fun n => loopU F mm P Q c n a1 w1) = n1 at h1 ⊢
 cases n1 with
 | zero => exact h1.elim
 | succ n1 =>
  refine wpIn_mono (show c.wpIn F mm P (Exit.then (loopU F mm P Q c n1) Q) a1 w1 from h1) ?_
  intro e a2 w2 hq
  cases e with
  | normal => exact ⟨⟨n1, hq⟩, Nat.lt_succ_of_le (least_le hq)⟩
  | exit id => exact hq
  | goto l => exact hq
  | ret => exact hq
  | panic ch => exact hq
  | outgrown => exact hq
section
variable {P : Program} {R : Rec} (S : Sound P R)
include S
theorem head_run {β : Type} {f : Fr → M β} {ops : Array Oper} {K : (Nat → Nat) → β → Mem → Prop} {w0 : Bse} {w : World} {hp : T ME} (hw : SatR w0 hp w) (hf : ∀ a, Good (f a)) {n : Nat} {marks : List Nat} {kont : Tr → Prop}
  (hk : ∀ t A m, m.hp = hp → Ends (f ⟨n, marks, t⟩) A m K → kont t) :
  ∀ (l : List Oper) (t : Tr) (pre : Nat → Nat) (m : Mem), m.hp = hp → Ends ((evHead P false R ops l ⟨n, marks, t⟩).bind f) pre m K → Lex P n ops (SatR w0 hp) kont l t
 | [], t, pre, m, hm, h => hk t pre m hm h
 | o :: l, t, pre, m, hm, h => by
  unfold evHead at h
  unfold Lex
  split at h
  ·exact (h.bind .fail hf).fail.elim
  ·rename_i hwn
   exact .inl ⟨hwn, head_run hw hf hk l _ pre m hm h⟩
  rename_i hwn
  rw [M.bind_assoc] at h
  subst hm
  obtain ⟨s, v, A, m', h1, h2, h3, h4⟩ := quiet_run S hw (fun v => (good_head S ops l _).bind hf) h
  exact .inr ⟨hwn, s, v, h1, h2, head_run hw hf hk l _ A m' h3 h4⟩
omit S in
theorem marks_run {β : Type} {f : Unit → M β} {fn : Func} {tmps : Array Value} {Rr : Ending → World → Prop} {K : (Nat → Nat) → β → Mem → Prop} {w0 : Bse} (hf : ∀ a, Good (f a))
  (hk : ∀ w A m, SatR w0 m.hp w → Ends (f ()) A m K → LeavesIn Fence.wide 0 P fn tmps Rr [] .returning w) :
  ∀ (ds : List Nat) (w : World) (pre : Nat → Nat) (m : Mem), SatR w0 m.hp w → Ends ((evMarks false ds).bind f) pre m K → LeavesInM Fence.wide 0 P fn tmps Rr (ds.map markOf) .returning w
 | [], w, pre, m, hw, h => hk w pre m hw h
 | D :: ds, w, pre, m, hw, h => by
  unfold evMarks at h
  rw [M.bind_assoc] at h
  obtain ⟨j, e, m1, h1, h2, h3, h4, h5⟩ := h.loc fun x => .bind (by
   split
   ·exact .bind (.putE _ _) fun _ => good_marks ds
   exact .fail) hf
  obtain ⟨o, ho, hk1⟩ := hw.holds j e h1
  dsimp only at h5
  split at h5
  ·rename_i hown he
   rw [he] at hk1
   obtain ⟨rfl, _⟩ := hk1
   rw [M.bind_assoc] at h5
   have h6 := h5.putE
   subst h2
   have hlt := (Array.getElem?_eq_some_iff.1 ho).1
   have hsat : SatR w0 (m.hp.set j ⟨true, e.b, .ob (.deferred none)⟩) (w.putObj e.b (.deferred none)) :=
    hw.upd h1 hown (.ob (.deferred none)) rfl rfl rfl (by simp) (o' := .deferred none) (World.putObj_heap_same hlt) ⟨rfl, rfl⟩ (fun q hq => World.putObj_heap_other hq)
   refine ⟨by simp, .inl ⟨e.b, _, rfl, run_takeDeferred ho, ?_⟩⟩
   exact marks_run hf hk ds _ pre _ (by dsimp only; rw [h3]; exact hsat) h6
  exact (h5.bind .fail hf).fail.elim
theorem fn_run {f : FuncId} {args : List Value} {w0 : Bse} {w : World} {pre : Nat → Nat} {m : Mem} {K : (Nat → Nat) → Value → Mem → Prop} (hw : SatR w0 m.hp w) (h : Ends (evFn P false R f args) pre m K) :
  Calls P f args.toArray w fun e w' => ∃ v A m', e = .returned v ∧ SatR w0 m'.hp w' ∧ K A v m' := by
 unfold evFn at h
 split at h
 ·exact h.fail.elim
 rename_i fn hfn
 rw [nthG_eq, Array.getElem?_toList] at hfn
 split at h
 ·exact h.fail.elim
 rename_i c hc
 cases hle : Nat.ble args.length fn.ntmps with
 | false => rw [hle] at h; exact (show Ends M.fail pre m K from h).fail.elim
 | true =>
  rw [hle, cond_true] at h
  have hle' := Nat.le_of_ble_eq_true hle
  refine callsIn_wide (n := 0).1 (callsIn_of_wp_marks hfn hc trivial ?_)
  have hg : ∀ x : Ex × Fr, Good ((match x.1 with
   | .exit _ => M.fail
   | _ => (evMarks false x.2.marks).bind fun _ => bif resKnown fn x.2.t then runL P false (resSem fn x.2.t) else M.fail : M Value)) := fun x => by
   split
   ·exact .fail
   exact .bind (good_marks _) fun _ => .cond (good_runL P _) .fail
  have h1 := S.code (rd := none) (mm := 0) (argsT_rep hle') hw (h.bind (S.gcode _ _ _) hg)
  refine wpIn_mono h1 ?_
  rintro e a' w' ⟨x, A, m', rfl, hr, hs, hK⟩
  obtain ⟨ex, fr⟩ := x
  have fin : Ends ((evMarks false fr.marks).bind fun _ => bif resKnown fn fr.t then runL P false (resSem fn fr.t) else M.fail) A m' K →
    LeavesInM Fence.wide 0 P fn a'.tmps (fun e w' => ∃ v A m', e = .returned v ∧ SatR w0 m'.hp w' ∧ K A v m') a'.defers .returning w' := fun hK => by
   rw [hr.defers]
   refine marks_run (fun _ => .cond (good_runL P _) .fail) (fun w2 A2 m2 hs2 hK2 => ?_) fr.marks w' A m' hs hK
   cases hk : resKnown fn fr.t with
   | false => rw [hk] at hK2; exact (show Ends M.fail A2 m2 K from hK2).fail.elim
   | true =>
    rw [hk, cond_true] at hK2
    obtain ⟨v, m3, q1, q2, q3⟩ := hK2.here
    obtain ⟨q4, q5⟩ := runL_both (w0 := w0) (w := w2) q1
    exact ⟨v, by rw [resSem_eq hr hk]; exact q5 hs2 q2, v, A2, m3, rfl, by rw [q4]; exact hs2, q3⟩
  cases ex with
  | exit id => exact (show Ends M.fail A m' K from hK).fail.elim
  | normal => exact fin hK
  | ret => exact fin hK
theorem range2_run {rd : Option Nat} {gf : FuncId} {first cap : Array Value} {L : Nat} {fr : Fr} {a : Act} {w0 : Bse} {w : World} {pre : Nat → Nat} {m : Mem} {K : (Nat → Nat) → Ex × Fr → Mem → Prop} (mm : Nat) (hr : RepR fr a) (hw : SatR w0 m.hp w)
  (h : Ends (evRange2 P false R rd gf first cap L fr) pre m K) :
  ∃ f args, (callFunc gf (first ++ #[.func (.yield L) #[] #[]] ++ cap)).run P w = .ok (.enter f args) w ∧
   Calls P f args w (rangePost (rdF rd) mm P L (fun e a' w' => ∃ x A m', e = x.1.out ∧ RepR x.2 a' ∧ SatR w0 m'.hp w' ∧ K A x m') a) := by
 unfold evRange2 at h
 split at h
 ·rename_i f args hq
  refine ⟨f, args, runQ_run hq w, ?_⟩
  have hg : ∀ _ : Value, Good ((loc false L).bind fun x => match x.2.own, x.2.k with
   | true, .lp st pend n t ps ag bo de => match st with
    | .busy => M.fail
    | _ => (putE x.1 ⟨true, x.2.b, .lp .exhausted pend n t ps ag bo de⟩).bind fun _ => match pend with
     | none => M.ret (.normal, fr)
     | some c => R.code rd c fr
   | _, _ => M.fail : M (Ex × Fr)) := fun _ => by
   refine .bind (.locB _) fun x => ?_
   split
   ·split
    ·exact .fail
    refine .bind (.putE _ _) fun _ => ?_
    split
    ·exact .ret _
    exact S.gcode _ _ _
   exact .fail
  have h1 := S.fn hw (h.bind (S.gfn _ _) hg)
  refine (show args = args.toList.toArray by simp) ▸ h1.mono ?_
  rintro e w' ⟨v, A, m', rfl, hs, hK⟩
  obtain ⟨j, e, m1, k1, k2, k3, k4, k5⟩ := hK.loc fun x => by
   split
   ·split
    ·exact .fail
    refine .bind (.putE _ _) fun _ => ?_
    split
    ·exact .ret _
    exact S.gcode _ _ _
   exact .fail
  obtain ⟨o, ho, hk⟩ := hs.holds j e k1
  dsimp only at k5
  split at k5
  rotate_left
  ·exact k5.fail.elim
  rename_i st pend n t ps ag bo de hown he
  rw [he] at hk
  obtain ⟨fnid, tmps, rfl, hsz, hat⟩ := hk
  subst k2
  have hlt := (Array.getElem?_eq_some_iff.1 ho).1
  have hsat : SatR w0 (m'.hp.set j ⟨true, e.b, .lp .exhausted pend n t ps ag bo de⟩) (w'.putObj e.b (.loop { state := .exhausted, pending := pend, fn := fnid, tmps, params := ps, assign := ag, body := bo, defers := de })) :=
   hs.upd k1 hown (.lp .exhausted pend n t ps ag bo de) rfl rfl rfl (by simp) (World.putObj_heap_same hlt) ⟨fnid, tmps, rfl, hsz, hat⟩ (fun q hq => World.putObj_heap_other hq)
  have hnb : st ≠ .busy := fun e1 => by
   subst e1
   exact (show Ends M.fail A m1 K from k5).fail
  have k6 : Ends ((putE j ⟨true, e.b, .lp .exhausted pend n t ps ag bo de⟩).bind fun _ => match pend with
     | none => M.ret (.normal, fr)
     | some c => R.code rd c fr) A m1 K := by
   cases st <;> first | exact absurd rfl hnb | exact k5
  have k7 := k6.putE
  refine ⟨pend, _, run_endLoop (P := P) ho hnb, ?_⟩
  cases pend with
  | none => exact ⟨_, A, _, rfl, hr, by dsimp only; rw [k3]; exact hsat, k7.ret⟩
  | some c => exact S.code hr (by dsimp only; rw [k3]; exact hsat) k7
 exact h.fail.elim
theorem range_run {rd : Option Nat} {g : Operand} {ps : Array Tmp} {assign body : Code} {fr : Fr} {a : Act} {w0 : Bse} {w : World} {pre : Nat → Nat} {m : Mem} {K : (Nat → Nat) → Ex × Fr → Mem → Prop} {mm : Nat} (hr : RepR fr a) (hw : SatR w0 m.hp w)
  (h : Ends (evRange P false R rd g ps assign body fr) pre m K) :
  (Code.rangeFunc g ps assign body).wpIn (rdF rd) mm P (fun e a' w' => ∃ x A m', e = x.1.out ∧ RepR x.2 a' ∧ SatR w0 m'.hp w' ∧ K A x m') a w := by
 have hF := openF_rd rd
 unfold evRange at h
 split at h
 ·rename_i gf first cap hg
  have hga : a.eval g = .func (.func gf) first cap := hr.ev hg
  have hres : ∀ (l : Nat) (w : World), (resolve a.eval (rangeCall g l) 0).run P w = .ok { target := .fn (.func gf) cap, args := first ++ #[.func (.yield l) #[] #[]] } w := fun l w => by
   have hc : a.eval (.const (.func (.yield l) #[] #[])) = .func (.yield l) #[] #[] := rfl
   simp only [resolve, hga, Deferred.ofValue, List.map_toArray, List.map_cons, List.map_nil, hc]
   rfl
  refine wpIn_rangeFunc fun fn _ => ?_
  rw [round_rd]
  cases rd with
  | none =>
   dsimp only at h
   have h1 := (h.fresh w.heap.size).pushE
   obtain ⟨W1, hW1⟩ : ∃ W1, w.alloc (.deferred (some [])) = W1 := ⟨_, rfl⟩
   have hs1 : SatR w0 (m.hp.set m.n ⟨true, w.heap.size, .ob (.deferred (some []))⟩) W1 := by
    rw [← hW1]; exact hw.new m.n _ ⟨rfl, rfl⟩
   have hsz1 : W1.heap.size = w.heap.size + 1 := by rw [← hW1]; simp
   have h2 := (h1.fresh W1.heap.size).pushE
   have hs2 := hs1.new (m.n + 1) (.lp .ready none fr.n fr.t ps assign body w.heap.size) (o := .loop { state := .ready, pending := none, fn, tmps := a.tmps, params := ps, assign, body, defers := w.heap.size }) ⟨fn, a.tmps, rfl, hr.size, hr.at_⟩
   obtain ⟨f, args, h3, h4⟩ := range2_run S mm (a := { a with defers := markOf w.heap.size :: a.defers }) (fr := ⟨fr.n, w.heap.size :: fr.marks, fr.t⟩) ⟨hr.size, by simp [hr.defers], hr.at_⟩ hs2 h2
   rw [hsz1, ← hW1] at h3 h4
   exact ⟨w.heap.size + 1, [markOf w.heap.size], _, _, _, f, args, _, run_enterLoop_outer fn a.tmps ps assign body, hres _ _, fun f' _ => hF.fn f', h3, fun h => hF.depth h, hF.calls h4⟩
  | some l0 =>
   dsimp only at h
   obtain ⟨j, e, m1, k1, k2, k3, k4, k5⟩ := h.loc fun x => by
    split
    ·exact .bind .fresh fun L => .bind (.pushE _) fun _ => good_range2 S _ _ _ _ _ _
    exact .fail
   obtain ⟨o, ho, hk⟩ := hw.holds j e k1
   dsimp only at k5
   split at k5
   rotate_left
   ·exact k5.fail.elim
   rename_i st pe n t ps2 as2 bo2 de he
   rw [he] at hk
   obtain ⟨fnid, tmps, rfl, hsz, hat⟩ := hk
   subst k2
   have k6 := (k5.fresh w.heap.size).pushE
   have hs2 := hw.new m1.n (.lp .ready none fr.n fr.t ps assign body de) (o := .loop { state := .ready, pending := none, fn, tmps := a.tmps, params := ps, assign, body, defers := de }) ⟨fn, a.tmps, rfl, hr.size, hr.at_⟩
   obtain ⟨f, args, h3, h4⟩ := range2_run S mm hr (by dsimp only; rw [k3]; exact hs2) k6
   exact ⟨w.heap.size, [], _, _, _, f, args, _, run_enterLoop_inner ho fn a.tmps ps assign body, hres _ _, fun f' _ => hF.fn f', h3, fun h => hF.depth h, hF.calls h4⟩
 exact h.fail.elim
theorem loop_run {rd : Option Nat} {c : Code} {mm : Nat} {w0 : Bse} {K : (Nat → Nat) → Ex × Fr → Mem → Prop} : ∀ (f : Nat) (fr : Fr) (a : Act) (w : World) (pre : Nat → Nat) (m : Mem), RepR fr a → SatR w0 m.hp w → Ends (evLoop R rd c f fr) pre m K →
  loopU (rdF rd) mm P (fun e a' w' => ∃ x A m', e = x.1.out ∧ RepR x.2 a' ∧ SatR w0 m'.hp w' ∧ K A x m') c f a w
 | 0, fr, a, w, pre, m, hr, hw, h => h.fail.elim
 | f + 1, fr, a, w, pre, m, hr, hw, h => by
  unfold evLoop at h
  have hg : ∀ x : Ex × Fr, Good ((match x.1 with
   | .normal => evLoop R rd c f x.2
   | _ => M.ret x : M (Ex × Fr))) := fun x => by
   split
   ·exact good_loop S _ _ _ _
   exact .ret _
  refine wpIn_mono (S.code (mm := mm) hr hw (h.bind (S.gcode _ _ _) hg)) ?_
  rintro e a' w' ⟨⟨ex, fr'⟩, A, m', rfl, hr', hs, hK⟩
  cases ex with
  | normal => exact loop_run f fr' a' w' A m' hr' hs hK
  | exit id => exact ⟨(.exit id, fr'), A, m', rfl, hr', hs, hK.ret⟩
  | ret => exact ⟨(.ret, fr'), A, m', rfl, hr', hs, hK.ret⟩
omit S in
theorem loads_both {t : Tr} {o : Oper} {A : Nat → Nat} {m m2 : Mem} {v : Value} (h1 : evLoads P false t o A m = some (v, m2)) :
  ∃ s u, opSem t o = some s ∧ u = v ∧ m2.hp = m.hp ∧ ∀ w0 w, SatR w0 m.hp w → AllE m2.eqs → s.run P w = .ok (.value u) w := by
 have slow : evLoadsS P false t o A m = some (v, m2) → ∃ s u, opSem t o = some s ∧ u = v ∧ m2.hp = m.hp ∧ ∀ w0 w, SatR w0 m.hp w → AllE m2.eqs → s.run P w = .ok (.value u) w := fun h1 => by
  unfold evLoadsS at h1
  cases hs : opSem t o with
  | none => rw [hs] at h1; cases h1
  | some s =>
   rw [hs] at h1
   obtain ⟨nx, m3, h3, h4⟩ := bind_some h1
   cases nx with
   | value u =>
    simp only [M.ret, Option.some.injEq, Prod.mk.injEq] at h4
    obtain ⟨rfl, rfl⟩ := h4
    exact ⟨s, u, rfl, rfl, (runL_both (w0 := ⟨default, []⟩) (w := default) h3).1, fun w0 w hw he => (runL_both (w0 := w0) (w := w) h3).2 hw he⟩
   | _ => cases h4
 unfold evLoads at h1
 have hok := pl_ev (P := P) (t := t) o
 have hsem := pl_sem (P := P) (t := t) (o := o)
 cases hpl : plOf t (planOp P o) with
 | slow => rw [hpl] at h1; exact slow h1
 | store => rw [hpl] at h1; exact slow h1
 | enter => rw [hpl] at h1; exact slow h1
 | newP => rw [hpl] at h1; exact slow h1
 | newS => rw [hpl] at h1; exact slow h1
 | val u =>
  rw [hpl] at h1 hok hsem
  have h2 : some (u, m) = some (v, m2) := h1
  simp only [Option.some.injEq, Prod.mk.injEq] at h2
  obtain ⟨rfl, rfl⟩ := h2
  exact ⟨_, u, hsem nofun, rfl, rfl, fun _ w _ _ => hok w⟩
 | loadC b off =>
  rw [hpl] at h1 hok hsem
  have h2 : (fLoadC false b off) A m = some (v, m2) := h1
  unfold fLoadC at h2
  obtain ⟨⟨j, e⟩, m3, h3, h4⟩ := bind_some h2
  obtain ⟨g1, g2, g3, g4, g5, _⟩ := loc_some h3
  dsimp only at h4
  cases hu : e.k.cell? off with
  | none => rw [hu] at h4; cases h4
  | some u =>
   rw [hu] at h4
   simp only [M.ret, Option.some.injEq, Prod.mk.injEq] at h4
   obtain ⟨rfl, rfl⟩ := h4
   refine ⟨_, u, hsem nofun, rfl, g2, fun w0 w hw he => hok w u ?_⟩
   obtain ⟨o', ho, hk⟩ := hw.holds j e g1
   rw [(g5 he).1]
   exact MK.cell_ok ho hk hu
 | loadA b off k =>
  rw [hpl] at h1 hok hsem
  have h2 : (fLoadA false b off k) A m = some (v, m2) := h1
  unfold fLoadA at h2
  obtain ⟨⟨j, e⟩, m3, h3, h4⟩ := bind_some h2
  obtain ⟨g1, g2, g3, g4, g5, _⟩ := loc_some h3
  dsimp only at h4
  cases hl : e.k.at off k with
  | none => rw [hl] at h4; cases h4
  | some l =>
   rw [hl] at h4
   simp only [M.ret, Option.some.injEq, Prod.mk.injEq] at h4
   obtain ⟨rfl, rfl⟩ := h4
   obtain ⟨q1, q2⟩ := MK.at_some hl
   refine ⟨_, _, hsem nofun, rfl, g2, fun w0 w hw he => hok w l q1 fun i u hu => ?_⟩
   obtain ⟨o', ho, hk⟩ := hw.holds j e g1
   rw [(g5 he).1]
   exact MK.cell_ok ho hk (q2 i u hu)
omit S in
theorem headL_lex {ops : Array Oper} {n : Nat} {marks : List Nat} {A : Nat → Nat} : ∀ {l : List Oper} {t : Tr} {m m1 : Mem} {fr1 : Fr}, evHeadL P false ops l ⟨n, marks, t⟩ A m = some (fr1, m1) →
  fr1.n = n ∧ fr1.marks = marks ∧ m1.hp = m.hp ∧ ∀ w, SatR ⟨w, []⟩ m.hp w → AllE m1.eqs → Lex P n ops (fun w' => w' = w) (fun t => t = fr1.t) l t
 | [], t, m, m1, fr1, h => by
  simp only [evHeadL, M.ret, Option.some.injEq, Prod.mk.injEq] at h
  obtain ⟨rfl, rfl⟩ := h
  exact ⟨rfl, rfl, rfl, fun _ _ _ => rfl⟩
 | o :: l, t, m, m1, fr1, h => by
  unfold evHeadL at h
  cases hw : wanted? ops t o with
  | none => simp only [hw] at h; cases h
  | some b =>
   cases b with
   | false =>
    simp only [hw] at h
    obtain ⟨h1, h2, h3, h4⟩ := headL_lex h
    exact ⟨h1, h2, h3, fun w hs he => .inl ⟨hw, h4 w hs he⟩⟩
   | true =>
    simp only [hw] at h
    obtain ⟨v, m2, h1, h2⟩ := bind_some h
    obtain ⟨q1, q2, q3, q4⟩ := headL_lex h2
    obtain ⟨s, u, hs, rfl, h5, h6⟩ := loads_both h1
    refine ⟨q1, q2, q3.trans h5, fun w hsat he => .inr ⟨hw, s, u, hs, fun w' hw' => ?_, q4 w (by rw [h5]; exact hsat) he⟩⟩
    have he2 := (good_headL ops l _).eqs h2 he
    subst hw'
    exact .inl (h6 _ w' hsat he2)
omit S in
theorem sat_restrict {w : World} {hp : T ME} {tl : List Nat} (h : ∀ k ∈ tl, ∀ e, hp.get k = some e → ∃ o, w.heap[e.b]? = some o ∧ e.k.ok o) : SatR ⟨w, []⟩ (restrict hp tl) w := by
 have hg : ∀ i e, (restrict hp tl).get i = some e → e.own = false ∧ ∃ o, w.heap[e.b]? = some o ∧ e.k.ok o := fun i e hi => by
  unfold restrict at hi
  rw [get_restrict] at hi
  by_cases ht : i ∈ tl
  ·rw [if_pos ht] at hi
   cases hh : hp.get i with
   | none => rw [hh] at hi; simp [T.get] at hi
   | some e0 =>
    rw [hh] at hi
    simp only [Option.some.injEq] at hi
    subst hi
    exact ⟨rfl, h i ht e0 hh⟩
  rw [if_neg ht] at hi; simp [T.get] at hi
 exact ⟨Kept.refl w, fun i e hi => (hg i e hi).2, fun i e hi ho => (by rw [(hg i e hi).1] at ho; cases ho), fun i j e e' _ hi _ ho => (by rw [(hg i e hi).1] at ho; cases ho), fun p hp' => (by cases hp'), fun p hp' => (by cases hp')⟩
omit S in
theorem sat_lock {w0 : Bse} {w : World} {hp : T ME} {tl : List Nat} (h : SatR w0 hp w) : SatR w0 (lock hp tl) w := by
 have hg : ∀ i e, (lock hp tl).get i = some e → ∃ e0, hp.get i = some e0 ∧ e.b = e0.b ∧ e.k = e0.k ∧ (e.own = true → e0.own = true) := fun i e hi => by
  unfold lock at hi
  rw [get_restrict] at hi
  by_cases ht : i ∈ tl
  ·rw [if_pos ht] at hi
   cases hh : hp.get i with
   | none => rw [hh] at hi; cases hi
   | some e0 =>
    rw [hh] at hi
    simp only [Option.some.injEq] at hi
    subst hi
    exact ⟨e0, rfl, rfl, rfl, fun e => by cases e⟩
  rw [if_neg ht] at hi
  exact ⟨e, hi, rfl, rfl, id⟩
 refine ⟨h.kept, fun i e hi => ?_, fun i e hi ho => ?_, fun i j e e' hij hi hj ho => ?_, h.prot, fun p hp' i e hi => ?_⟩
 ·obtain ⟨e0, h1, h2, h3, _⟩ := hg i e hi
  rw [h2, h3]; exact h.holds i e0 h1
 ·obtain ⟨e0, h1, h2, _, h4⟩ := hg i e hi
  rw [h2]; exact h.own i e0 h1 (h4 ho)
 ·obtain ⟨e0, h1, h2, _, h4⟩ := hg i e hi
  obtain ⟨e1, h5, h6, _, _⟩ := hg j e' hj
  rw [h2, h6]; exact h.apart i j e0 e1 hij h1 h5 (h4 ho)
 obtain ⟨e0, h1, h2, _, _⟩ := hg i e hi
 rw [h2]; exact h.far p hp' i e0 h1
omit S in
theorem sat_unlock {w0 : Bse} {X' : List (Nat × Obj)} {w w' : World} {hp : T ME} {tl : List Nat} {mL m : Mem} (h : SatR w0 hp w) (hL : mL.hp = lock hp tl) (hlt : ∀ k ∈ tl, k < mL.n) (hk : Keep mL m) (h' : SatR ⟨w0.w, X'⟩ m.hp w') : SatR ⟨w0.w, X'⟩ (unlock m.hp hp tl) w' := by
 have locked : ∀ k ∈ tl, ∀ e, hp.get k = some e → m.hp.get k = some { e with own := false } := fun k ht e he => by
  refine hk.keep k _ (hlt k ht) ?_ rfl
  rw [hL]; unfold lock; rw [get_restrict, if_pos ht, he]
 have hg : ∀ i e, (unlock m.hp hp tl).get i = some e → (i ∈ tl ∧ hp.get i = some e) ∨ (m.hp.get i = some e ∧ (i ∉ tl ∨ hp.get i = none)) := fun i e hi => by
  unfold unlock at hi
  rw [get_unlock] at hi
  by_cases ht : i ∈ tl
  ·rw [if_pos ht] at hi
   cases hh : hp.get i with
   | none => rw [hh] at hi; exact .inr ⟨hi, .inr rfl⟩
   | some e0 => rw [hh] at hi; exact .inl ⟨ht, hi⟩
  rw [if_neg ht] at hi; exact .inr ⟨hi, .inl ht⟩
 have old : ∀ i e, m.hp.get i = some e → (i ∉ tl ∨ hp.get i = none) → e.own = false → hp.get i = some e := fun i e hi ht ho => by
  have h1 := hk.conv i e hi ho
  rw [hL] at h1; unfold lock at h1; rw [get_restrict] at h1
  rcases ht with ht | ht
  ·rw [if_neg ht] at h1; exact h1
  by_cases ht' : i ∈ tl
  ·rw [if_pos ht', ht] at h1; cases h1
  rw [if_neg ht'] at h1; exact h1
 refine ⟨h'.kept, fun i e hi => ?_, fun i e hi ho => ?_, fun i j e e' hij hi hj ho => ?_, h'.prot, fun p hp' i e hi => ?_⟩
 ·rcases hg i e hi with ⟨ht, h1⟩ | ⟨h1, _⟩
  ·have hx := h'.holds i _ (locked i ht e h1)
   exact hx
  exact h'.holds i e h1
 ·rcases hg i e hi with ⟨ht, h1⟩ | ⟨h1, _⟩
  ·exact h.own i e h1 ho
  exact h'.own i e h1 ho
 ·rcases hg i e hi with ⟨ht, h1⟩ | ⟨h1, q1⟩ <;> rcases hg j e' hj with ⟨ht', h2⟩ | ⟨h2, q2⟩
  ·exact h.apart i j e e' hij h1 h2 ho
  ·cases ho' : e'.own with
   | true =>
    have hx := h'.apart j i e' _ (Ne.symm hij) h2 (locked i ht e h1) ho'
    exact hx.symm
   | false => exact h.apart i j e e' hij h1 (old j e' h2 q2 ho') ho
  ·have hx := h'.apart i j e _ hij h1 (locked j ht' e' h2) ho
   exact hx
  exact h'.apart i j e e' hij h1 h2 ho
 rcases hg i e hi with ⟨ht, h1⟩ | ⟨h1, _⟩
 ·have hx := h'.far p hp' i _ (locked i ht e h1)
  exact hx
 exact h'.far p hp' i e h1
omit S in
theorem floatSem_run {ops : Array Oper} {f : Nat} {o : Oper} {c : List Value} {E : TypeId} {k : Nat → Sem Next} (ho : ops[f]? = some o) (h : floatSem P ops f = some (c, E, k)) (ρ : Operand → Value) (w : World) :
  (execOp ρ o).run P w = (k w.heap.size).run P (w.alloc (.cells c.toArray E (0, 0))) := by
 unfold floatSem at h
 rw [ho] at h
 simp only at h
 cases hb : (noSel o.op && o.op.operands.isEmpty) with
 | false => rw [hb] at h; cases h
 | true =>
  rw [hb, cond_true] at h
  simp only [Bool.and_eq_true] at hb
  have he : execOp ρ o = execOp (fun _ => undef) o := execOp_congr o (fun cs b e => by rw [e] at hb; cases hb.1) fun x hx => by
   have : o.op.operands = #[] := by simpa using hb.2
   rw [this] at hx; simp at hx
  rw [he]
  exact toNew_run h
omit S in
theorem readL_hp {A : Nat → Nat} {m m' : Mem} {k : List Nat} (h : readL A m = some (k, m')) : m'.hp = m.hp ∧ m'.n = m.n := by
 have hintsL_hp : ∀ (k : Nat) {A m r m'}, hintsL k A m = some (r, m') → m'.hp = m.hp ∧ m'.n = m.n := by
  intro k
  induction k with
  | zero => intro A m r m' h; simp only [hintsL, M.ret, Option.some.injEq, Prod.mk.injEq] at h; rw [← h.2]; exact ⟨rfl, rfl⟩
  | succ k ih =>
   intro A m r m' h
   unfold hintsL at h
   obtain ⟨x, m1, h1, h2⟩ := bind_some h
   obtain ⟨r', m2, h3, h4⟩ := bind_some h2
   simp only [M.ret, Option.some.injEq, Prod.mk.injEq] at h4
   rw [← h4.2]
   have q1 := hint_hp h1
   have q2 := ih h3
   exact ⟨q2.1.trans q1.1, q2.2.trans q1.2.1⟩
 obtain ⟨c, m1, h1, h2⟩ := bind_some h
 have q1 := hint_hp h1
 have q2 := hintsL_hp _ h2
 exact ⟨q2.1.trans q1.1, q2.2.trans q1.2.1⟩
theorem blocks_run {β : Type} {f : Fr → M β} {ops : Array Oper} {rd : Option Nat} {mm : Nat} {Q : Exit → Act → World → Prop} {K : (Nat → Nat) → β → Mem → Prop} {w0 : Bse} (hf : ∀ a, Good (f a))
  (hnp : ∀ ch a w, Q (.panic ch) a w → False) (hk : ∀ fr a w A m, RepR fr a → SatR w0 m.hp w → Ends (f fr) A m K → Q .normal a w) (b3 : ops.toList.all (fun o => noSel o.op) = true) :
  ∀ (g k : Nat) (fr : Fr) (a : Act) (w : World) (pre : Nat → Nat) (m : Mem), RepR fr a → SatR w0 m.hp w → Ends ((evBlocks P false R ops g k fr).bind f) pre m K → AnyAt (rdF rd) mm P ops Q k a w
 | 0, k, fr, a, w, pre, m, hr, hw, h => (h.bind (x := M.fail) .fail hf).fail.elim
 | g + 1, k, fr, a, w, pre, m, hr, hw, h => by
  have hF := openF_rd rd
  unfold evBlocks at h
  cases hks : Nat.beq k ops.size with
  | true =>
   rw [hks, cond_true] at h
   obtain rfl := Nat.eq_of_beq_eq_true hks
   exact anyAt_end (hk fr a w pre m hr hw (show Ends (f fr) pre m K from h))
  | false =>
   rw [hks, cond_false, M.bind_assoc] at h
   have gb : ∀ k hd hh fr, Good ((evBlock P false R ops k hd hh fr).bind fun fr => evBlocks P false R ops g hh fr) := fun k hd hh fr => .bind (good_block S _ _ _ _ _) fun fr => good_blocks S _ _ _ _
   obtain ⟨pl, m1, h1, h2, h3⟩ := (h.bind good_readL fun pl => .bind (by
    split
    ·exact .cond (gb _ _ _ _) .fail
    exact .fail) hf).here
   obtain ⟨e1, e2⟩ := readL_hp h1
   split at h3
   rotate_left
   ·exact (h3.bind .fail hf).fail.elim
   rename_i hh hd
   cases hB : blockOk ops k hd hh fr.n with
   | false => rw [hB] at h3; exact (Ends.bind h3 .fail hf).fail.elim
   | true =>
    rw [hB, cond_true] at h3
    unfold evBlock at h3
    rw [M.bind_assoc, M.bind_assoc] at h3
    have gl : ∀ tl, Good (withLock tl (evHeadL P false ops (opsOf ops hd) fr) (fun fr1 => evOps P false R ops (opsOf ops (chainK k hd none hh)) fr1)) := fun tl => good_lock (good_headL _ _ _) fun fr1 => good_ops S _ _ _
    have gr : ∀ fr2, Good ((evBlocks P false R ops g hh fr2).bind f) := fun fr2 => .bind (good_blocks S _ _ _ _) hf
    obtain ⟨tl, m2, h4, h5, h6⟩ := (h3.bind good_readL fun tl => .bind (gl tl) gr).here
    obtain ⟨e3, e4⟩ := readL_hp h4
    simp only [blockOk, Bool.and_eq_true] at hB
    obtain ⟨⟨b1, b2⟩, b4⟩ := hB
    have hX := bFacts b1
    have hw2 : SatR w0 m2.hp w := by rw [e3, e1]; exact hw
    have h6' := h6.bind (gl _) gr
    obtain ⟨fr2, m3, h7, h8, h9⟩ := h6'.here
    obtain ⟨fr1, mh, mc, hlt, k1, k2, rfl⟩ := withLock_some h7
    have k3 := (good_ops S ops _ fr1).eqs k2 h8
    obtain ⟨n, marks, t⟩ := fr
    obtain ⟨q1, q2, q3, q4⟩ := headL_lex k1
    let mL : Mem := { mh with hp := lock m2.hp tl, n := m2.n }
    obtain ⟨KK, hKK⟩ : ∃ KK : (Nat → Nat) → Fr → Mem → Prop, KK = fun A fr m' => Ends ((evBlocks P false R ops g hh fr).bind f) A { m' with hp := unlock m'.hp m2.hp tl } K ∧ Keep mL m' := ⟨_, rfl⟩
    have hc : Ends (evOps P false R ops (opsOf ops (chainK k hd none hh)) fr1) pre mL KK := hKK ▸ fun A hA => by
     have hle := (good_headL (P := P) ops (opsOf ops hd) ⟨n, marks, t⟩).le k1
     change m2.i ≤ mh.i at hle
     obtain ⟨fr', m', r1, r2, r3⟩ := h6' A fun j hj => hA j (Nat.lt_of_lt_of_le hj hle)
     obtain ⟨fr1', mh', mc', _, s1, s2, rfl⟩ := withLock_some r1
     have s3 := (good_headL ops _ _).loc k1 A fun j hj => hA j hj
     rw [s3] at s1
     simp only [Option.some.injEq, Prod.mk.injEq] at s1
     obtain ⟨rfl, rfl⟩ := s1
     exact ⟨fr', mc', s2, r2, r3, (good_ops S ops _ fr1).keep s2⟩
    refine any_block (C := fun w' => SatR ⟨w', []⟩ (restrict m2.hp tl) w') (T := fr1.t) (fl := none)
     (St := fun ph l af w' => ph = none ∧ ∃ fr2 A m', RepR fr2 af ∧ SatR w0 m'.hp w' ∧ (∀ i ∈ l, i < ops.size) ∧ Ends (evOps P false R ops (opsOf ops l) fr2) A m' KK)
     (fun ph l af w' hC => ?_) (fun ph af w' hC hfp => ?_) (fun ph i l af w' hC => ?_) (fun l af w' f0 o hf0 => by cases hf0) ?_ hF b1 (fun w1 hC => q4 w1 hC k3) b2 b3 hr hnp (fun a' hr' => ?_)
    ·obtain ⟨_, fr2, A, m', r1, r2, _, r3⟩ := hC
     obtain ⟨fr', mf, s1, s2, s3'⟩ := r3.here
     rw [hKK] at s3'
     obtain ⟨_, s3⟩ := s3'
     have s4 := (good_ops S ops _ fr2).keep s1
     refine sat_restrict fun k ht e he => ?_
     have hx : mf.hp.get k = some { e with own := false } := s3.keep k _ (hlt k ht) (by show (lock m2.hp tl).get k = _; unfold lock; rw [get_restrict, if_pos ht, he]) rfl
     have hy := r2.holds k _ (s4.conv k _ hx rfl)
     exact hy
    ·obtain ⟨rfl, fr2, A, m', r1, r2, _, r3⟩ := hC
     obtain ⟨r4, r5⟩ := hKK ▸ (show Ends (M.ret fr2) A m' KK from r3).ret
     have hsat := sat_unlock (mL := mL) (X' := w0.X) hw2 rfl hlt r5 r2
     exact blocks_run hf hnp hk b3 g hh fr2 af w' A _ r1 hsat r4
    ·obtain ⟨rfl, fr2, A, m', r1, r2, r0, r3⟩ := hC
     obtain ⟨o, ho⟩ : ∃ o, ops[i]? = some o := ⟨ops[i]'(r0 i (by simp)), by simp [r0 i (by simp)]⟩
     have hops : opsOf ops (i :: l) = o :: opsOf ops l := by simp [opsOf, ho]
     have r0' : ∀ k ∈ l, k < ops.size := fun k hk => r0 k (by simp [hk])
     rw [hops] at r3
     unfold evOps at r3
     unfold wpOpIn
     simp only [ho]
     split at r3
     ·exact r3.fail.elim
     ·rename_i hwn
      rw [r1.wanted hwn, if_neg (by simp)]
      exact ⟨fun f _ => hF.fn f, trivial, ⟨fr2.n, fr2.marks, fr2.t.put fr2.n o.dst undef⟩, A, m', (Rep.put r1 _ _ : Rep fr2.n (fr2.marks.map markOf) (af.put o.dst undef) (fr2.t.put fr2.n o.dst undef)), r2, r0', r3⟩
     rename_i hwn
     rw [r1.wanted hwn, if_pos rfl]
     refine ⟨fun f _ => hF.fn f, oper_run S r1 r2 (fun v => good_ops S ops _ _) r3 fun v w'' A' m'' s1 s2 => ?_⟩
     exact ⟨trivial, ⟨fr2.n, fr2.marks, fr2.t.put fr2.n o.dst v⟩, A', m'', (Rep.put r1 _ _ : Rep fr2.n (fr2.marks.map markOf) (af.put o.dst v) (fr2.t.put fr2.n o.dst v)), s1, r0', s2⟩
    ·exact sat_restrict fun k _ e he => hw2.holds k e he
    refine ⟨rfl, fr1, pre, mL, ?_, sat_lock hw2, fun i hi => ?_, hc⟩
    ·unfold RepR
     rw [q1, q2]
     exact hr'
    have := List.mem_range.1 (List.mem_filter.1 hi).1
    exact Nat.lt_of_lt_of_le this hX.le
theorem drawH_run {β : Type} {f : Fr → M β} {ops : Array Oper} {fr : Fr} {id : Nat} {rd : Option Nat} {mm : Nat} {Q : Exit → Act → World → Prop} {K : (Nat → Nat) → β → Mem → Prop} {w0 : Bse} {w : World} {a : Act} {pre : Nat → Nat} {m : Mem} (hmix : P.follows .mixedOrders = true) (hf : ∀ a, Good (f a))
  (hnp : ∀ ch a w, Q (.panic ch) a w → False) (hk : ∀ fr a w A m, RepR fr a → SatR w0 m.hp w → Ends (f fr) A m K → Q .normal a w) (hr : RepR fr a) (hw : SatR w0 m.hp w) (h : Ends ((evDrawH P false R ops fr).bind f) pre m K) :
  (Code.region id ops true).wpIn (rdF rd) mm P Q a w := by
 have hF := openF_rd rd
 unfold evDrawH at h
 rw [M.bind_assoc] at h
 have readL_hp : ∀ {A m k m'}, readL A m = some (k, m') → m'.hp = m.hp ∧ m'.n = m.n := by
  have hintsL_hp : ∀ (k : Nat) {A m r m'}, hintsL k A m = some (r, m') → m'.hp = m.hp ∧ m'.n = m.n := by
   intro k
   induction k with
   | zero => intro A m r m' h; simp only [hintsL, M.ret, Option.some.injEq, Prod.mk.injEq] at h; rw [← h.2]; exact ⟨rfl, rfl⟩
   | succ k ih =>
    intro A m r m' h
    unfold hintsL at h
    obtain ⟨x, m1, h1, h2⟩ := bind_some h
    obtain ⟨r', m2, h3, h4⟩ := bind_some h2
    simp only [M.ret, Option.some.injEq, Prod.mk.injEq] at h4
    rw [← h4.2]
    have q1 := hint_hp h1
    have q2 := ih h3
    exact ⟨q2.1.trans q1.1, q2.2.trans q1.2.1⟩
  intro A m k m' h
  obtain ⟨c, m1, h1, h2⟩ := bind_some h
  have q1 := hint_hp h1
  have q2 := hintsL_hp _ h2
  exact ⟨q2.1.trans q1.1, q2.2.trans q1.2.1⟩
 have gl : ∀ hd ch tl, Good (withLock tl (evHeadL P false ops (opsOf ops hd) fr) (fun fr1 => evOps P false R ops (opsOf ops ch) fr1)) := fun hd ch tl => good_lock (good_headL _ _ _) fun fr1 => good_ops S _ _ _
 have gt : ∀ fl h fr2, Good ((evFloat P ops fl fr2).bind fun fr3 => evOps P false R ops (ops.toList.drop h) fr3) := fun fl h fr2 => .bind (good_float _ _ _) fun fr3 => good_ops S _ _ _
 obtain ⟨pl, m1, h1, h2, h3⟩ := (h.bind good_readL fun pl => .bind (by
  split
  ·exact .cond (.bind good_readL fun tl => .bind (gl _ _ _) fun fr2 => gt _ _ _) .fail
  exact .fail) hf).here
 obtain ⟨e1, e2⟩ := readL_hp h1
 split at h3
 rotate_left
 ·exact (h3.bind .fail hf).fail.elim
 rename_i hh flc hd
 cases hB : drawHok ops hd (flOf flc) hh fr.n with
 | false => rw [hB] at h3; exact (Ends.bind h3 .fail hf).fail.elim
 | true =>
  rw [hB, cond_true, M.bind_assoc] at h3
  obtain ⟨tl, m2, h4, h5, h6⟩ := (h3.bind good_readL fun tl => .bind (.bind (gl _ _ _) fun fr2 => gt _ _ _) hf).here
  obtain ⟨e3, e4⟩ := readL_hp h4
  simp only [drawHok, Bool.and_eq_true] at hB
  obtain ⟨⟨b1, b2⟩, b3⟩ := hB
  have hX := hFacts b1
  have hw2 : SatR w0 m2.hp w := by rw [e3, e1]; exact hw
  rw [M.bind_assoc] at h6
  have gr : ∀ fr2, Good (((evFloat P ops (flOf flc) fr2).bind fun fr3 => evOps P false R ops (ops.toList.drop hh) fr3).bind f) := fun fr2 => .bind (gt _ _ _) hf
  have h6' := h6.bind (gl _ _ _) gr
  obtain ⟨fr2, m3, h7, h8, h9⟩ := h6'.here
  obtain ⟨fr1, mh, mc, hlt, k1, k2, rfl⟩ := withLock_some h7
  have k3 := (good_ops S ops _ fr1).eqs k2 h8
  obtain ⟨n, marks, t⟩ := fr
  obtain ⟨q1, q2, q3, q4⟩ := headL_lex k1
  let mL : Mem := { mh with hp := lock m2.hp tl, n := m2.n }
  obtain ⟨KK, hKK⟩ : ∃ KK : (Nat → Nat) → Fr → Mem → Prop, KK = fun A fr m' => Ends (((evFloat P ops (flOf flc) fr).bind fun fr3 => evOps P false R ops (ops.toList.drop hh) fr3).bind f) A { m' with hp := unlock m'.hp m2.hp tl } K ∧ Keep mL m' := ⟨_, rfl⟩
  have hc : Ends (evOps P false R ops (opsOf ops (chainOf hd (flOf flc) hh)) fr1) pre mL KK := hKK ▸ fun A hA => by
   have hle := (good_headL (P := P) ops (opsOf ops hd) ⟨n, marks, t⟩).le k1
   change m2.i ≤ mh.i at hle
   obtain ⟨fr', m', r1, r2, r3⟩ := h6' A fun j hj => hA j (Nat.lt_of_lt_of_le hj hle)
   obtain ⟨fr1', mh', mc', _, s1, s2, rfl⟩ := withLock_some r1
   have s3 := (good_headL ops _ _).loc k1 A fun j hj => hA j hj
   rw [s3] at s1
   simp only [Option.some.injEq, Prod.mk.injEq] at s1
   obtain ⟨rfl, rfl⟩ := s1
   exact ⟨fr', mc', s2, r2, r3, (good_ops S ops _ fr1).keep s2⟩
  -- what the state knows of the block that is made at any time
  let Phs : Option Value → List (Nat × Obj) → Prop := fun ph X' => (ph = none → X' = w0.X) ∧
   ∀ v, ph = some v → ∃ f0 c E k b, flOf flc = some f0 ∧ floatSem P ops f0 = some (c, E, k) ∧ X' = (b, .cells c.toArray E (0, 0)) :: w0.X ∧ w0.w.heap.size ≤ b ∧ (∀ p ∈ w0.X, p.1 ≠ b) ∧ runQ P (k b) = some (.value v)
  refine wpIn_drawH (C := fun w' => SatR ⟨w', []⟩ (restrict m2.hp tl) w') (T := fr1.t) (fl := flOf flc)
   (St := fun ph l af w' => ∃ fr2 A m' X', RepR fr2 af ∧ SatR ⟨w0.w, X'⟩ m'.hp w' ∧ Phs ph X' ∧ (∀ i ∈ l, i < ops.size) ∧ Ends (evOps P false R ops (opsOf ops l) fr2) A m' KK)
   (fun ph l af w' hC => ?_) (fun ph af w' hC hfp => ?_) (fun ph i l af w' hC => ?_) (fun l af w' f0 o hf0 ho hC ρ => ?_) ?_ hF hmix b1 (fun w1 hC => q4 w1 hC k3) b2 b3 hr hnp (fun a' w' hr' hkw => ?_)
  ·obtain ⟨fr2, A, m', X', r1, r2, _, _, r3⟩ := hC
   obtain ⟨fr', mf, s1, s2, s3'⟩ := r3.here
   rw [hKK] at s3'
   obtain ⟨_, s3⟩ := s3'
   have s4 := (good_ops S ops _ fr2).keep s1
   refine sat_restrict fun k ht e he => ?_
   have hx : mf.hp.get k = some { e with own := false } := s3.keep k _ (hlt k ht) (by show (lock m2.hp tl).get k = _; unfold lock; rw [get_restrict, if_pos ht, he]) rfl
   have hy := r2.holds k _ (s4.conv k _ hx rfl)
   exact hy
  ·obtain ⟨fr2, A, m', X', r1, r2, r0, _, r3⟩ := hC
   obtain ⟨r4, r5⟩ := hKK ▸ (show Ends (M.ret fr2) A m' KK from r3).ret
   have hsat := sat_unlock (mL := mL) hw2 rfl hlt r5 r2
   rw [M.bind_assoc] at r4
   have fin : ∀ (fr3 : Fr) (a3 : Act) (A3 : Nat → Nat) (m4 : Mem), RepR fr3 a3 → SatR w0 m4.hp w' → Ends ((evOps P false R ops (ops.toList.drop hh) fr3).bind f) A3 m4 K → wpListIn (rdF rd) mm P ops Q (ops.toList.drop hh) a3 w' := fun fr3 a3 A3 m4 u1 u2 u3 => ops_run S hf (fun fr' a' w' A m' => hk fr' a' w' A m') _ fr3 a3 w' A3 m4 u1 u2 u3
   cases hfl : flOf flc with
   | none =>
    have hph : ph = none := by
     cases ph with
     | none => rfl
     | some v => obtain ⟨f0, _, _, _, _, h, _⟩ := r0.2 v rfl; rw [hfl] at h; cases h
    subst hph
    rw [r0.1 rfl] at hsat
    have hla : landOf ops none (none : Option Value) af = af := rfl
    rw [hla]
    unfold evFloat at r4
    rw [hfl] at r4
    exact fin fr2 af A _ r1 hsat r4
   | some f0 =>
    obtain ⟨v, rfl⟩ := Option.isSome_iff_exists.1 (hfp (by rw [hfl]; rfl))
    obtain ⟨f1, c, E, k, b, hf1, hfs, rfl, hb, hx, hv⟩ := r0.2 v rfl
    rw [hfl] at hf1
    simp only [Option.some.injEq] at hf1
    subst hf1
    obtain ⟨_, _, o, d, ho, _, hod, _, _⟩ := hX.float hfl
    have hla : landOf ops (some f0) (some v) af = af.put o.dst v := by simp [landOf, earlyOf, ho, hod]
    rw [hla]
    unfold evFloat at r4
    rw [hfl] at r4
    simp only [ho, hfs] at r4
    rw [M.bind_assoc] at r4
    have r6 := r4.fresh b
    rw [hv] at r6
    simp only [M.bind_assoc] at r6
    have r7 := r6.pushE
    exact fin ⟨fr2.n, fr2.marks, fr2.t.put fr2.n o.dst v⟩ _ _ _ (Rep.put r1 _ _ : Rep fr2.n (fr2.marks.map markOf) (af.put o.dst v) (fr2.t.put fr2.n o.dst v)) (SatR.land hsat hb hx _ (.cells (L.ofList c) E) (by simp [MK.ok])) r7
  ·obtain ⟨fr2, A, m', X', r1, r2, rp, r0, r3⟩ := hC
   obtain ⟨o, ho⟩ : ∃ o, ops[i]? = some o := ⟨ops[i]'(r0 i (by simp)), by simp [r0 i (by simp)]⟩
   have hops : opsOf ops (i :: l) = o :: opsOf ops l := by simp [opsOf, ho]
   have r0' : ∀ k ∈ l, k < ops.size := fun k hk => r0 k (by simp [hk])
   rw [hops] at r3
   unfold evOps at r3
   unfold wpOpIn
   simp only [ho]
   split at r3
   ·exact r3.fail.elim
   ·rename_i hwn
    rw [r1.wanted hwn, if_neg (by simp)]
    exact ⟨fun f _ => hF.fn f, ⟨fr2.n, fr2.marks, fr2.t.put fr2.n o.dst undef⟩, A, m', X', (Rep.put r1 _ _ : Rep fr2.n (fr2.marks.map markOf) (af.put o.dst undef) (fr2.t.put fr2.n o.dst undef)), r2, rp, r0', r3⟩
   rename_i hwn
   rw [r1.wanted hwn, if_pos rfl]
   refine ⟨fun f _ => hF.fn f, oper_run S r1 r2 (fun v => good_ops S ops _ _) r3 fun v w'' A' m'' s1 s2 => ?_⟩
   exact ⟨⟨fr2.n, fr2.marks, fr2.t.put fr2.n o.dst v⟩, A', m'', X', (Rep.put r1 _ _ : Rep fr2.n (fr2.marks.map markOf) (af.put o.dst v) (fr2.t.put fr2.n o.dst v)), s1, rp, r0', s2⟩
  ·-- the block is made
   obtain ⟨fr2, A, m', X', r1, r2, rp, r0, r3⟩ := hC
   obtain ⟨fr', mf, s1, s2, s3'⟩ := r3.here
   rw [hKK] at s3'
   obtain ⟨s3, _⟩ := s3'
   rw [M.bind_assoc] at s3
   unfold evFloat at s3
   rw [hf0] at s3
   simp only [ho] at s3
   cases hfs : floatSem P ops f0 with
   | none => rw [hfs] at s3; exact (Ends.bind s3 .fail fun fr3 => .bind (good_ops S _ _ _) hf).fail.elim
   | some x =>
    obtain ⟨c, E, k⟩ := x
    rw [hfs] at s3
    simp only at s3
    rw [M.bind_assoc] at s3
    have s6 := s3.fresh w'.heap.size
    have hX' : X' = w0.X := rp.1 rfl
    subst hX'
    split at s6
    ·rename_i v hv
     have hrun := floatSem_run ho hfs ρ w'
     rw [runQ_run hv] at hrun
     refine ⟨v, _, hrun, fr2, A, m', _, r1, r2.float _, ⟨fun h => (by cases h), fun v' hv' => ?_⟩, r0, r3⟩
     cases hv'
     exact ⟨f0, c, E, k, w'.heap.size, hf0, hfs, rfl, r2.kept.size, fun p hp => Nat.ne_of_lt (r2.plt hp), hv⟩
    exact (Ends.bind s6 .fail fun fr3 => .bind (good_ops S _ _ _) hf).fail.elim
  ·exact sat_restrict fun k _ e he => hw2.holds k e he
  refine ⟨fr1, pre, mL, w0.X, ?_, (sat_lock hw2).of_kept hkw, ⟨fun _ => rfl, fun v h => by cases h⟩, fun i hi => ?_, hc⟩
  ·unfold RepR
   rw [q1, q2]
   exact hr'
  have := List.mem_range.1 (List.mem_filter.1 hi).1
  exact Nat.lt_of_lt_of_le this hX.le
theorem code_run (hmix : P.follows .mixedOrders = true) (f : Nat) {rd : Option Nat} {c : Code} {fr : Fr} {mm : Nat} {w0 : Bse} {w : World} {a : Act} {pre : Nat → Nat} {m : Mem} {K : (Nat → Nat) → Ex × Fr → Mem → Prop} (hr : RepR fr a) (hw : SatR w0 m.hp w) (h : Ends (evCode P false R f rd c fr) pre m K) :
  c.wpIn (rdF rd) mm P (fun e a' w' => ∃ x A m', e = x.1.out ∧ RepR x.2 a' ∧ SatR w0 m'.hp w' ∧ K A x m') a w := by
 have hF := openF_rd rd
 unfold evCode at h
 split at h
 ·exact wpIn_skip ⟨_, pre, m, rfl, hr, hw, h.ret⟩
 ·exact wpIn_label ⟨_, pre, m, rfl, hr, hw, h.ret⟩
 ·refine wpIn_region_list (ops_run S (fun _ => .ret _) (fun fr' a' w' A m' hr' hs hK => ?_) _ _ _ _ _ _ hr hw h)
  exact ⟨_, A, m', rfl, hr', hs, hK.ret⟩
 ·rename_i id ops
  obtain ⟨md, m0, j1, j2, h⟩ := h.pick fun md => good_md S _ _ md
  have hw : SatR w0 m0.hp w := by rw [j1]; exact hw
  unfold evMd at h
  split at h
  ·obtain ⟨hh, m1, k1, k2, k3⟩ := h.pick fun hh => .cond (.bind (good_head S _ _ _) fun _ => .bind (good_ops S _ _ _) fun _ => .ret _) .fail
   cases hB : headB ops hh fr.n with
   | false => rw [hB] at k3; exact (show Ends M.fail pre m1 K from k3).fail.elim
   | true =>
    rw [hB, cond_true] at k3
    refine wpIn_draw hF hmix hB (C := SatR w0 m0.hp) (fun _ k hw => hw.draw k) hw hr (head_run S hw (fun _ => .bind (good_ops S _ _ _) fun _ => .ret _) (fun t A m2 hm2 hK a2 w2 hr2 hw2 => ?_) _ _ pre m1 k1 k3)
    refine ops_run S (fun _ => .ret _) (fun fr' a' w' A m' hr' hs hK => ?_) _ ⟨fr.n, fr.marks, t⟩ _ _ A m2 hr2 (by rw [hm2]; exact hw2) hK
    exact ⟨_, A, m', rfl, hr', hs, hK.ret⟩
  ·refine drawH_run S hmix (fun _ => .ret _) (fun ch a w hq => ?_) (fun fr' a' w' A m' hr' hs hK => ⟨_, A, m', rfl, hr', hs, hK.ret⟩) hr hw h
   obtain ⟨⟨ex, fr'⟩, A, m', hq, _⟩ := hq
   cases ex <;> cases hq
  cases hsl : ops.toList.all (fun o => noSel o.op) with
  | false => rw [hsl] at h; exact (show Ends M.fail pre m0 K from h).fail.elim
  | true =>
   rw [hsl, cond_true] at h
   refine wpIn_region_any hmix ?_
   refine blocks_run S (fun _ => .ret _) (fun ch a w hq => ?_) (fun fr' a' w' A m' hr' hs hK => ⟨_, A, m', rfl, hr', hs, hK.ret⟩) hsl (ops.size + 1) 0 fr a _ pre m0 hr (hw.draw (w.drawn + 1)) h ops.size _ (by omega) (by simp) (fun j hj => absurd hj (Nat.not_lt_zero j)) (fun j _ hj => by simp [hj])
   obtain ⟨⟨ex, fr'⟩, A, m', hq, _⟩ := hq
   cases ex <;> cases hq
 ·rename_i x y
  have hg : ∀ z : Ex × Fr, Good ((match z.1 with
   | .normal => R.code rd y z.2
   | _ => M.ret z : M (Ex × Fr))) := fun z => by
   split
   ·exact S.gcode _ _ _
   exact .ret _
  refine wpIn_seq (wpIn_mono (S.code (mm := mm) hr hw (h.bind (S.gcode _ _ _) hg)) ?_)
  rintro e a' w' ⟨⟨ex, fr'⟩, A, m', rfl, hr', hs, hK⟩
  cases ex with
  | normal => exact S.code hr' hs hK
  | exit id => exact ⟨(.exit id, fr'), A, m', rfl, hr', hs, hK.ret⟩
  | ret => exact ⟨(.ret, fr'), A, m', rfl, hr', hs, hK.ret⟩
 ·split at h
  ·rename_i hv; exact wpIn_cond_true (hr.ev hv) (S.code hr hw h)
  ·rename_i hv; exact wpIn_cond_false (hr.ev hv) (S.code hr hw h)
  exact h.fail.elim
 ·rename_i id c
  have hg : ∀ z : Ex × Fr, Good ((match z.1 with
   | .exit j => bif Nat.beq j id then M.ret (.normal, z.2) else M.ret z
   | _ => M.ret z : M (Ex × Fr))) := fun z => by
   split
   ·exact .cond (.ret _) (.ret _)
   exact .ret _
  refine wpIn_block (wpIn_mono (S.code (mm := mm) hr hw (h.bind (S.gcode _ _ _) hg)) ?_)
  rintro e a' w' ⟨⟨ex, fr'⟩, A, m', rfl, hr', hs, hK⟩
  cases ex with
  | normal => exact ⟨(.normal, fr'), A, m', rfl, hr', hs, hK.ret⟩
  | ret => exact ⟨(.ret, fr'), A, m', rfl, hr', hs, hK.ret⟩
  | exit j =>
   simp only [Ex.out, Exit.inBlock]
   dsimp only at hK
   cases hb : Nat.beq j id with
   | true =>
    rw [hb] at hK
    rw [if_pos (Nat.eq_of_beq_eq_true hb)]
    exact ⟨(.normal, fr'), A, m', rfl, hr', hs, (show Ends (M.ret (Ex.normal, fr')) A m' K from hK).ret⟩
   | false =>
    rw [hb] at hK
    rw [if_neg (fun e => by rw [e, Nat.beq_refl] at hb; cases hb)]
    exact ⟨(.exit j, fr'), A, m', rfl, hr', hs, (show Ends (M.ret (Ex.exit j, fr')) A m' K from hK).ret⟩
 ·exact loopU_loop (loop_run S f fr a w pre m hr hw h)
 ·refine wpIn_scope (wpIn_mono (S.code (mm := mm) hr hw h) ?_)
  rintro e a' w' ⟨⟨ex, fr'⟩, A, m', rfl, hr', hs, hK⟩
  cases ex with
  | normal => exact ⟨(.normal, fr'), A, m', rfl, hr', hs, hK⟩
  | exit id => exact ⟨(.exit id, fr'), A, m', rfl, hr', hs, hK⟩
  | ret => exact ⟨(.ret, fr'), A, m', rfl, hr', hs, hK⟩
 ·rename_i id
  exact wpIn_exit ⟨(.exit id, fr), pre, m, rfl, hr, hw, h.ret⟩
 ·exact wpIn_ret ⟨(.ret, fr), pre, m, rfl, hr, hw, h.ret⟩
 ·exact range_run S hr hw h
 exact h.fail.elim
end
theorem sound (P : Program) (hmix : P.follows .mixedOrders = true) : ∀ f, Sound P (recN P false f)
 | 0 => ⟨fun _ _ _ => .fail, fun _ _ => .fail, fun _ _ h => h.fail.elim, fun _ h => h.fail.elim⟩
 | f + 1 => ⟨fun rd c fr => good_code (sound P hmix f) f rd c fr, fun g args => good_fn (sound P hmix f) g args, fun hr hw h => code_run (sound P hmix f) hmix f hr hw h, fun hw h => fn_run (sound P hmix f) hw h⟩
def unpack (b : Nat) : Nat → Nat → List Nat
 | 0, _ => []
 | f + 1, n => match n with
  | 0 => []
  | n => n % b :: unpack b f (n / b)
def mem0 (hs : List Nat) : Mem := ⟨.nil, 0, 0, hs, [], []⟩
theorem closed {P : Program} (hmix : P.follows .mixedOrders = true) {f : FuncId} {args : List Value} {v : Value} (hs : List Nat) (n : Nat)
  (h : ∀ A : Nat → Nat, (match (recN P false n).fn f args A (mem0 hs) with
   | some (u, m) => some (u, m.eqs.map fun (c : List (Nat × Nat)) => c.map Prod.fst)
   | none => none) = (match (recN P false n).fn f args A (mem0 hs) with
   | some (_, m) => some (v, m.eqs.map fun (c : List (Nat × Nat)) => c.map Prod.snd)
   | none => some (v, [[0]]))) (w : World) :
  Calls P f args.toArray w fun e w' => e = .returned v ∧ Kept w w' := by
 have S := sound P hmix n
 have he : Ends ((recN P false n).fn f args) (fun _ => 0) (mem0 hs) fun _ u _ => u = v := fun A _ => by
  have := h A
  split at this
  ·rename_i u m hr
   simp only [Option.some.injEq, Prod.mk.injEq] at this
   refine ⟨u, m, hr, fun c hc => ?_, this.1⟩
   refine AllEq.of_map ?_
   have h2 : ∀ (l : List (List (Nat × Nat))), (l.map fun (c : List (Nat × Nat)) => c.map Prod.fst) = (l.map fun (c : List (Nat × Nat)) => c.map Prod.snd) → ∀ c ∈ l, c.map Prod.fst = c.map Prod.snd := by
    intro l
    induction l with
    | nil => intro _ c hc; cases hc
    | cons d l ih =>
     intro h c hc
     simp only [List.map_cons, List.cons.injEq] at h
     rcases List.mem_cons.1 hc with rfl | hc
     ·exact h.1
     exact ih h.2 c hc
   exact h2 _ this.2 c hc
  cases this
 have h0 : SatR ⟨w, []⟩ (mem0 hs).hp w := ⟨Kept.refl w, fun i e hi => (by cases hi), fun i e hi => (by cases hi), fun i j e e' _ hi => (by cases hi), fun p hp => (by cases hp), fun p hp => (by cases hp)⟩
 refine (S.fn h0 he).mono ?_
 rintro e w' ⟨u, A, m', rfl, h5, rfl⟩
 exact ⟨rfl, h5.kept⟩
end Run
end
end Go.Proofs.Ytcncfmjfgdbfeab
