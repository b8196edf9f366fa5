/- Whole runs of closed calls: what the kernel reckons is what the machine does. -/
import Derived.Test.YtcncfmjfgdbfeabRun3
namespace Go.Proofs.Ytcncfmjfgdbfeab
open Go.RowKit
noncomputable section
namespace Run
theorem setsT_rep {n : Nat} {ds : List Deferred} : ∀ (l : List (Tmp × Value)) {t : Tr} {tmps : Array Value}, Rep n ds ⟨tmps, ds⟩ t → Rep n ds ⟨l.foldl (fun tmps p => tmps.setIfInBounds p.1 p.2) tmps, ds⟩ (setsT n t l)
 | [], _, _, h => h
 | (i, v) :: l, t, tmps, h => setsT_rep l (t := t.put n (some i) v) (tmps := tmps.setIfInBounds i v) (h.put (some i) v)
theorem zip_foldl (ps : Array Tmp) (args : List Value) (tmps : Array Value) :
  (ps.zip args.toArray).foldl (fun tmps (p : Tmp × Value) => tmps.setIfInBounds p.1 p.2) tmps = (ps.toList.zip args).foldl (fun tmps p => tmps.setIfInBounds p.1 p.2) tmps := by
 rw [← Array.foldl_toList, Array.toList_zip]
theorem argsT_rep {fn : Func} {args : List Value} (hle : args.length ≤ fn.ntmps) : RepR ⟨fn.ntmps, [], argsT args⟩ { tmps := args.toArray ++ Array.replicate (fn.ntmps - args.toArray.size) undef, defers := [] } := by
 refine ⟨?_, rfl, fun i v hv => ?_⟩
 ·simp; omega
 simp only [argsT] at hv
 rcases fold_get args 0 Tr.nil i v hv with ⟨_, h⟩ | ⟨_, h⟩ | ⟨_, h⟩
 ·simp [Tr.get] at h
 ·simp only [Nat.sub_zero] at h
  have hlt : i < args.length := by
   rcases Nat.lt_or_ge i args.length with h1 | h1
   ·exact h1
   rw [List.getElem?_eq_none h1] at h; cases h
  rw [Array.getElem?_append_left (by simpa using hlt)]
  simpa using h
 simp [Tr.get] at h
theorem yield_sem {P : Program} {n : Nat} {ds : List Deferred} {a : Act} {t : Tr} {o : Oper} {l : Nat} {args : List Value} (h : yieldOf t o = some (l, args)) (hr : Rep n ds a t) :
  (∀ c, o.op ≠ .defer c) ∧ ∀ w, (execOp a.eval o).run P w = (Instr.yield l args.toArray).run P w := by
 unfold yieldOf at h
 split at h
 ·rename_i c hop
  split at h
  ·rename_i f hcal
   split at h
   ·rename_i l' first cap hf
    cases hall : (o.op.operands.toList.all fun x => (t.ev? x).isSome) with
    | false => rw [hall] at h; cases h
    | true =>
     rw [hall] at h
     simp only [cond_true, Option.some.injEq, Prod.mk.injEq] at h
     obtain ⟨rfl, rfl⟩ := h
     refine ⟨fun c' e => (by rw [hop] at e; cases e), fun w => ?_⟩
     have hsem : opSem t o = some (execOp t.ev o) := by
      unfold opSem
      rw [hall]
      simp [noSel, hop]
     rw [hr.opSem hsem]
     have hev : t.ev f = .func (.yield l') first cap := by simp [Tr.ev, hf]
     unfold execOp
     simp only [hop, resolve, hcal, hev, Deferred.ofValue, invoke, Sem.run_bind, Result.andThen, Sem.run_pure]
     try simp [invoke]
   cases h
  cases h
 cases h
section
variable {P : Program} {R : Rec} (S : Sound P R)
include S
theorem yield_run {β : Type} {f : Value → M β} {l : Nat} {args : List Value} {pre : Nat → Nat} {m : Mem} {K : (Nat → Nat) → β → Mem → Prop} {w0 : Bse} {w : World} (hw : SatR w0 m.hp w) (hf : ∀ a, Good (f a)) (h : Ends ((evYield false R l args).bind f) pre m K) :
  ∃ fnid tmps assign body, (Instr.yield l args.toArray).run P w = .ok (.round l fnid tmps assign body) w ∧
   ∀ rd mm, RoundIn (rdF rd) mm P l fnid tmps assign body w fun e w' => ∃ v A m', e = .returned v ∧ SatR w0 m'.hp w' ∧ Ends (f v) A m' K := by
 have hG := good_yield S l args
 unfold evYield at h hG
 rw [M.bind_assoc] at h
 obtain ⟨j, e, m1, h1, h2, h3, h4, h5⟩ := h.loc fun x => .bind (by
  split
  ·refine .cond (.bind (S.gcode _ _ _) fun y => ?_) .fail
   split
   ·refine .bind (.locB _) fun z => ?_
    split
    ·refine .bind (.putE _ _) fun _ => .bind (S.gcode _ _ _) fun u => .bind (.locB _) fun z => ?_
     split
     ·exact .bind (.putE _ _) fun _ => .ret _
     exact .fail
    exact .fail
   exact .fail
  exact .fail) hf
 obtain ⟨o, ho, hk⟩ := hw.holds j e h1
 dsimp only at h5
 split at h5
 rotate_left
 ·exact (h5.bind .fail hf).fail.elim
 rename_i pend n t ps assign body defers he
 rw [he] at hk
 obtain ⟨fnid, tmps, rfl, hsz, hat⟩ := hk
 subst h2
 cases hlen : Nat.beq args.length ps.size with
 | false => rw [hlen] at h5; exact (Ends.bind h5 .fail hf).fail.elim
 | true =>
  rw [hlen, cond_true, M.bind_assoc] at h5
  have hlen' := Nat.eq_of_beq_eq_true hlen
  refine ⟨fnid, _, assign, body, run_yield (args := args.toArray) ho (by simpa using hlen'), fun rd mm => roundIn_of_wpIn (fn_rd rd fnid) ?_⟩
  rw [inRound_rd]
  simp only [zip_foldl]
  have hrep : RepR ⟨n, [], setsT n t (ps.toList.zip args)⟩ { tmps := (ps.toList.zip args).foldl (fun tmps p => tmps.setIfInBounds p.1 p.2) tmps, defers := [] } := setsT_rep _ ⟨hsz, rfl, hat⟩
  have g1 : ∀ y : Ex × Fr, Good ((match y.1 with
     | .normal => (loc false e.b).bind fun z => match z.2.own, z.2.k with
      | true, .lp .ready p2 n2 t2 ps2 as2 bo2 de2 => (putE z.1 ⟨true, z.2.b, .lp .busy p2 n2 t2 ps2 as2 bo2 de2⟩).bind fun _ =>
       (R.code (some e.b) body y.2).bind fun u => (loc false e.b).bind fun z => match z.2.own, z.2.k with
        | true, .lp _ _ n3 t3 ps3 as3 bo3 de3 => (putE z.1 ⟨true, z.2.b, .lp (endOf u.1).1 (endOf u.1).2.1 n3 t3 ps3 as3 bo3 de3⟩).bind fun _ => M.ret (.bool (endOf u.1).2.2)
        | _, _ => M.fail
      | _, _ => M.fail
     | _ => M.fail : M Value)) := fun y => by
   split
   ·refine .bind (.locB _) fun z => ?_
    split
    ·refine .bind (.putE _ _) fun _ => .bind (S.gcode _ _ _) fun u => .bind (.locB _) fun z => ?_
     split
     ·exact .bind (.putE _ _) fun _ => .ret _
     exact .fail
    exact .fail
   exact .fail
  have h6 := h5.bind (S.gcode _ _ _) fun y => (g1 y).bind hf
  refine wpIn_mono (S.code hrep (by rw [h3]; exact hw) h6) ?_
  rintro e1 a1 w1 ⟨y, A, m2, rfl, hr1, hw1, hK⟩
  obtain ⟨ex, fr1⟩ := y
  cases ex with
  | exit id => exact (hK.bind .fail hf).fail.elim
  | ret => exact (hK.bind .fail hf).fail.elim
  | normal =>
   dsimp only at hK
   rw [M.bind_assoc] at hK
   obtain ⟨j2, e2, m3, k1, k2, k3, k4, k5⟩ := hK.loc fun z => .bind (by
    split
    ·refine .bind (.putE _ _) fun _ => .bind (S.gcode _ _ _) fun u => .bind (.locB _) fun z => ?_
     split
     ·exact .bind (.putE _ _) fun _ => .ret _
     exact .fail
    exact .fail) hf
   obtain ⟨o2, ho2, hk2⟩ := hw1.holds j2 e2 k1
   dsimp only at k5
   split at k5
   rotate_left
   ·exact (k5.bind .fail hf).fail.elim
   rename_i p2 n2 t2 ps2 as2 bo2 de2 hown2 he2
   rw [he2] at hk2
   obtain ⟨fn2, tm2, rfl, hsz2, hat2⟩ := hk2
   rw [← k2] at ho2
   have hb2 := run_beginRound (P := P) ho2 rfl
   have hlt2 := (Array.getElem?_eq_some_iff.1 ho2).1
   refine ⟨_, hb2, ?_⟩
   have hsat2 : SatR w0 (m2.hp.set j2 ⟨true, e2.b, .lp .busy p2 n2 t2 ps2 as2 bo2 de2⟩) (w1.putObj e.b (.loop { state := .busy, pending := p2, fn := fn2, tmps := tm2, params := ps2, assign := as2, body := bo2, defers := de2 })) :=
    hw1.upd k1 hown2 _ rfl rfl rfl (by simp) (by rw [← k2]; exact World.putObj_heap_same hlt2) ⟨fn2, tm2, rfl, hsz2, hat2⟩ (fun q hq => World.putObj_heap_other (by rw [k2]; exact hq))
   rw [M.bind_assoc] at k5
   have k6 := k5.putE
   rw [M.bind_assoc] at k6
   have g2 : ∀ u : Ex × Fr, Good (((loc false e.b).bind fun z => match z.2.own, z.2.k with
        | true, .lp _ _ n3 t3 ps3 as3 bo3 de3 => (putE z.1 ⟨true, z.2.b, .lp (endOf u.1).1 (endOf u.1).2.1 n3 t3 ps3 as3 bo3 de3⟩).bind fun _ => M.ret (.bool (endOf u.1).2.2)
        | _, _ => M.fail : M Value)) := fun u => by
    refine .bind (.locB _) fun z => ?_
    split
    ·exact .bind (.putE _ _) fun _ => .ret _
    exact .fail
   have k7 := k6.bind (S.gcode _ _ _) fun u => (g2 u).bind hf
   refine wpIn_mono (S.code hr1 (by dsimp only; rw [k3]; exact hsat2) k7) ?_
   rintro e3 a3 w3 ⟨u, A3, m4, rfl, hr3, hw3, hK3⟩
   rw [M.bind_assoc] at hK3
   obtain ⟨j4, e4, m5, q1, q2, q3, q4, q5⟩ := hK3.loc fun z => .bind (by
    split
    ·exact .bind (.putE _ _) fun _ => .ret _
    exact .fail) hf
   obtain ⟨o4, ho4, hk4⟩ := hw3.holds j4 e4 q1
   dsimp only at q5
   split at q5
   rotate_left
   ·exact (q5.bind .fail hf).fail.elim
   rename_i st3 pe3 n3 t3 ps3 as3 bo3 de3 hown4 he4
   rw [he4] at hk4
   obtain ⟨fn4, tm4, rfl, hsz4, hat4⟩ := hk4
   rw [← q2] at ho4
   rw [M.bind_assoc] at q5
   have q6 := q5.putE
   have hlt4 := (Array.getElem?_eq_some_iff.1 ho4).1
   have hsat4 : ∀ st pe, SatR w0 (m4.hp.set j4 ⟨true, e4.b, .lp st pe n3 t3 ps3 as3 bo3 de3⟩) (w3.putObj e.b (.loop { state := st, pending := pe, fn := fn4, tmps := tm4, params := ps3, assign := as3, body := bo3, defers := de3 })) := fun st pe =>
    hw3.upd q1 hown4 _ rfl rfl rfl (by simp) (by rw [← q2]; exact World.putObj_heap_same hlt4) ⟨fn4, tm4, rfl, hsz4, hat4⟩ (fun q hq => World.putObj_heap_other (by rw [q2]; exact hq))
   obtain ⟨ex3, fr3⟩ := u
   cases ex3 with
   | normal => exact ⟨_, _, run_endRound (P := P) none ho4, _, A3, _, rfl, by dsimp only; rw [q3]; exact hsat4 .ready none, q6⟩
   | ret => exact ⟨_, _, run_endRound (P := P) (some .ret) ho4, _, A3, _, rfl, by dsimp only; rw [q3]; exact hsat4 .done (some .ret), q6⟩
   | exit id => exact ⟨_, _, run_endRound (P := P) (some (.exit id)) ho4, _, A3, _, rfl, by dsimp only; rw [q3]; exact hsat4 .done (some (.exit id)), q6⟩
theorem calc_run {β : Type} {f : Value → M β} {n : Nat} {ds : List Deferred} {a : Act} {t : Tr} {o : Oper} {pre : Nat → Nat} {m : Mem} {K : (Nat → Nat) → β → Mem → Prop} {w0 : Bse} {w : World} (hr : Rep n ds a t) (hw : SatR w0 m.hp w) (hf : ∀ a, Good (f a)) (h : Ends ((evCalc P false R t o).bind f) pre m K)
  {rd : Option Nat} {mm : Nat} {next : Act → World → Prop} {Q : Exit → Act → World → Prop} (hn : ∀ v w' A m', SatR w0 m'.hp w' → Ends (f v) A m' K → next (a.put o.dst v) w') :
  o.uponIn (rdF rd) mm P a next Q ((o.semAt (rdF rd).round a.eval).run P w) := by
 have hF := openF_rd rd
 unfold evCalc at h
 split at h
 ·exact (h.bind .fail hf).fail.elim
 rename_i s hs
 rw [M.bind_assoc] at h
 have hg : ∀ nx : Next, Good ((match nx with
  | .value v => M.ret v
  | .skip => M.ret undef
  | .enter f args => R.fn f args.toList
  | _ => M.fail : M Value)) := fun nx => by
  split
  ·exact .ret _
  ·exact .ret _
  ·exact S.gfn _ _
  exact .fail
 obtain ⟨x, w', pre', m', h1, h2, h3⟩ := sem_run hs hw (fun nx => (hg nx).bind hf) h
 rw [Oper.semAt_eq _ _ _ (noDefer (opSem_noSel hs)), hr.opSem hs, h1]
 split at h3
 ·exact hn _ _ _ _ h2 h3
 ·exact hn _ _ _ _ h2 h3
 ·rename_i g args
  have h4 := S.fn h2 (h3.bind (S.gfn _ _) hf)
  refine ⟨fun h => hF.depth h, hF.calls (h4.mono ?_)⟩
  rintro e w'' ⟨v, A, m'', rfl, h5, h6⟩
  exact hn v w'' A m'' h5 h6
 exact (h3.bind .fail hf).fail.elim
theorem operS_run {β : Type} {f : Value → M β} {n : Nat} {ds : List Deferred} {a : Act} {t : Tr} {o : Oper} {pre : Nat → Nat} {m : Mem} {K : (Nat → Nat) → β → Mem → Prop} {w0 : Bse} {w : World} (hr : Rep n ds a t) (hw : SatR w0 m.hp w) (hf : ∀ a, Good (f a)) (h : Ends ((evOperS P false R t o).bind f) pre m K)
  {rd : Option Nat} {mm : Nat} {next : Act → World → Prop} {Q : Exit → Act → World → Prop} (hn : ∀ v w' A m', SatR w0 m'.hp w' → Ends (f v) A m' K → next (a.put o.dst v) w') :
  o.uponIn (rdF rd) mm P a next Q ((o.semAt (rdF rd).round a.eval).run P w) := by
 have hF := openF_rd rd
 unfold evOperS at h
 split at h
 ·rename_i hc
  split at h
  rotate_left
  ·exact (h.bind .fail hf).fail.elim
  rename_i x hx
  split at h
  rotate_left
  ·exact (h.bind .fail hf).fail.elim
  rename_i v hv
  have hop : o.op = .move x ∨ o.op = .assign x := by
   unfold mvOf at hx
   split at hx <;> first | (simp only [Option.some.injEq] at hx; subst hx; first | exact .inl (by assumption) | exact .inr (by assumption)) | (cases hx)
  have hs : execOp a.eval o = pure (.value v) := by
   rw [← hr.ev hv]
   rcases hop with e | e <;> (unfold execOp; rw [e])
  rw [Oper.semAt_eq _ _ _ (noDefer (by rcases hop with e | e <;> rw [e] <;> rfl)), hs]
  exact hn v w pre m hw h
 ·split at h
  ·rename_i l args hy
   obtain ⟨hnd, hsem⟩ := yield_sem (P := P) hy hr
   obtain ⟨fnid, tmps, assign, body, h1, h2⟩ := yield_run S hw hf h
   rw [Oper.semAt_eq _ _ _ hnd, hsem, h1]
   refine ⟨fun h => hF.depth h, (h2 rd (mm - 1)).mono ?_⟩
   rintro e w' ⟨v, A, m', rfl, h3, h4⟩
   exact hn v w' A m' h3 h4
  exact calc_run S hr hw hf h hn
 exact calc_run S hr hw hf h hn
theorem oper_run {β : Type} {f : Value → M β} {n : Nat} {ds : List Deferred} {a : Act} {t : Tr} {o : Oper} {pre : Nat → Nat} {m : Mem} {K : (Nat → Nat) → β → Mem → Prop} {w0 : Bse} {w : World} (hr : Rep n ds a t) (hw : SatR w0 m.hp w) (hf : ∀ a, Good (f a)) (h : Ends ((evOper P false R t o).bind f) pre m K)
  {rd : Option Nat} {mm : Nat} {next : Act → World → Prop} {Q : Exit → Act → World → Prop} (hn : ∀ v w' A m', SatR w0 m'.hp w' → Ends (f v) A m' K → next (a.put o.dst v) w') :
  o.uponIn (rdF rd) mm P a next Q ((o.semAt (rdF rd).round a.eval).run P w) := by
 have hF := openF_rd rd
 unfold evOper at h
 have hok := pl_ok (P := P) (ρ := a.eval) (t := t) (fun x v hv => hr.ev hv) o
 have hns := pl_noSel (P := P) (t := t) (o := o)
 cases hpl : plOf t (planOp P o) with
 | slow => rw [hpl] at h; exact operS_run S hr hw hf h hn
 | val v =>
  rw [hpl] at h hok hns
  rw [Oper.semAt_eq _ _ _ (noDefer (hns nofun)), hok w]
  exact hn v w pre m hw h
 | loadC b off =>
  rw [hpl] at h hok hns
  obtain ⟨v, m', hc, e1, e2, h'⟩ := fLoadC_run hf h
  rw [Oper.semAt_eq _ _ _ (noDefer (hns nofun)), hok w v (hc w hw)]
  exact hn v w pre m' (by rw [e1]; exact hw) h'
 | loadA b off k =>
  rw [hpl] at h hok hns
  obtain ⟨l, m', hl, hc, e1, e2, h'⟩ := fLoadA_run hf h
  rw [Oper.semAt_eq _ _ _ (noDefer (hns nofun)), hok w l hl (hc w hw)]
  exact hn _ w pre m' (by rw [e1]; exact hw) h'
 | store b off vs =>
  rw [hpl] at h hok hns
  obtain ⟨k', m', hM, hs, h'⟩ := fStore_run hw hf h
  rw [Oper.semAt_eq _ _ _ (noDefer (hns nofun)), hok w hM.there hM.free hM.one]
  exact hn undef _ pre m' hs h'
 | enter g args =>
  rw [hpl] at h hok hns
  rw [Oper.semAt_eq _ _ _ (noDefer (hns nofun)), hok w]
  have h4 := S.fn hw (Ends.bind h (S.gfn _ _) hf)
  refine ⟨fun h => hF.depth h, hF.calls (h4.mono ?_)⟩
  rintro e w'' ⟨v, A, m'', rfl, h5, h6⟩
  exact hn v w'' A m'' h5 h6
 | newP E cs =>
  rw [hpl] at h hok hns
  obtain ⟨pre', m', hs, h'⟩ := fNew_run (g := fun b => .pointer (some ⟨b, 0, none⟩)) hw h
  rw [Oper.semAt_eq _ _ _ (noDefer (hns nofun)), hok w]
  exact hn _ _ pre' m' hs h'
 | newS E cs k =>
  rw [hpl] at h hok hns
  obtain ⟨pre', m', hs, h'⟩ := fNew_run (g := fun b => .slice (some ⟨b, 0, none⟩) k k) hw h
  rw [Oper.semAt_eq _ _ _ (noDefer (hns nofun)), hok w]
  exact hn _ _ pre' m' hs h'
theorem ops_run {β : Type} {f : Fr → M β} {ops : Array Oper} {rd : Option Nat} {mm : Nat} {Q : Exit → Act → World → Prop} {K : (Nat → Nat) → β → Mem → Prop} {w0 : Bse} (hf : ∀ a, Good (f a))
  (hk : ∀ fr a w A m, RepR fr a → SatR w0 m.hp w → Ends (f fr) A m K → Q .normal a w) :
  ∀ (l : List Oper) (fr : Fr) (a : Act) (w : World) (pre : Nat → Nat) (m : Mem), RepR fr a → SatR w0 m.hp w → Ends ((evOps P false R ops l fr).bind f) pre m K → wpListIn (rdF rd) mm P ops Q l a w
 | [], fr, a, w, pre, m, hr, hw, h => hk fr a w pre m hr hw h
 | o :: l, fr, a, w, pre, m, hr, hw, h => by
  have hF := openF_rd rd
  unfold evOps at h
  unfold wpListIn
  split at h
  ·exact (h.bind .fail hf).fail.elim
  ·rename_i hwn
   rw [hr.wanted hwn, if_neg (by simp)]
   exact ⟨fun f _ => hF.fn f, ops_run hf hk l ⟨fr.n, fr.marks, fr.t.put fr.n o.dst undef⟩ _ _ _ _ (Rep.put hr _ _ : Rep fr.n (fr.marks.map markOf) (a.put o.dst undef) (fr.t.put fr.n o.dst undef)) hw h⟩
  rename_i hwn
  rw [hr.wanted hwn, if_pos rfl]
  refine ⟨fun f _ => hF.fn f, ?_⟩
  rw [M.bind_assoc] at h
  exact oper_run S hr hw (fun v => (good_ops S ops l _).bind hf) h fun v w' A m' h1 h2 => ops_run hf hk l ⟨fr.n, fr.marks, fr.t.put fr.n o.dst v⟩ _ _ _ _ (Rep.put hr _ _ : Rep fr.n (fr.marks.map markOf) (a.put o.dst v) (fr.t.put fr.n o.dst v)) h1 h2
theorem quietS_run {β : Type} {f : Value → M β} {t : Tr} {o : Oper} {pre : Nat → Nat} {m : Mem} {K : (Nat → Nat) → β → Mem → Prop} {w0 : Bse} {w : World} (_hw : SatR w0 m.hp w) (hf : ∀ a, Good (f a)) (h : Ends ((evQuietS P false R t o).bind f) pre m K) :
  ∃ s v A m', opSem t o = some s ∧ QRun P (SatR w0 m.hp) s v ∧ m'.hp = m.hp ∧ Ends (f v) A m' K := by
 unfold evQuietS at h
 split at h
 ·exact (h.bind .fail hf).fail.elim
 rename_i s hs
 have hgq := good_quietS S t o
 unfold evQuietS at hgq
 simp only [hs] at hgq
 split at h
 ·rename_i g args hq
  simp only [hq] at hgq
  have h1 := h.bind hgq hf
  obtain ⟨v0, m', h2, h3, h4⟩ := h1.here
  obtain ⟨v, m1, v0', m2, l, k1, k2, k3, rfl, rfl⟩ := quiet_key h2
  refine ⟨s, v0, pre, ⟨m.hp, m.n, m1.i, m1.hs, addEqs l m1.eqs, m1.out⟩, hs, fun w1 hw1 => .inr (.inl ⟨g, args, runQ_run hq w1, ?_⟩), rfl, h4⟩
  have he : Ends (R.fn g args.toList) pre { m with hp := ro m.hp } fun _ v _ => v = v0 := fun A hA => by
   obtain ⟨a', m3, q1, q2, q3⟩ := h1 A hA
   obtain ⟨v', m1', v0'', m2', l', r1, r2, r3, rfl, rfl⟩ := quiet_key q1
   rw [k2] at r2
   obtain ⟨rfl, _⟩ := Prod.mk.injEq .. ▸ Option.some.inj r2
   obtain ⟨r4, r5⟩ := allE_addEqs q2
   exact ⟨v', m1', r1, r5, sameE_eq 9 _ _ _ r3 r4⟩
  have hc := S.fn (w := w1) (SatR.ro hw1) he
  refine (show args = args.toList.toArray by simp) ▸ hc.mono ?_
  rintro e w' ⟨v2, A, m3, rfl, h5, rfl⟩
  exact ⟨rfl, hw1.of_kept h5.kept⟩
 rw [M.bind_assoc] at h
 have hg : ∀ nx : Next, Good ((match nx with
  | .value v => M.ret v
  | .skip => M.ret undef
  | _ => M.fail : M Value)) := fun nx => by
  split
  ·exact .ret _
  ·exact .ret _
  exact .fail
 obtain ⟨x, m', h1, h2, h3⟩ := (h.bind (good_runL P s) fun nx => (hg nx).bind hf).here
 have hhp : m'.hp = m.hp := (runL_both (w0 := w0) (w := w) h1).1
 split at h3
 ·rename_i v
  exact ⟨s, v, pre, m', hs, fun w1 hw1 => .inl ((runL_both h1).2 hw1 h2), hhp, h3⟩
 ·exact ⟨s, undef, pre, m', hs, fun w1 hw1 => .inr (.inr ⟨rfl, (runL_both h1).2 hw1 h2⟩), hhp, h3⟩
 exact (h3.bind .fail hf).fail.elim
theorem quiet_run {β : Type} {f : Value → M β} {t : Tr} {o : Oper} {pre : Nat → Nat} {m : Mem} {K : (Nat → Nat) → β → Mem → Prop} {w0 : Bse} {w : World} (_hw : SatR w0 m.hp w) (hf : ∀ a, Good (f a)) (h : Ends ((evQuiet P false R t o).bind f) pre m K) :
  ∃ s v A m', opSem t o = some s ∧ QRun P (SatR w0 m.hp) s v ∧ m'.hp = m.hp ∧ Ends (f v) A m' K := by
 unfold evQuiet at h
 have hok := pl_ev (P := P) (t := t) o
 have hsem := pl_sem (P := P) (t := t) (o := o)
 cases hpl : plOf t (planOp P o) with
 | slow => rw [hpl] at h; exact quietS_run S _hw hf h
 | store => rw [hpl] at h; exact quietS_run S _hw hf h
 | newP => rw [hpl] at h; exact quietS_run S _hw hf h
 | newS => rw [hpl] at h; exact quietS_run S _hw hf h
 | val v =>
  rw [hpl] at h hok hsem
  exact ⟨_, v, pre, m, hsem nofun, fun w1 hw1 => .inl (hok w1), rfl, h⟩
 | loadC b off =>
  rw [hpl] at h hok hsem
  obtain ⟨v, m', hc, e1, e2, h'⟩ := fLoadC_run hf h
  exact ⟨_, v, pre, m', hsem nofun, fun w1 hw1 => .inl (hok w1 v (hc w1 hw1)), e1, h'⟩
 | loadA b off k =>
  rw [hpl] at h hok hsem
  obtain ⟨l, m', hl, hc, e1, e2, h'⟩ := fLoadA_run hf h
  exact ⟨_, _, pre, m', hsem nofun, fun w1 hw1 => .inl (hok w1 l hl (hc w1 hw1)), e1, h'⟩
 | enter g args =>
  rw [hpl] at h hok hsem
  have h1 := Ends.bind h (good_call S g args) hf
  obtain ⟨v0, m', h2, h3, h4⟩ := h1.here
  obtain ⟨v, m1, v0', m2, l, k1, k2, k3, rfl, rfl⟩ := quiet_key h2
  refine ⟨_, v0, pre, ⟨m.hp, m.n, m1.i, m1.hs, addEqs l m1.eqs, m1.out⟩, hsem nofun, fun w1 hw1 => .inr (.inl ⟨g, args.toArray, hok w1, ?_⟩), rfl, h4⟩
  have he : Ends (R.fn g args) pre { m with hp := ro m.hp } fun _ v _ => v = v0 := fun A hA => by
   obtain ⟨a', m3, q1, q2, q3⟩ := h1 A hA
   obtain ⟨v', m1', v0'', m2', l', r1, r2, r3, rfl, rfl⟩ := quiet_key q1
   rw [k2] at r2
   obtain ⟨rfl, _⟩ := Prod.mk.injEq .. ▸ Option.some.inj r2
   obtain ⟨r4, r5⟩ := allE_addEqs q2
   exact ⟨v', m1', r1, r5, sameE_eq 9 _ _ _ r3 r4⟩
  refine (S.fn (w := w1) (SatR.ro hw1) he).mono ?_
  rintro e w' ⟨v2, A, m3, rfl, h5, rfl⟩
  exact ⟨rfl, hw1.of_kept h5.kept⟩
end
end Run
end
end Go.Proofs.Ytcncfmjfgdbfeab
