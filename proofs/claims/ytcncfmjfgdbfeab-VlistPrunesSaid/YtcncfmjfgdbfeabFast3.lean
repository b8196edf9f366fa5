/- The second way to walk: states of a walk, and its rules. -/
import Derived.Test.YtcncfmjfgdbfeabFast2
import Derived.RangeFuncNested
import Derived.RangeFuncBound
import Derived.RangeFuncCalls
import Derived.RangeFuncLeaves
namespace Go.Proofs.Ytcncfmjfgdbfeab
open Go.RowKit
noncomputable section
inductive K where
 | code (c : Code)
 | blk (id : Nat)
 | hook (N : Act → World → Prop)
 | again (n : Nat) (c : Code)
 | scp
structure St where
 n : Nat
 ds : List Deferred
 ops : Array Oper
 l : List Oper
 k : List K
 t : Tr
 hp : List HE
abbrev Fin := Exit → Act → World → Prop
def OpenF (F : Fence) : Prop := F = Fence.wide ∨ ∃ l, F = Fence.wide.inRound l
theorem OpenF.fn {F : Fence} (h : OpenF F) (f : FuncId) : F.fn f := by rcases h with rfl | ⟨l, rfl⟩ <;> trivial
theorem OpenF.depth {F : Fence} (h : OpenF F) : F.depth.isSome = true → ∀ {m : Nat}, 1 ≤ m := by rcases h with rfl | ⟨l, rfl⟩ <;> (intro h; cases h)
theorem OpenF.calls {F : Fence} (h : OpenF F) {m : Nat} {P : Program} {f : FuncId} {args : Array Value} {w : World} {R : Ending → World → Prop} (hc : Calls P f args w R) : CallsIn F m P f args w R := by
 rcases h with rfl | ⟨l, rfl⟩
 ·exact callsIn_wide.2 hc
 exact CallsIn.inRound l (callsIn_wide.2 hc)
theorem opSem_noSel {t : Tr} {o : Oper} {s : Sem Next} (h : opSem t o = some s) : noSel o.op = true := by
 unfold opSem at h
 cases hb : noSel o.op with
 | true => rfl
 | false => rw [hb] at h; simp at h
theorem noDefer {o : Oper} (h : noSel o.op = true) : ∀ c, o.op ≠ .defer c := fun c e => by rw [e] at h; cases h
def noGo (Q : Fin) : Fin
 | .goto _, _, _ => False
 | e, a, w => Q e a w
theorem stepR_scope' {P : Program} {b : Frame} {a : Act} {k : List Item} {cs : List Frame} {w : World} {c : Code} : step P (lone (b.atR a (.code (.scope c) :: k)) cs w) = .next (lone (b.atR a (.code c :: .inScope c :: k)) cs w) :=
 step_lone_go (by simp [stepG, stepG.exec, Frame.atR])
theorem stepR_inScope' {P : Program} {b : Frame} {a : Act} {k : List Item} {cs : List Frame} {w : World} {c : Code} : step P (lone (b.atR a (.inScope c :: k)) cs w) = .next (lone (b.atR a k) cs w) :=
 step_lone_go (by simp [stepG, stepG.exec, Frame.atR])
theorem wpIn_scope {F : Fence} {n : Nat} {P : Program} {Q : Fin} {a : Act} {w : World} {c : Code} (h : c.wpIn F n P (noGo Q) a w) : (Code.scope c).wpIn F n P Q a w := by
 intro b k cs hro hb hr
 have h0 : (lone (b.atR a (.code (.scope c) :: k)) cs w).fenced P F := fenced_calm hb hr rfl
 obtain ⟨e, a₁, w₁, hq, harr⟩ := h b (.inScope c :: k) cs hro hb hr
 cases e with
 | normal => exact ⟨.normal, a₁, w₁, hq, .head h0 stepR_scope' (StepsIn.trans harr (.one (fenced_calm hb hr rfl) stepR_inScope'))⟩
 | exit id' =>
  have hx : exitTo id' (.inScope c :: k) = exitTo id' k := by simp [exitTo]
  exact ⟨.exit id', a₁, w₁, hq, fun k' hk => .head h0 stepR_scope' (harr.1 k' (by rw [hx]; exact hk)),
   fun hr' hk => let ⟨k₁, h1, h2⟩ := harr.2 hr' (by rw [hx]; exact hk); ⟨k₁, h1, .head h0 stepR_scope' h2⟩⟩
 | goto l => exact hq.elim
 | ret => exact ⟨_, a₁, w₁, hq, .of_steps (.one h0 stepR_scope') harr⟩
 | panic ch => exact ⟨_, a₁, w₁, hq, .of_steps (.one h0 stepR_scope') harr⟩
 | outgrown => exact ⟨_, a₁, w₁, hq, .of_steps (.one h0 stepR_scope') harr⟩
def loopU (F : Fence) (mm : Nat) (P : Program) (Q : Fin) (c : Code) : Nat → Act → World → Prop
 | 0 => fun _ _ => False
 | n + 1 => fun a w => c.wpIn F mm P (Exit.then (loopU F mm P Q c n) Q) a w
def den (F : Fence) (mm : Nat) (P : Program) (fin : Fin) : List K → Fin
 | [] => fin
 | .code c :: k => Exit.then (c.wpIn F mm P (den F mm P fin k)) (den F mm P fin k)
 | .blk id :: k => Exit.inBlock id (den F mm P fin k)
 | .hook N :: k => Exit.then N (den F mm P fin k)
 | .again n c :: k => Exit.then (loopU F mm P (den F mm P fin k) c n) (den F mm P fin k)
 | .scp :: k => noGo (den F mm P fin k)
structure Goal (F : Fence) (mm : Nat) (P : Program) (fin : Fin) (w0 : World) (bs : List Nat) (st : St) : Prop where
 out : OpenF F → ∀ a w, Rep st.n st.ds a st.t → Sat w0 bs st.hp w → wpListIn F mm P st.ops (den F mm P fin st.k) st.l a w
def unwind (id : Nat) : List K → Option (List K)
 | [] => none
 | .blk i :: k => bif Nat.beq id i then some k else unwind id k
 | _ :: k => unwind id k
section
variable {F : Fence} {mm : Nat} {P : Program} {fin : Fin} {w0 : World} {bs : List Nat}
theorem den_exit {id : Nat} {a : Act} {w : World} : ∀ {k k' : List K}, unwind id k = some k' → den F mm P fin k' .normal a w → den F mm P fin k (.exit id) a w
 | [], _, h, _ => by simp [unwind] at h
 | .blk i :: k, k', h, hd => by
  simp only [unwind] at h
  simp only [den, Exit.inBlock]
  cases hb : Nat.beq id i with
  | true =>
   rw [hb, cond_true] at h
   obtain rfl := Option.some.inj h
   rw [if_pos (Nat.eq_of_beq_eq_true hb)]
   exact hd
  | false =>
   rw [hb, cond_false] at h
   rw [if_neg (fun e => by rw [e, Nat.beq_refl] at hb; cases hb)]
   exact den_exit h hd
 | .code c :: k, k', h, hd => by
  simp only [unwind] at h
  exact den_exit (k := k) h hd
 | .hook N :: k, k', h, hd => by
  simp only [unwind] at h
  exact den_exit (k := k) h hd
 | .again n c :: k, k', h, hd => by
  simp only [unwind] at h
  exact den_exit (k := k) h hd
 | .scp :: k, k', h, hd => by
  simp only [unwind] at h
  exact den_exit (k := k) h hd
theorem den_ret {a : Act} {w : World} : ∀ {k : List K}, fin .ret a w → den F mm P fin k .ret a w
 | [], h => h
 | .blk _ :: k, h => den_ret (k := k) h
 | .code _ :: k, h => den_ret (k := k) h
 | .hook _ :: k, h => den_ret (k := k) h
 | .again _ _ :: k, h => den_ret (k := k) h
 | .scp :: k, h => den_ret (k := k) h
def ctl (m : Nat) (st : St) : Option (Nat × St) :=
 match st.k with
 | [] => none
 | .hook _ :: _ => none
 | .again n c :: k => match n with
  | 0 => none
  | n + 1 => some (m, { st with k := .code c :: .again n c :: k })
 | .blk _ :: k => some (m, { st with k })
 | .scp :: k => some (m, { st with k })
 | .code c :: k => match c with
  | .skip => some (m, { st with k })
  | .label _ => some (m, { st with k })
  | .seq x y => some (m, { st with k := .code x :: .code y :: k })
  | .block id c => some (m, { st with k := .code c :: .blk id :: k })
  | .scope c => some (m, { st with k := .code c :: .scp :: k })
  | .region _ ops false => some (m, { st with k, ops, l := ops.toList })
  | .exit id => match unwind id k with
   | some k' => some (m, { st with k := k' })
   | none => none
  | .cond c x y => match m with
   | 0 => none
   | m + 1 => match st.t.ev? c with
    | some (.bool true) => some (m, { st with k := .code x :: k })
    | some (.bool false) => some (m, { st with k := .code y :: k })
    | _ => none
  | _ => none
theorem ctl_ok {m m' : Nat} {st st' : St} (hl : st.l = []) (h : ctl m st = some (m', st')) (g : Goal F mm P fin w0 bs st') : Goal F mm P fin w0 bs st := by
 refine ⟨fun hF a w hr hw => ?_⟩
 obtain ⟨n, ds, ops, l, k, t, hp⟩ := st
 simp only at hl hr hw
 subst hl
 show den F mm P fin k .normal a w
 unfold ctl at h
 simp only at h
 split at h
 ·cases h
 ·cases h
 ·rename_i n' c k2
  split at h
  ·cases h
  simp only [Option.some.injEq, Prod.mk.injEq] at h
  obtain ⟨_, rfl⟩ := h
  exact g.out hF a w hr hw
 ·rename_i id k2
  simp only [Option.some.injEq, Prod.mk.injEq] at h
  obtain ⟨_, rfl⟩ := h
  exact g.out hF a w hr hw
 ·rename_i k2
  simp only [Option.some.injEq, Prod.mk.injEq] at h
  obtain ⟨_, rfl⟩ := h
  exact g.out hF a w hr hw
 rename_i c k2
 show c.wpIn F mm P (den F mm P fin k2) a w
 split at h
 ·simp only [Option.some.injEq, Prod.mk.injEq] at h; obtain ⟨_, rfl⟩ := h; exact wpIn_skip (g.out hF a w hr hw)
 ·simp only [Option.some.injEq, Prod.mk.injEq] at h; obtain ⟨_, rfl⟩ := h; exact wpIn_label (g.out hF a w hr hw)
 ·simp only [Option.some.injEq, Prod.mk.injEq] at h; obtain ⟨_, rfl⟩ := h; exact wpIn_seq (g.out hF a w hr hw)
 ·simp only [Option.some.injEq, Prod.mk.injEq] at h; obtain ⟨_, rfl⟩ := h; exact wpIn_block (g.out hF a w hr hw)
 ·simp only [Option.some.injEq, Prod.mk.injEq] at h; obtain ⟨_, rfl⟩ := h; exact wpIn_scope (g.out hF a w hr hw)
 ·simp only [Option.some.injEq, Prod.mk.injEq] at h; obtain ⟨_, rfl⟩ := h; exact wpIn_region_list (g.out hF a w hr hw)
 ·split at h
  ·rename_i k' hu
   simp only [Option.some.injEq, Prod.mk.injEq] at h; obtain ⟨_, rfl⟩ := h
   exact wpIn_exit (den_exit hu (g.out hF a w hr hw))
  cases h
 ·split at h
  ·cases h
  split at h
  ·rename_i hv
   simp only [Option.some.injEq, Prod.mk.injEq] at h; obtain ⟨_, rfl⟩ := h
   exact wpIn_cond_true (hr.ev hv) (g.out hF a w hr hw)
  ·rename_i hv
   simp only [Option.some.injEq, Prod.mk.injEq] at h; obtain ⟨_, rfl⟩ := h
   exact wpIn_cond_false (hr.ev hv) (g.out hF a w hr hw)
  cases h
 cases h
def op1 (P : Program) (hs : List Nat) (m : Nat) (st : St) : Option (List Nat × Nat × St × List (Nat × Nat)) :=
 match st.l with
 | [] => none
 | o :: rest =>
  match o.guard.isSome, m with
  | true, 0 => none
  | gd, _ => match wanted? st.ops st.t o with
   | none => none
   | some false => some (hs, (bif gd then m - 1 else m), { st with l := rest, t := st.t.put st.n o.dst undef }, [])
   | some true => match opSem st.t o with
    | none => none
    | some s => match runW P s st.hp hs with
     | some (.value v, hp, hs', e) => some (hs', (bif gd then m - 1 else m), { st with l := rest, t := st.t.put st.n o.dst v, hp }, e)
     | some (.skip, hp, hs', e) => some (hs', (bif gd then m - 1 else m), { st with l := rest, t := st.t.put st.n o.dst undef, hp }, e)
     | _ => none
theorem op1_ok {hs hs' : List Nat} {m m' : Nat} {st st' : St} {e : List (Nat × Nat)} (h : op1 P hs m st = some (hs', m', st', e)) (he : AllEq e) (g : Goal F mm P fin w0 bs st') : Goal F mm P fin w0 bs st := by
 refine ⟨fun hF a w hr hw => ?_⟩
 obtain ⟨n, ds, ops, l, k, t, hp⟩ := st
 unfold op1 at h
 simp only at h hr hw ⊢
 cases l with
 | nil => cases h
 | cons o rest =>
  simp only at h
  have key : ∀ gd : Bool, (match wanted? ops t o with
   | none => none
   | some false => some (hs, (bif gd then m - 1 else m), { n, ds, ops, l := rest, k, t := t.put n o.dst undef, hp }, [])
   | some true => match opSem t o with
    | none => none
    | some s => match runW P s hp hs with
     | some (.value v, hp, hs', e) => some (hs', (bif gd then m - 1 else m), { n, ds, ops, l := rest, k, t := t.put n o.dst v, hp }, e)
     | some (.skip, hp, hs', e) => some (hs', (bif gd then m - 1 else m), { n, ds, ops, l := rest, k, t := t.put n o.dst undef, hp }, e)
     | _ => none) = some (hs', m', st', e) → wpListIn F mm P ops (den F mm P fin k) (o :: rest) a w := by
   intro gd h
   split at h
   ·cases h
   ·rename_i hwn
    simp only [Option.some.injEq, Prod.mk.injEq] at h
    obtain ⟨_, _, rfl, _⟩ := h
    unfold wpListIn
    rw [hr.wanted hwn, if_neg (by simp)]
    exact ⟨fun f _ => hF.fn f, g.out hF _ _ (hr.put _ _) hw⟩
   rename_i hwn
   split at h
   ·cases h
   rename_i s hs1
   have hx := hr.opSem hs1
   split at h
   ·rename_i v hp2 hs2 e2 hrun
    simp only [Option.some.injEq, Prod.mk.injEq] at h
    obtain ⟨_, _, rfl, rfl⟩ := h
    obtain ⟨w', h1, h2⟩ := runW_run hw hrun he
    unfold wpListIn
    rw [hr.wanted hwn, if_pos rfl]
    refine ⟨fun f _ => hF.fn f, ?_⟩
    rw [Oper.semAt_eq _ _ _ (noDefer (opSem_noSel hs1)), hx, h1]
    exact g.out hF _ _ (hr.put _ _) h2
   ·rename_i hp2 hs2 e2 hrun
    simp only [Option.some.injEq, Prod.mk.injEq] at h
    obtain ⟨_, _, rfl, rfl⟩ := h
    obtain ⟨w', h1, h2⟩ := runW_run hw hrun he
    unfold wpListIn
    rw [hr.wanted hwn, if_pos rfl]
    refine ⟨fun f _ => hF.fn f, ?_⟩
    rw [Oper.semAt_eq _ _ _ (noDefer (opSem_noSel hs1)), hx, h1]
    exact g.out hF _ _ (hr.put _ _) h2
   cases h
  split at h
  ·cases h
  exact key _ h
def stopAt (u : Nat) (o : Oper) : Bool := match o.dst with
 | some d => Nat.beq d u
 | none => false
def exec (P : Program) (u : Nat) : Nat → List Nat → Nat → St → St × List (Nat × Nat)
 | 0, _, _, st => (st, [])
 | f + 1, hs, m, st => match st.l with
  | [] => match ctl m st with
   | some (m', st') => exec P u f hs m' st'
   | none => (st, [])
  | o :: _ => bif stopAt u o then (st, []) else match op1 P hs m st with
   | some (hs', m', st', e) => ((exec P u f hs' m' st').1, e ++ (exec P u f hs' m' st').2)
   | none => (st, [])
theorem exec_ok (u : Nat) : ∀ (f : Nat) (hs : List Nat) (m : Nat) (st : St), AllEq (exec P u f hs m st).2 → Goal F mm P fin w0 bs (exec P u f hs m st).1 → Goal F mm P fin w0 bs st
 | 0, _, _, _, _, g => g
 | f + 1, hs, m, st, he, g => by
  simp only [exec] at he g
  split at g
  ·rename_i hl
   rw [hl] at he
   simp only at he
   split at g
   ·rename_i m' st' hc
    rw [hc] at he
    exact ctl_ok hl hc (exec_ok u f hs m' st' he g)
   exact g
  rename_i o r hl
  rw [hl] at he
  simp only at he
  cases hst : stopAt u o with
  | true => rw [hst] at g; exact g
  | false =>
   rw [hst, cond_false] at he g
   split at g
   ·rename_i hs' m' st' e hc
    rw [hc] at he
    obtain ⟨h1, h2⟩ := AllEq.append he
    exact op1_ok hc h1 (exec_ok u f hs' m' st' h2 g)
   exact g
def enterSt (n : Nat) (c : Code) (args : List Value) (hp : List HE) : St :=
 ⟨n, [], #[], [], [.code c], (args.zipIdx.foldl (fun t (v, i) => t.set i (some v)) Tr.nil), hp⟩
end
theorem fold_get : ∀ (l : List Value) (k : Nat) (t : Tr) (i : Nat) (v : Value), ((l.zipIdx k).foldl (fun t (x : Value × Nat) => t.set x.2 (some x.1)) t).get i = some v → (i < k ∧ t.get i = some v) ∨ (k ≤ i ∧ l[i - k]? = some v) ∨ (k + l.length ≤ i ∧ t.get i = some v)
 | [], k, t, i, v, h => by
  simp only [List.zipIdx_nil, List.foldl_nil] at h
  rcases Nat.lt_or_ge i k with h1 | h1
  ·exact .inl ⟨h1, h⟩
  exact .inr (.inr ⟨by simpa using h1, h⟩)
 | x :: l, k, t, i, v, h => by
  simp only [List.zipIdx_cons, List.foldl_cons] at h
  rcases fold_get l (k + 1) _ i v h with ⟨h1, h2⟩ | ⟨h1, h2⟩ | ⟨h1, h2⟩
  ·rw [Tr.get_set] at h2
   by_cases e : i = k
   ·subst e
    rw [if_pos rfl] at h2
    exact .inr (.inl ⟨Nat.le_refl _, by simpa using h2⟩)
   rw [if_neg e] at h2
   exact .inl ⟨by omega, h2⟩
  ·refine .inr (.inl ⟨by omega, ?_⟩)
   rw [show i - k = (i - (k + 1)) + 1 by omega]
   simpa using h2
  rw [Tr.get_set, if_neg (by omega)] at h2
  exact .inr (.inr ⟨by simp; omega, h2⟩)
theorem g_enter {P : Program} {f : FuncId} {fn : Func} {c : Code} {args : List Value} {n : Nat} {w : World} {R : Ending → World → Prop} (bs : List Nat) (hp : List HE)
  (hf : P.funcs[f]? = some fn) (hb : fn.body = some c) (hn : fn.ntmps = n) (hle : args.length ≤ n) (hs : Sat w bs hp w)
  (g : Goal Fence.wide 0 P (bodyPost P fn R) w bs (enterSt n c args hp)) : Calls P f args.toArray w R := by
 refine callsIn_wide (n := 0).1 (callsIn_of_wp hf hb trivial ?_)
 refine g.out (.inl rfl) _ w ⟨?_, rfl, fun i v hv => ?_⟩ hs
 ·simp [enterSt, hn]; omega
 simp only [enterSt] at hv
 rcases fold_get args 0 Tr.nil i v hv with ⟨_, h⟩ | ⟨_, h⟩ | ⟨_, h⟩
 ·simp [Tr.get] at h
 ·simp only [Nat.sub_zero] at h
  have hlt : i < args.length := by
   rcases Nat.lt_or_ge i args.length with h1 | h1
   ·exact h1
   rw [List.getElem?_eq_none h1] at h; cases h
  rw [Array.getElem?_append_left (by simpa using hlt)]
  simpa using h
 simp [Tr.get] at h
section
variable {F : Fence} {mm : Nat} {P : Program} {fn : Func} {R : Ending → World → Prop} {fin : Fin} {w0 : World} {bs : List Nat} {st : St}
theorem g_run (u : Nat) (hs : List Nat) (m : Nat) (he : (exec P u 999 hs m st).2.map Prod.fst = (exec P u 999 hs m st).2.map Prod.snd)
  (g : Goal F mm P fin w0 bs (exec P u 999 hs m st).1) : Goal F mm P fin w0 bs st :=
 exec_ok u 999 hs m st (AllEq.of_map he) g
def St.slot (st : St) (d : Nat) (v : Value) : St := { st with t := st.t.set d (some v) }
theorem g_rw (d : Nat) (v v' : Value) (h : st.t.get d = some v) (e : v = v') (g : Goal F mm P fin w0 bs (st.slot d v')) : Goal F mm P fin w0 bs st := by
 refine ⟨fun hF a w hr hw => ?_⟩
 refine g.out hF a w ⟨hr.size, hr.defers, fun i u hu => ?_⟩ hw
 simp only [St.slot, Tr.get_set] at hu
 by_cases h1 : i = d
 ·subst h1
  rw [if_pos rfl] at hu
  rw [← hu, ← e]
  exact hr.at_ i v h
 rw [if_neg h1] at hu
 exact hr.at_ i u hu
theorem g_dec (d : Nat) (b : Bool) (h : st.t.get d = some (.bool b)) (ht : b = true → Goal F mm P fin w0 bs (st.slot d (.bool true))) (hf : b = false → Goal F mm P fin w0 bs (st.slot d (.bool false))) : Goal F mm P fin w0 bs st := by
 cases hb : b with
 | true => exact g_rw d _ _ h (congrArg Value.bool hb) (ht hb)
 | false => exact g_rw d _ _ h (congrArg Value.bool hb) (hf hb)
def toNew {α : Type} (p : Program) : Sem α → Option (List Value × TypeId × (Nat → Sem α))
 | .program k => toNew p (k p)
 | .mark _ k => toNew p k
 | .new (.cells c T fr) k => match fr with
  | (0, 0) => some (c.toList, T, k)
  | _ => none
 | _ => none
theorem toNew_run {α : Type} {p : Program} {w : World} : ∀ {s : Sem α} {c : List Value} {T : TypeId} {k : Nat → Sem α}, toNew p s = some (c, T, k) → s.run p w = (k w.heap.size).run p { w with heap := w.heap.push (.cells c.toArray T (0, 0)) }
 | .program k, c, T, k', h => by
  simp only [toNew] at h
  exact toNew_run (s := k p) h
 | .mark _ k, c, T, k', h => by
  simp only [toNew] at h
  exact toNew_run (s := k) h
 | .new o k, c, T, k', h => by
  cases o <;> simp only [toNew] at h <;> try cases h
  rename_i cs T' fr
  split at h
  ·simp only [Option.some.injEq, Prod.mk.injEq] at h
   obtain ⟨rfl, rfl, rfl⟩ := h
   simp [Sem.run]
  cases h
 | .pure .., _, _, _, h | .load .., _, _, _, h | .store .., _, _, _, h | .shape .., _, _, _, h | .frozen .., _, _, _, h | .freeze .., _, _, _, h | .getObj .., _, _, _, h | .setObj .., _, _, _, h | .choose .., _, _, _, h | .sys .., _, _, _, h | .halt .., _, _, _, h => by
  simp [toNew] at h
def newSt (P : Program) (st : St) (b : Nat) : Option St :=
 match st.l with
 | [] => none
 | o :: rest => match wanted? st.ops st.t o with
  | some true => match opSem st.t o with
   | none => none
   | some s => match toNew P s with
    | none => none
    | some (c, T, k) => match runQ P (k b) with
     | some (.value v) => some { st with l := rest, t := st.t.put st.n o.dst v, hp := st.hp ++ [.obj true b c T] }
     | _ => none
  | _ => none
def St.dead : St := ⟨0, [], #[], [], [], .nil, []⟩
def newSt! (P : Program) (st : St) (b : Nat) : St := (newSt P st b).getD St.dead
theorem g_new (h : ∀ b, (newSt P st b).isSome = true) (g : ∀ b, w0.heap.size ≤ b → Goal F mm P fin w0 bs (newSt! P st b)) : Goal F mm P fin w0 bs st := by
 refine ⟨fun hF a w hr hw => ?_⟩
 have h1 := h w.heap.size
 have g1 := g w.heap.size hw.kept.size
 unfold newSt! at g1
 obtain ⟨st', hst⟩ := Option.isSome_iff_exists.1 h1
 rw [hst] at g1
 simp only [Option.getD_some] at g1
 obtain ⟨n, ds, ops, l, k, t, hp⟩ := st
 unfold newSt at hst
 simp only at hst hr hw ⊢
 cases l with
 | nil => cases hst
 | cons o rest =>
  simp only at hst
  split at hst
  ·rename_i hwn
   split at hst
   ·cases hst
   rename_i s hs1
   split at hst
   ·cases hst
   rename_i c T k' hn
   split at hst
   ·rename_i v hv
    simp only [Option.some.injEq] at hst
    subst hst
    unfold wpListIn
    rw [hr.wanted hwn, if_pos rfl]
    refine ⟨fun f _ => hF.fn f, ?_⟩
    rw [Oper.semAt_eq _ _ _ (noDefer (opSem_noSel hs1)), hr.opSem hs1, toNew_run hn, runQ_run hv]
    exact g1.out hF _ _ (hr.put _ _) (hw.alloc c T)
   cases hst
  cases hst
def callOf (P : Program) (st : St) : Option (FuncId × Array Value) :=
 match st.l with
 | [] => none
 | o :: _ => match wanted? st.ops st.t o with
  | some true => match opSem st.t o with
   | none => none
   | some s => match runQ P s with
    | some (.enter f args) => some (f, args)
    | _ => none
  | _ => none
def retSt (st : St) (v : Value) (hp : List HE) : St :=
 match st.l with
 | [] => st
 | o :: rest => { st with l := rest, t := st.t.put st.n o.dst v, hp }
theorem g_call {X : Type} (fc : FuncId) (args : Array Value) (h : callOf P st = some (fc, args)) (val : X → Value) (hp' : X → List HE)
  (C : ∀ w, Sat w0 bs st.hp w → Calls P fc args w fun e w' => ∃ x, e = .returned (val x) ∧ Sat w0 bs (hp' x) w')
  (g : ∀ x, Goal F mm P fin w0 bs (retSt st (val x) (hp' x))) : Goal F mm P fin w0 bs st := by
 refine ⟨fun hF a w hr hw => ?_⟩
 have hC := C w hw
 obtain ⟨n, ds, ops, l, k, t, hp⟩ := st
 unfold callOf at h
 simp only at h hr hw ⊢
 cases l with
 | nil => cases h
 | cons o rest =>
  simp only at h
  split at h
  ·rename_i hwn
   split at h
   ·cases h
   rename_i s hs1
   split at h
   ·rename_i f' args' hq
    simp only [Option.some.injEq, Prod.mk.injEq] at h
    obtain ⟨rfl, rfl⟩ := h
    unfold wpListIn
    rw [hr.wanted hwn, if_pos rfl]
    refine ⟨fun f _ => hF.fn f, ?_⟩
    rw [Oper.semAt_eq _ _ _ (noDefer (opSem_noSel hs1)), hr.opSem hs1, runQ_run hq]
    refine ⟨fun h => hF.depth h, hF.calls (hC.mono ?_)⟩
    rintro e w' ⟨x, rfl, hw'⟩
    exact (g x).out hF _ _ (hr.put _ _) hw'
   cases h
  cases h
theorem g_callq (fc : FuncId) (args : Array Value) (v : Value) (h : callOf P st = some (fc, args))
  (C : ∀ w, Sat w0 bs st.hp w → Calls P fc args w fun e w' => e = .returned v ∧ Kept w w')
  (g : Goal F mm P fin w0 bs (retSt st v st.hp)) : Goal F mm P fin w0 bs st :=
 g_call (X := Unit) fc args h (fun _ => v) (fun _ => st.hp) (fun w hw => (C w hw).mono fun _ _ ⟨he, hk⟩ => ⟨(), he, hw.of_kept hk⟩) (fun _ => g)
def resSem (fn : Func) (t : Tr) : Sem Value := do
 let vs ← fn.results.mapM fun
  | .tmp i => pure (t.ev (.tmp i))
  | .cell i T => do loadVar T (← asAddr (t.ev (.tmp i)))
 pure (if h : vs.size = 1 then vs[0] else .tuple vs)
def resKnown (fn : Func) (t : Tr) : Bool := fn.results.toList.all fun
 | .tmp i => (t.get i).isSome
 | .cell i _ => (t.get i).isSome
def atEnd : List K → Bool
 | [] => true
 | .code .ret :: _ => true
 | _ => false
theorem den_end {F : Fence} {mm : Nat} {P : Program} {fin : Fin} {k : List K} {a : Act} {w : World} (h : atEnd k = true) (hn : fin .normal a w) (hr : fin .ret a w) : den F mm P fin k .normal a w := by
 unfold atEnd at h
 split at h
 ·exact hn
 ·exact wpIn_ret (den_ret hr)
 cases h
def resRun (P : Program) (fn : Func) (hs : List Nat) (st : St) : Option (Value × List (Nat × Nat)) :=
 match st.l with
 | [] => bif atEnd st.k then (bif resKnown fn st.t then match runR P st.hp (resSem fn st.t) hs with
  | some (v, _, e) => some (v, e)
  | none => none
  else none) else none
 | _ => none
theorem mapM_congr_list {α β : Type} {f g : α → Sem β} : ∀ {l : List α}, (∀ x ∈ l, f x = g x) → l.mapM f = l.mapM g
 | [], _ => rfl
 | x :: l, h => by
  rw [List.mapM_cons, List.mapM_cons, h x (by simp), mapM_congr_list (l := l) (fun y hy => h y (by simp [hy]))]
instance : LawfulMonad Sem := LawfulMonad.mk'
 (id_map := fun x => by
  show Sem.bind x (fun a => Sem.pure a) = x
  induction x with
  | pure a => rfl
  | load m a k ih => simp only [Sem.bind]; congr; funext v; exact ih v
  | store m a v k ih => simp only [Sem.bind]; congr
  | new o k ih => simp only [Sem.bind]; congr; funext v; exact ih v
  | shape r k ih => simp only [Sem.bind]; congr; funext v; exact ih v
  | freeze a n k ih => simp only [Sem.bind]; congr
  | frozen a k ih => simp only [Sem.bind]; congr; funext v; exact ih v
  | getObj r k ih => simp only [Sem.bind]; congr; funext v; exact ih v
  | setObj r o k ih => simp only [Sem.bind]; congr
  | choose q k ih => simp only [Sem.bind]; congr; funext v; exact ih v
  | sys c k ih => simp only [Sem.bind]; congr; funext v; exact ih v
  | program k ih => simp only [Sem.bind]; congr; funext v; exact ih v
  | mark m k ih => simp only [Sem.bind]; congr
  | halt h => rfl)
 (pure_bind := fun _ _ => rfl)
 (bind_assoc := fun x f g => by
  show Sem.bind (Sem.bind x f) g = Sem.bind x (fun a => Sem.bind (f a) g)
  induction x with
  | pure a => rfl
  | load m a k ih => simp only [Sem.bind]; congr; funext v; exact ih v
  | store m a v k ih => simp only [Sem.bind]; congr
  | new o k ih => simp only [Sem.bind]; congr; funext v; exact ih v
  | shape r k ih => simp only [Sem.bind]; congr; funext v; exact ih v
  | freeze a n k ih => simp only [Sem.bind]; congr
  | frozen a k ih => simp only [Sem.bind]; congr; funext v; exact ih v
  | getObj r k ih => simp only [Sem.bind]; congr; funext v; exact ih v
  | setObj r o k ih => simp only [Sem.bind]; congr
  | choose q k ih => simp only [Sem.bind]; congr; funext v; exact ih v
  | sys c k ih => simp only [Sem.bind]; congr; funext v; exact ih v
  | program k ih => simp only [Sem.bind]; congr; funext v; exact ih v
  | mark m k ih => simp only [Sem.bind]; congr
  | halt h => rfl)
theorem resSem_eq {n : Nat} {ds : List Deferred} {a : Act} {t : Tr} (hr : Rep n ds a t) (hk : resKnown fn t = true) : results fn a.tmps = resSem fn t := by
 unfold results resSem
 have h2 : ∀ i, (t.get i).isSome = true → a.tmps.getD i undef = t.ev (.tmp i) := fun i hi => by
  obtain ⟨v, hv⟩ := Option.isSome_iff_exists.1 hi
  have := hr.ev (x := .tmp i) hv
  simp only [Act.eval] at this
  rw [this]
  simp [Tr.ev, Tr.ev?, hv]
 refine congrArg (fun x : Sem (Array Value) => x >>= fun vs => pure (if h : vs.size = 1 then vs[0] else .tuple vs)) ?_
 rw [Array.mapM_eq_mapM_toList, Array.mapM_eq_mapM_toList]
 refine congrArg (fun x : Sem (List Value) => List.toArray <$> x) ?_
 refine mapM_congr_list fun x hx => ?_
 have h1 := List.all_eq_true.1 hk x hx
 cases x with
 | tmp i => simp only at h1 ⊢; rw [h2 i h1]
 | cell i T => simp only at h1 ⊢; rw [h2 i h1]
theorem g_ret (hs : List Nat) (v : Value) (h : (resRun P fn hs st).map Prod.fst = some v) (he : (resRun P fn hs st).map (fun x => x.2.map Prod.fst) = (resRun P fn hs st).map (fun x => x.2.map Prod.snd))
  (hds : st.ds = []) (hR : ∀ w, Sat w0 bs st.hp w → R (.returned v) w) : Goal F mm P (bodyPost P fn R) w0 bs st := by
 refine ⟨fun hF a w hr hw => ?_⟩
 obtain ⟨n, ds, ops, l, k, t, hp⟩ := st
 obtain ⟨⟨v', e⟩, hx, hv⟩ := Option.map_eq_some_iff.1 h
 simp only at hv
 subst hv
 rw [hx] at he
 simp only [Option.map_some, Option.some.injEq] at he
 unfold resRun at hx
 simp only at hx hr hw hR hds ⊢
 cases l with
 | cons => cases hx
 | nil =>
  simp only at hx
  cases he1 : atEnd k with
  | false => rw [he1] at hx; cases hx
  | true =>
   rw [he1, cond_true] at hx
   cases hk : resKnown fn t with
   | false => rw [hk] at hx; cases hx
   | true =>
    rw [hk, cond_true] at hx
    split at hx
    ·rename_i v2 hs' e' hrun
     simp only [Option.some.injEq, Prod.mk.injEq] at hx
     obtain ⟨rfl, rfl⟩ := hx
     have hp : a.defers = [] ∧ ∃ v, (results fn a.tmps).run P w = .ok v w ∧ R (.returned v) w :=
      ⟨hr.defers.trans hds, v2, by rw [resSem_eq hr hk]; exact runR_run hw hrun (AllEq.of_map he), hR w hw⟩
     exact den_end he1 hp hp
    cases hx
def dsts : Code → List Nat
 | .region _ ops _ => ops.toList.filterMap (·.dst)
 | .seq a b => dsts a ++ dsts b
 | .cond _ a b => dsts a ++ dsts b
 | .block _ c => dsts c
 | .loop c => dsts c
 | .scope c => dsts c
 | _ => []
def forget (t : Tr) : List Nat → Tr
 | [] => t
 | d :: l => forget (t.set d none) l
def sets (t : Tr) : List (Nat × Value) → Tr
 | [] => t
 | (d, v) :: l => sets (t.set d (some v)) l
theorem Rep.forgets {n : Nat} {ds : List Deferred} {a : Act} : ∀ {l : List Nat} {t : Tr}, Rep n ds a t → Rep n ds a (Go.Proofs.Ytcncfmjfgdbfeab.forget t l)
 | [], _, h => h
 | d :: l, _, h => Rep.forgets (l := l) (h.forget d)
theorem Rep.sets {n : Nat} {ds : List Deferred} {a : Act} : ∀ {l : List (Nat × Value)} {t : Tr}, Rep n ds a t → (∀ p ∈ l, a.tmps[p.1]? = some p.2) → Rep n ds a (Go.Proofs.Ytcncfmjfgdbfeab.sets t l)
 | [], _, h, _ => h
 | (d, v) :: l, t, h, hl => by
  refine Rep.sets (l := l) ⟨h.size, h.defers, fun i u hu => ?_⟩ (fun p hp => hl p (by simp [hp]))
  rw [Tr.get_set] at hu
  by_cases e : i = d
  ·subst e
   rw [if_pos rfl] at hu
   rw [← hu]
   exact hl (i, v) (by simp)
  rw [if_neg e] at hu
  exact h.at_ i u hu
def loopOf (st : St) : Option (Code × List K) :=
 match st.l, st.k with
 | [], .code (.loop c) :: k => some (c, k)
 | _, _ => none
def loopBody (st : St) : Code := match loopOf st with | some (c, _) => c | none => .skip
def loopRest (st : St) : List K := match loopOf st with | some (_, k) => k | none => []
theorem loopOf_shape {st : St} {c : Code} {k : List K} (h : loopOf st = some (c, k)) : st.l = [] ∧ st.k = .code (.loop c) :: k := by
 unfold loopOf at h
 split at h
 ·rename_i h1 h2
  simp only [Option.some.injEq, Prod.mk.injEq] at h
  obtain ⟨rfl, rfl⟩ := h
  exact ⟨h1, h2⟩
 cases h
theorem exists_least {p : Nat → Prop} : ∀ n, p n → ∃ m, p m ∧ ∀ k, p k → m ≤ k := by
 intro n
 induction n using Nat.strongRecOn with
 | _ n ih =>
  intro h
  by_cases h1 : ∃ m, m < n ∧ p m
  ·obtain ⟨m, hm, hp⟩ := h1
   exact ih m hm hp
  refine ⟨n, h, fun k hk => ?_⟩
  rcases Nat.lt_or_ge k n with h2 | h2
  ·exact absurd ⟨k, h2, hk⟩ h1
  exact h2
open Classical in
noncomputable def least (p : Nat → Prop) : Nat := if h : ∃ m, p m ∧ ∀ k, p k → m ≤ k then Classical.choose h else 0
theorem least_both {p : Nat → Prop} (h : ∃ n, p n) : p (least p) ∧ ∀ k, p k → least p ≤ k := by
 obtain ⟨n, hn⟩ := h
 have h1 := exists_least n hn
 unfold least
 rw [dif_pos h1]
 exact Classical.choose_spec h1
theorem least_spec {p : Nat → Prop} (h : ∃ n, p n) : p (least p) := (least_both h).1
theorem least_le {p : Nat → Prop} {n : Nat} (h : p n) : least p ≤ n := (least_both ⟨n, h⟩).2 n h
def unrollSt (st : St) (n : Nat) : St := { st with k := .again n (loopBody st) :: loopRest st }
theorem g_unroll (n : Nat) (h : (loopOf st).isSome = true) (g : Goal F mm P fin w0 bs (unrollSt st n)) : Goal F mm P fin w0 bs st := by
 refine ⟨fun hF a w hr hw => ?_⟩
 obtain ⟨⟨c, k⟩, hlo⟩ := Option.isSome_iff_exists.1 h
 obtain ⟨hl, hk⟩ := loopOf_shape hlo
 have hg := g.out hF a w hr hw
 simp only [unrollSt, loopBody, loopRest, hlo, hl] at hg
 rw [hl, hk]
 show (Code.loop c).wpIn F mm P (den F mm P fin k) a w
 have hu : loopU F mm P (den F mm P fin k) c n a w := hg
 refine wpIn_loop (fun a w => ∃ n, loopU F mm P (den F mm P fin k) c n a w) (fun a w => least fun n => loopU F mm P (den F mm P fin k) c n a w) ⟨n, hu⟩ ?_
 intro a1 w1 hI
 have h1 := least_spec hI
 generalize hn : least (fun n => loopU F mm P (den F mm P fin k) c n a1 w1) = n1 at h1 ⊢
 cases n1 with
 | zero => exact h1.elim
 | succ n1 =>
  refine wpIn_mono (show c.wpIn F mm P (Exit.then (loopU F mm P (den F mm P fin k) c n1) (den F mm P fin k)) a1 w1 from h1) ?_
  intro e a2 w2 hq
  cases e with
  | normal => exact ⟨⟨n1, hq⟩, Nat.lt_succ_of_le (least_le hq)⟩
  | exit id => exact hq
  | goto l => exact hq
  | ret => exact hq
  | panic ch => exact hq
  | outgrown => exact hq
def headT (st : St) (l : List (Nat × Value)) : Tr := sets (forget st.t (dsts (loopBody st))) l
def Known (t : Tr) (l : List (Nat × Value)) : Prop := l.map (fun p => t.get p.1) = l.map (fun p => some p.2)
theorem Known.at {n : Nat} {ds : List Deferred} {a : Act} {t : Tr} {l : List (Nat × Value)} (h : Known t l) (hr : Rep n ds a t) : ∀ p ∈ l, a.tmps[p.1]? = some p.2 := by
 intro p hp
 refine hr.at_ _ _ ?_
 have : ∀ (l : List (Nat × Value)), l.map (fun p => t.get p.1) = l.map (fun p => some p.2) → ∀ p ∈ l, t.get p.1 = some p.2 := by
  intro l
  induction l with
  | nil => intro _ p hp; cases hp
  | cons q l ih =>
   intro h p hp
   simp only [List.map_cons, List.cons.injEq] at h
   rcases List.mem_cons.1 hp with rfl | hp
   ·exact h.1
   exact ih h.2 p hp
 exact this l h p hp
structure Back (n : Nat) (ds : List Deferred) (w0 : World) (bs : List Nat) {X : Type} (T : X → Tr) (H : X → List HE) (μ : X → Nat) (x : X) (a : Act) (w : World) : Prop where
 out : ∃ y, μ y < μ x ∧ Rep n ds a (T y) ∧ Sat w0 bs (H y) w
def roundSt (st : St) (T : Tr) (H : List HE) (N : Act → World → Prop) : St :=
 ⟨st.n, st.ds, #[], [], .code (loopBody st) :: .hook N :: loopRest st, T, H⟩
theorem g_loop {X : Type} (live : X → List (Nat × Value)) (H : X → List HE) (μ : X → Nat) (x0 : X) (h : (loopOf st).isSome = true)
  (hk : Known st.t (live x0)) (hh : H x0 = st.hp)
  (g : ∀ x, Goal F mm P fin w0 bs (roundSt st (headT st (live x)) (H x) (Back st.n st.ds w0 bs (fun y => headT st (live y)) H μ x))) : Goal F mm P fin w0 bs st := by
 refine ⟨fun hF a w hr hw => ?_⟩
 obtain ⟨⟨c, k⟩, hlo⟩ := Option.isSome_iff_exists.1 h
 have hb : loopBody st = c := by simp [loopBody, hlo]
 have hrest : loopRest st = k := by simp [loopRest, hlo]
 have hshape : st.l = [] ∧ st.k = .code (.loop c) :: k := by
  unfold loopOf at hlo
  split at hlo
  ·rename_i h1 h2
   simp only [Option.some.injEq, Prod.mk.injEq] at hlo
   obtain ⟨rfl, rfl⟩ := hlo
   exact ⟨h1, h2⟩
  cases hlo
 rw [hshape.1, hshape.2]
 show (Code.loop c).wpIn F mm P (den F mm P fin k) a w
 have h0 : Rep st.n st.ds a (headT st (live x0)) ∧ Sat w0 bs (H x0) w :=
  ⟨Rep.sets (Rep.forgets hr) (hk.at hr), hh ▸ hw⟩
 let S : Act → World → Nat → Prop := fun a w n => ∃ x, μ x = n ∧ Rep st.n st.ds a (headT st (live x)) ∧ Sat w0 bs (H x) w
 refine wpIn_loop (fun a w => ∃ n, S a w n) (fun a w => least (S a w)) ⟨_, x0, rfl, h0⟩ ?_
 intro a1 w1 hI
 obtain ⟨x, hx, hrx, hwx⟩ := least_spec hI
 have hg := (g x).out hF a1 w1 hrx hwx
 simp only [roundSt, hb, hrest] at hg
 refine wpIn_mono (show c.wpIn F mm P (Exit.then (Back st.n st.ds w0 bs (fun y => headT st (live y)) H μ x) (den F mm P fin k)) a1 w1 from hg) ?_
 intro e a2 w2 hq
 cases e with
 | normal =>
  obtain ⟨⟨y, hlt, hry, hwy⟩⟩ := hq
  have hS : S a2 w2 (μ y) := ⟨y, rfl, hry, hwy⟩
  exact ⟨⟨_, hS⟩, Nat.lt_of_le_of_lt (least_le hS) (hx ▸ hlt)⟩
 | exit id => exact hq
 | goto l => exact hq
 | ret => exact hq
 | panic ch => exact hq
 | outgrown => exact hq
def hookN (st : St) : Bool := match st.l, st.k with
 | [], .hook _ :: _ => true
 | _, _ => false
theorem g_back {X : Type} {n : Nat} {ds : List Deferred} {k : List K} {live : X → List (Nat × Value)} {st0 : St} {H : X → List HE} {μ : X → Nat} {x : X} (y : X) (hμ : μ y < μ x)
  (hk0 : st.l = []) (hk : st.k = .hook (Back n ds w0 bs (fun z => headT st0 (live z)) H μ x) :: k) (hn : st.n = n) (hd : st.ds = ds)
  (hl : Known st.t (live y)) (ht : forget st.t (dsts (loopBody st0)) = forget (headT st0 (live x)) (dsts (loopBody st0)))
  (ht0 : ∀ z, headT st0 (live z) = sets (forget (headT st0 (live x)) (dsts (loopBody st0))) (live z))
  (hh : H y = st.hp) : Goal F mm P fin w0 bs st := by
 refine ⟨fun hF a w hr hw => ?_⟩
 rw [hk0, hk]
 show Back n ds w0 bs (fun z => headT st0 (live z)) H μ x a w
 refine ⟨y, hμ, ?_, hh ▸ hw⟩
 rw [ht0 y, ← ht, ← hn, ← hd]
 exact Rep.sets (Rep.forgets hr) (hl.at hr)
def headSem (st : St) : Option (Sem Next) :=
 match st.l with
 | [] => none
 | o :: _ => match wanted? st.ops st.t o with
  | some true => opSem st.t o
  | _ => none
theorem g_val (s : Sem Next) (v : Value) (h : headSem st = some s) (hv : ∀ w, Sat w0 bs st.hp w → s.run P w = .ok (.value v) w)
  (g : Goal F mm P fin w0 bs (retSt st v st.hp)) : Goal F mm P fin w0 bs st := by
 refine ⟨fun hF a w hr hw => ?_⟩
 obtain ⟨n, ds, ops, l, k, t, hp⟩ := st
 unfold headSem at h
 simp only at h hr hw ⊢
 cases l with
 | nil => cases h
 | cons o rest =>
  simp only at h
  split at h
  ·rename_i hwn
   unfold wpListIn
   rw [hr.wanted hwn, if_pos rfl]
   refine ⟨fun f _ => hF.fn f, ?_⟩
   rw [Oper.semAt_eq _ _ _ (noDefer (opSem_noSel h)), hr.opSem h, hv w hw]
   exact g.out hF _ _ (hr.put _ _) hw
  cases h
end
def cellsN (P : Program) (T : TypeId) : Option Nat := (P.info? T).map (·.size)
def eqlSem (t : TypeId) (x y : Operand) (a b : Value) : Sem Next := do
 let v ← (do eqGuard .eql t x y a b; binOp .eql t a b)
 pure (.value v)
theorem eql_run {P : Program} {t : TypeId} {x y : Operand} {a b v : Value} {w : World} (hg : runQ P (eqGuard .eql t x y a b) = some ()) (hb : (binOp .eql t a b).run P w = .ok v w) :
  (eqlSem t x y a b).run P w = .ok (.value v) w := by
 simp [eqlSem, runQ_run hg w, hb, Result.andThen]
attribute [irreducible] exec newSt! newSt retSt St.slot enterSt unrollSt callOf headSem resRun headT roundSt loopBody loopRest
end
theorem gA {F : Fence} {mm : Nat} {P : Program} {fin : Fin} {w0 : World} {bs : List Nat} {st : St} (hs : List Nat) (m : Nat) (g : Goal F mm P fin w0 bs (exec P 9999 999 hs m st).1)
    (he : (exec P 9999 999 hs m st).2.map Prod.fst = (exec P 9999 999 hs m st).2.map Prod.snd := by kernel_rfl) : Goal F mm P fin w0 bs st := g_run 9999 hs m he g
theorem gU {F : Fence} {mm : Nat} {P : Program} {fin : Fin} {w0 : World} {bs : List Nat} {st : St} (u : Nat) (hs : List Nat) (m : Nat) (g : Goal F mm P fin w0 bs (exec P u 999 hs m st).1)
    (he : (exec P u 999 hs m st).2.map Prod.fst = (exec P u 999 hs m st).2.map Prod.snd := by kernel_rfl) : Goal F mm P fin w0 bs st := g_run u hs m he g
theorem g0 {F : Fence} {mm : Nat} {P : Program} {fin : Fin} {w0 : World} {bs : List Nat} {st : St} (g : Goal F mm P fin w0 bs (exec P 9999 999 [] 0 st).1)
    (he : (exec P 9999 999 [] 0 st).2.map Prod.fst = (exec P 9999 999 [] 0 st).2.map Prod.snd := by kernel_rfl) : Goal F mm P fin w0 bs st := g_run 9999 [] 0 he g
theorem gN {F : Fence} {mm : Nat} {P : Program} {fin : Fin} {w0 : World} {bs : List Nat} {st : St} (g : ∀ b, w0.heap.size ≤ b → Goal F mm P fin w0 bs (newSt! P st b)) (h : ∀ b, (newSt P st b).isSome = true := by intro _; kernel_rfl) : Goal F mm P fin w0 bs st := g_new h g
theorem gR {F : Fence} {mm : Nat} {P : Program} {fn : Func} {R : Ending → World → Prop} {w0 : World} {bs : List Nat} {st : St} (v : Value) (hR : ∀ w, Sat w0 bs st.hp w → R (.returned v) w) (h : (resRun P fn [] st).map Prod.fst = some v := by kernel_rfl)
    (he : (resRun P fn [] st).map (fun x => x.2.map Prod.fst) = (resRun P fn [] st).map (fun x => x.2.map Prod.snd) := by kernel_rfl) (hds : st.ds = [] := by kernel_rfl) : Goal F mm P (bodyPost P fn R) w0 bs st := g_ret [] v h he hds hR
end Go.Proofs.Ytcncfmjfgdbfeab
