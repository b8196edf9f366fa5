/- Whole runs of closed calls: functions, loops, code; the theorem. -/
import Derived.Test.YtdadfhhcfmdfkaaRun4
namespace Go.Proofs.Ytdadfhhcfmdfkaa
open Go.RowKit
namespace Run

theorem loopU_loop {F : Fence} {mm : Nat} {P : Program} {Q : Fin} {c : Code} {n : Nat} {a : Act} {w : World} (hu : loopU F mm P Q c n a w) : (Code.loop c).wpIn F mm P Q a w := by
  refine wpIn_loop (fun a w => ∃ n, loopU F mm P Q c n a w) (fun a w => least fun n => loopU F mm P Q c n a w) ⟨n, hu⟩ ?_
  intro a1 w1 hI
  have h1 := least_spec hI
  generalize hn : least (fun n => loopU F mm P Q c n a1 w1) = n1 at h1 ⊢
  cases n1 with
  | zero => exact h1.elim
  | succ n1 =>
    refine wpIn_mono (show c.wpIn F mm P (Exit.then (loopU F mm P Q c n1) Q) a1 w1 from h1) ?_
    intro e a2 w2 hq
    cases e with
    | normal => exact ⟨⟨n1, hq⟩, Nat.lt_succ_of_le (least_le hq)⟩
    | exit id => exact hq
    | goto l => exact hq
    | ret => exact hq
    | panic ch => exact hq
    | outgrown => exact hq

section
variable {P : Program} {R : Rec} (S : Sound P R)
include S

theorem head_run {β : Type} {f : Fr → M β} {ops : Array Oper} {K : (Nat → Nat) → β → Mem → Prop} {w0 w : World} {hp : T ME} (hw : SatR w0 hp w) (hf : ∀ a, Good (f a)) {n : Nat} {marks : List Nat} {kont : Tr → Prop}
    (hk : ∀ t A m, m.hp = hp → Ends (f ⟨n, marks, t⟩) A m K → kont t) :
    ∀ (l : List Oper) (t : Tr) (pre : Nat → Nat) (m : Mem), m.hp = hp → Ends ((evHead P false R ops l ⟨n, marks, t⟩).bind f) pre m K → Lex P n ops (SatR w0 hp) kont l t
  | [], t, pre, m, hm, h => hk t pre m hm h
  | o :: l, t, pre, m, hm, h => by
    unfold evHead at h
    unfold Lex
    split at h
    · exact (h.bind .fail hf).fail.elim
    · rename_i hwn
      exact .inl ⟨hwn, head_run hw hf hk l _ pre m hm h⟩
    · rename_i hwn
      rw [M.bind_assoc] at h
      subst hm
      obtain ⟨s, v, A, m', h1, h2, h3, h4⟩ := quiet_run S hw (fun v => (good_head S ops l _).bind hf) h
      exact .inr ⟨hwn, s, v, h1, h2, head_run hw hf hk l _ A m' h3 h4⟩

omit S in
theorem marks_run {β : Type} {f : Unit → M β} {fn : Func} {tmps : Array Value} {Rr : Ending → World → Prop} {K : (Nat → Nat) → β → Mem → Prop} {w0 : World} (hf : ∀ a, Good (f a))
    (hk : ∀ w A m, SatR w0 m.hp w → Ends (f ()) A m K → LeavesIn Fence.wide 0 P fn tmps Rr [] .returning w) :
    ∀ (ds : List Nat) (w : World) (pre : Nat → Nat) (m : Mem), SatR w0 m.hp w → Ends ((evMarks false ds).bind f) pre m K → LeavesInM Fence.wide 0 P fn tmps Rr (ds.map markOf) .returning w
  | [], w, pre, m, hw, h => hk w pre m hw h
  | D :: ds, w, pre, m, hw, h => by
    unfold evMarks at h
    rw [M.bind_assoc] at h
    obtain ⟨j, e, m1, h1, h2, h3, h4, h5⟩ := h.loc fun x => .bind (by
      split
      · exact .bind (.putE _ _) fun _ => good_marks ds
      · exact .fail) hf
    obtain ⟨o, ho, hk1⟩ := hw.holds j e h1
    dsimp only at h5
    split at h5
    · rename_i hown he
      rw [he] at hk1
      obtain ⟨rfl, _⟩ := hk1
      rw [M.bind_assoc] at h5
      have h6 := h5.putE
      subst h2
      have hlt := (Array.getElem?_eq_some_iff.1 ho).1
      have hsat : SatR w0 (m.hp.set j ⟨true, e.b, .ob (.deferred none)⟩) (w.putObj e.b (.deferred none)) :=
        hw.upd h1 hown (.ob (.deferred none)) rfl rfl rfl (by simp) (o' := .deferred none) (World.putObj_heap_same hlt) ⟨rfl, rfl⟩ (fun q hq => World.putObj_heap_other hq)
      refine ⟨by simp, .inl ⟨e.b, _, rfl, run_takeDeferred ho, ?_⟩⟩
      exact marks_run hf hk ds _ pre _ (by dsimp only; rw [h3]; exact hsat) h6
    · exact (h5.bind .fail hf).fail.elim

theorem fn_run {f : FuncId} {args : List Value} {w0 w : World} {pre : Nat → Nat} {m : Mem} {K : (Nat → Nat) → Value → Mem → Prop} (hw : SatR w0 m.hp w) (h : Ends (evFn P false R f args) pre m K) :
    Calls P f args.toArray w fun e w' => ∃ v A m', e = .returned v ∧ SatR w0 m'.hp w' ∧ K A v m' := by
  unfold evFn at h
  split at h
  · exact h.fail.elim
  · rename_i fn hfn
    split at h
    · exact h.fail.elim
    · rename_i c hc
      cases hle : Nat.ble args.length fn.ntmps with
      | false => rw [hle] at h; exact (show Ends M.fail pre m K from h).fail.elim
      | true =>
        rw [hle, cond_true] at h
        have hle' := Nat.le_of_ble_eq_true hle
        refine callsIn_wide (n := 0).1 (callsIn_of_wp_marks hfn hc trivial ?_)
        have hg : ∀ x : Ex × Fr, Good ((match x.1 with
          | .exit _ => M.fail
          | _ => (evMarks false x.2.marks).bind fun _ => bif resKnown fn x.2.t then runL P false (resSem fn x.2.t) else M.fail : M Value)) := fun x => by
          split
          · exact .fail
          · exact .bind (good_marks _) fun _ => .cond (good_runL P _) .fail
        have h1 := S.code (rd := none) (mm := 0) (argsT_rep hle') hw (h.bind (S.gcode _ _ _) hg)
        refine wpIn_mono h1 ?_
        rintro e a' w' ⟨x, A, m', rfl, hr, hs, hK⟩
        obtain ⟨ex, fr⟩ := x
        have fin : Ends ((evMarks false fr.marks).bind fun _ => bif resKnown fn fr.t then runL P false (resSem fn fr.t) else M.fail) A m' K →
            LeavesInM Fence.wide 0 P fn a'.tmps (fun e w' => ∃ v A m', e = .returned v ∧ SatR w0 m'.hp w' ∧ K A v m') a'.defers .returning w' := fun hK => by
          rw [hr.defers]
          refine marks_run (fun _ => .cond (good_runL P _) .fail) (fun w2 A2 m2 hs2 hK2 => ?_) fr.marks w' A m' hs hK
          cases hk : resKnown fn fr.t with
          | false => rw [hk] at hK2; exact (show Ends M.fail A2 m2 K from hK2).fail.elim
          | true =>
            rw [hk, cond_true] at hK2
            obtain ⟨v, m3, q1, q2, q3⟩ := hK2.here
            obtain ⟨q4, q5⟩ := runL_both (w0 := w0) (w := w2) q1
            exact ⟨v, by rw [resSem_eq hr hk]; exact q5 hs2 q2, v, A2, m3, rfl, by rw [q4]; exact hs2, q3⟩
        cases ex with
        | exit id => exact (show Ends M.fail A m' K from hK).fail.elim
        | normal => exact fin hK
        | ret => exact fin hK

theorem range2_run {rd : Option Nat} {gf : FuncId} {first cap : Array Value} {L : Nat} {fr : Fr} {a : Act} {w0 w : World} {pre : Nat → Nat} {m : Mem} {K : (Nat → Nat) → Ex × Fr → Mem → Prop} (mm : Nat) (hr : RepR fr a) (hw : SatR w0 m.hp w)
    (h : Ends (evRange2 P false R rd gf first cap L fr) pre m K) :
    ∃ f args, (callFunc gf (first ++ #[.func (.yield L) #[] #[]] ++ cap)).run P w = .ok (.enter f args) w ∧
      Calls P f args w (rangePost (rdF rd) mm P L (fun e a' w' => ∃ x A m', e = x.1.out ∧ RepR x.2 a' ∧ SatR w0 m'.hp w' ∧ K A x m') a) := by
  unfold evRange2 at h
  split at h
  · rename_i f args hq
    refine ⟨f, args, runQ_run hq w, ?_⟩
    have hg : ∀ _ : Value, Good ((loc false L).bind fun x => match x.2.own, x.2.k with
      | true, .lp st pend n t ps ag bo de => match st with
        | .busy => M.fail
        | _ => (putE x.1 ⟨true, x.2.b, .lp .exhausted pend n t ps ag bo de⟩).bind fun _ => match pend with
          | none => M.ret (.normal, fr)
          | some c => R.code rd c fr
      | _, _ => M.fail : M (Ex × Fr)) := fun _ => by
      refine .bind (.locB _) fun x => ?_
      split
      · split
        · exact .fail
        · refine .bind (.putE _ _) fun _ => ?_
          split
          · exact .ret _
          · exact S.gcode _ _ _
      · exact .fail
    have h1 := S.fn hw (h.bind (S.gfn _ _) hg)
    refine (show args = args.toList.toArray by simp) ▸ h1.mono ?_
    rintro e w' ⟨v, A, m', rfl, hs, hK⟩
    obtain ⟨j, e, m1, k1, k2, k3, k4, k5⟩ := hK.loc fun x => by
      split
      · split
        · exact .fail
        · refine .bind (.putE _ _) fun _ => ?_
          split
          · exact .ret _
          · exact S.gcode _ _ _
      · exact .fail
    obtain ⟨o, ho, hk⟩ := hs.holds j e k1
    dsimp only at k5
    split at k5
    rotate_left
    · exact k5.fail.elim
    rename_i st pend n t ps ag bo de hown he
    rw [he] at hk
    obtain ⟨fnid, tmps, rfl, hsz, hat⟩ := hk
    subst k2
    have hlt := (Array.getElem?_eq_some_iff.1 ho).1
    have hsat : SatR w0 (m'.hp.set j ⟨true, e.b, .lp .exhausted pend n t ps ag bo de⟩) (w'.putObj e.b (.loop { state := .exhausted, pending := pend, fn := fnid, tmps, params := ps, assign := ag, body := bo, defers := de })) :=
      hs.upd k1 hown (.lp .exhausted pend n t ps ag bo de) rfl rfl rfl (by simp) (World.putObj_heap_same hlt) ⟨fnid, tmps, rfl, hsz, hat⟩ (fun q hq => World.putObj_heap_other hq)
    have hnb : st ≠ .busy := fun e1 => by
      subst e1
      exact (show Ends M.fail A m1 K from k5).fail
    have k6 : Ends ((putE j ⟨true, e.b, .lp .exhausted pend n t ps ag bo de⟩).bind fun _ => match pend with
          | none => M.ret (.normal, fr)
          | some c => R.code rd c fr) A m1 K := by
      cases st <;> first | exact absurd rfl hnb | exact k5
    have k7 := k6.putE
    refine ⟨pend, _, run_endLoop (P := P) ho hnb, ?_⟩
    cases pend with
    | none => exact ⟨_, A, _, rfl, hr, by dsimp only; rw [k3]; exact hsat, k7.ret⟩
    | some c => exact S.code hr (by dsimp only; rw [k3]; exact hsat) k7
  · exact h.fail.elim

theorem range_run {rd : Option Nat} {g : Operand} {ps : Array Tmp} {assign body : Code} {fr : Fr} {a : Act} {w0 w : World} {pre : Nat → Nat} {m : Mem} {K : (Nat → Nat) → Ex × Fr → Mem → Prop} {mm : Nat} (hr : RepR fr a) (hw : SatR w0 m.hp w)
    (h : Ends (evRange P false R rd g ps assign body fr) pre m K) :
    (Code.rangeFunc g ps assign body).wpIn (rdF rd) mm P (fun e a' w' => ∃ x A m', e = x.1.out ∧ RepR x.2 a' ∧ SatR w0 m'.hp w' ∧ K A x m') a w := by
  have hF := openF_rd rd
  unfold evRange at h
  split at h
  · rename_i gf first cap hg
    have hga : a.eval g = .func (.func gf) first cap := hr.ev hg
    have hres : ∀ (l : Nat) (w : World), (resolve a.eval (rangeCall g l) 0).run P w = .ok { target := .fn (.func gf) cap, args := first ++ #[.func (.yield l) #[] #[]] } w := fun l w => by
      have hc : a.eval (.const (.func (.yield l) #[] #[])) = .func (.yield l) #[] #[] := rfl
      simp only [resolve, hga, Deferred.ofValue, List.map_toArray, List.map_cons, List.map_nil, hc]
      rfl
    refine wpIn_rangeFunc fun fn _ => ?_
    rw [round_rd]
    cases rd with
    | none =>
      dsimp only at h
      have h1 := (h.fresh w.heap.size).pushE
      obtain ⟨W1, hW1⟩ : ∃ W1, w.alloc (.deferred (some [])) = W1 := ⟨_, rfl⟩
      have hs1 : SatR w0 (m.hp.set m.n ⟨true, w.heap.size, .ob (.deferred (some []))⟩) W1 := by
        rw [← hW1]; exact hw.new m.n _ ⟨rfl, rfl⟩
      have hsz1 : W1.heap.size = w.heap.size + 1 := by rw [← hW1]; simp
      have h2 := (h1.fresh W1.heap.size).pushE
      have hs2 := hs1.new (m.n + 1) (.lp .ready none fr.n fr.t ps assign body w.heap.size) (o := .loop { state := .ready, pending := none, fn, tmps := a.tmps, params := ps, assign, body, defers := w.heap.size }) ⟨fn, a.tmps, rfl, hr.size, hr.at_⟩
      obtain ⟨f, args, h3, h4⟩ := range2_run S mm (a := { a with defers := markOf w.heap.size :: a.defers }) (fr := ⟨fr.n, w.heap.size :: fr.marks, fr.t⟩) ⟨hr.size, by simp [hr.defers], hr.at_⟩ hs2 h2
      rw [hsz1, ← hW1] at h3 h4
      exact ⟨w.heap.size + 1, [markOf w.heap.size], _, _, _, f, args, _, run_enterLoop_outer fn a.tmps ps assign body, hres _ _, fun f' _ => hF.fn f', h3, fun h => hF.depth h, hF.calls h4⟩
    | some l0 =>
      dsimp only at h
      obtain ⟨j, e, m1, k1, k2, k3, k4, k5⟩ := h.loc fun x => by
        split
        · exact .bind .fresh fun L => .bind (.pushE _) fun _ => good_range2 S _ _ _ _ _ _
        · exact .fail
      obtain ⟨o, ho, hk⟩ := hw.holds j e k1
      dsimp only at k5
      split at k5
      rotate_left
      · exact k5.fail.elim
      rename_i st pe n t ps2 as2 bo2 de he
      rw [he] at hk
      obtain ⟨fnid, tmps, rfl, hsz, hat⟩ := hk
      subst k2
      have k6 := (k5.fresh w.heap.size).pushE
      have hs2 := hw.new m1.n (.lp .ready none fr.n fr.t ps assign body de) (o := .loop { state := .ready, pending := none, fn, tmps := a.tmps, params := ps, assign, body, defers := de }) ⟨fn, a.tmps, rfl, hr.size, hr.at_⟩
      obtain ⟨f, args, h3, h4⟩ := range2_run S mm hr (by dsimp only; rw [k3]; exact hs2) k6
      exact ⟨w.heap.size, [], _, _, _, f, args, _, run_enterLoop_inner ho fn a.tmps ps assign body, hres _ _, fun f' _ => hF.fn f', h3, fun h => hF.depth h, hF.calls h4⟩
  · exact h.fail.elim

theorem loop_run {rd : Option Nat} {c : Code} {mm : Nat} {w0 : World} {K : (Nat → Nat) → Ex × Fr → Mem → Prop} : ∀ (f : Nat) (fr : Fr) (a : Act) (w : World) (pre : Nat → Nat) (m : Mem), RepR fr a → SatR w0 m.hp w → Ends (evLoop R rd c f fr) pre m K →
    loopU (rdF rd) mm P (fun e a' w' => ∃ x A m', e = x.1.out ∧ RepR x.2 a' ∧ SatR w0 m'.hp w' ∧ K A x m') c f a w
  | 0, fr, a, w, pre, m, hr, hw, h => h.fail.elim
  | f + 1, fr, a, w, pre, m, hr, hw, h => by
    unfold evLoop at h
    have hg : ∀ x : Ex × Fr, Good ((match x.1 with
      | .normal => evLoop R rd c f x.2
      | _ => M.ret x : M (Ex × Fr))) := fun x => by
      split
      · exact good_loop S _ _ _ _
      · exact .ret _
    refine wpIn_mono (S.code (mm := mm) hr hw (h.bind (S.gcode _ _ _) hg)) ?_
    rintro e a' w' ⟨⟨ex, fr'⟩, A, m', rfl, hr', hs, hK⟩
    cases ex with
    | normal => exact loop_run f fr' a' w' A m' hr' hs hK
    | exit id => exact ⟨(.exit id, fr'), A, m', rfl, hr', hs, hK.ret⟩
    | ret => exact ⟨(.ret, fr'), A, m', rfl, hr', hs, hK.ret⟩

theorem code_run (hmix : P.follows .mixedOrders = true) (f : Nat) {rd : Option Nat} {c : Code} {fr : Fr} {mm : Nat} {w0 w : World} {a : Act} {pre : Nat → Nat} {m : Mem} {K : (Nat → Nat) → Ex × Fr → Mem → Prop} (hr : RepR fr a) (hw : SatR w0 m.hp w) (h : Ends (evCode P false R f rd c fr) pre m K) :
    c.wpIn (rdF rd) mm P (fun e a' w' => ∃ x A m', e = x.1.out ∧ RepR x.2 a' ∧ SatR w0 m'.hp w' ∧ K A x m') a w := by
  have hF := openF_rd rd
  unfold evCode at h
  split at h
  · exact wpIn_skip ⟨_, pre, m, rfl, hr, hw, h.ret⟩
  · exact wpIn_label ⟨_, pre, m, rfl, hr, hw, h.ret⟩
  · refine wpIn_region_list (ops_run S (fun _ => .ret _) (fun fr' a' w' A m' hr' hs hK => ?_) _ _ _ _ _ _ hr hw h)
    exact ⟨_, A, m', rfl, hr', hs, hK.ret⟩
  · rename_i id ops
    obtain ⟨hh, m1, k1, k2, k3⟩ := h.pick fun hh => .cond (.bind (good_head S _ _ _) fun _ => .bind (good_ops S _ _ _) fun _ => .ret _) .fail
    cases hB : headB ops hh fr.n with
    | false => rw [hB] at k3; exact (show Ends M.fail pre m1 K from k3).fail.elim
    | true =>
      rw [hB, cond_true] at k3
      refine wpIn_draw hF hmix hB (C := SatR w0 m.hp) (fun _ k hw => hw.draw k) hw hr (head_run S hw (fun _ => .bind (good_ops S _ _ _) fun _ => .ret _) (fun t A m2 hm2 hK a2 w2 hr2 hw2 => ?_) _ _ pre m1 k1 k3)
      refine ops_run S (fun _ => .ret _) (fun fr' a' w' A m' hr' hs hK => ?_) _ ⟨fr.n, fr.marks, t⟩ _ _ A m2 hr2 (by rw [hm2]; exact hw2) hK
      exact ⟨_, A, m', rfl, hr', hs, hK.ret⟩
  · rename_i x y
    have hg : ∀ z : Ex × Fr, Good ((match z.1 with
      | .normal => R.code rd y z.2
      | _ => M.ret z : M (Ex × Fr))) := fun z => by
      split
      · exact S.gcode _ _ _
      · exact .ret _
    refine wpIn_seq (wpIn_mono (S.code (mm := mm) hr hw (h.bind (S.gcode _ _ _) hg)) ?_)
    rintro e a' w' ⟨⟨ex, fr'⟩, A, m', rfl, hr', hs, hK⟩
    cases ex with
    | normal => exact S.code hr' hs hK
    | exit id => exact ⟨(.exit id, fr'), A, m', rfl, hr', hs, hK.ret⟩
    | ret => exact ⟨(.ret, fr'), A, m', rfl, hr', hs, hK.ret⟩
  · split at h
    · rename_i hv; exact wpIn_cond_true (hr.ev hv) (S.code hr hw h)
    · rename_i hv; exact wpIn_cond_false (hr.ev hv) (S.code hr hw h)
    · exact h.fail.elim
  · rename_i id c
    have hg : ∀ z : Ex × Fr, Good ((match z.1 with
      | .exit j => bif Nat.beq j id then M.ret (.normal, z.2) else M.ret z
      | _ => M.ret z : M (Ex × Fr))) := fun z => by
      split
      · exact .cond (.ret _) (.ret _)
      · exact .ret _
    refine wpIn_block (wpIn_mono (S.code (mm := mm) hr hw (h.bind (S.gcode _ _ _) hg)) ?_)
    rintro e a' w' ⟨⟨ex, fr'⟩, A, m', rfl, hr', hs, hK⟩
    cases ex with
    | normal => exact ⟨(.normal, fr'), A, m', rfl, hr', hs, hK.ret⟩
    | ret => exact ⟨(.ret, fr'), A, m', rfl, hr', hs, hK.ret⟩
    | exit j =>
      simp only [Ex.out, Exit.inBlock]
      dsimp only at hK
      cases hb : Nat.beq j id with
      | true =>
        rw [hb] at hK
        rw [if_pos (Nat.eq_of_beq_eq_true hb)]
        exact ⟨(.normal, fr'), A, m', rfl, hr', hs, (show Ends (M.ret (Ex.normal, fr')) A m' K from hK).ret⟩
      | false =>
        rw [hb] at hK
        rw [if_neg (fun e => by rw [e, Nat.beq_refl] at hb; cases hb)]
        exact ⟨(.exit j, fr'), A, m', rfl, hr', hs, (show Ends (M.ret (Ex.exit j, fr')) A m' K from hK).ret⟩
  · exact loopU_loop (loop_run S f fr a w pre m hr hw h)
  · refine wpIn_scope (wpIn_mono (S.code (mm := mm) hr hw h) ?_)
    rintro e a' w' ⟨⟨ex, fr'⟩, A, m', rfl, hr', hs, hK⟩
    cases ex with
    | normal => exact ⟨(.normal, fr'), A, m', rfl, hr', hs, hK⟩
    | exit id => exact ⟨(.exit id, fr'), A, m', rfl, hr', hs, hK⟩
    | ret => exact ⟨(.ret, fr'), A, m', rfl, hr', hs, hK⟩
  · rename_i id
    exact wpIn_exit ⟨(.exit id, fr), pre, m, rfl, hr, hw, h.ret⟩
  · exact wpIn_ret ⟨(.ret, fr), pre, m, rfl, hr, hw, h.ret⟩
  · exact range_run S hr hw h
  · exact h.fail.elim
end

theorem sound (P : Program) (hmix : P.follows .mixedOrders = true) : ∀ f, Sound P (recN P false f)
  | 0 => ⟨fun _ _ _ => .fail, fun _ _ => .fail, fun _ _ h => h.fail.elim, fun _ h => h.fail.elim⟩
  | f + 1 => ⟨fun rd c fr => good_code (sound P hmix f) f rd c fr, fun g args => good_fn (sound P hmix f) g args, fun hr hw h => code_run (sound P hmix f) hmix f hr hw h, fun hw h => fn_run (sound P hmix f) hw h⟩

/-- hints, packed into one number -/
def unpack (b : Nat) : Nat → Nat → List Nat
  | 0, _ => []
  | f + 1, n => match n with
    | 0 => []
    | n => n % b :: unpack b f (n / b)
def mem0 (hs : List Nat) : Mem := ⟨.nil, 0, 0, hs, [], []⟩
/-- A CLOSED CALL: it returns what the kernel reckons -/
theorem closed {P : Program} (hmix : P.follows .mixedOrders = true) {f : FuncId} {args : List Value} {v : Value} (hs : List Nat) (n : Nat)
    (h : ∀ A : Nat → Nat, (match (recN P false n).fn f args A (mem0 hs) with
      | some (u, m) => some (u, m.eqs.map fun (c : List (Nat × Nat)) => c.map Prod.fst)
      | none => none) = (match (recN P false n).fn f args A (mem0 hs) with
      | some (_, m) => some (v, m.eqs.map fun (c : List (Nat × Nat)) => c.map Prod.snd)
      | none => some (v, [[0]]))) (w : World) :
    Calls P f args.toArray w fun e w' => e = .returned v ∧ Kept w w' := by
  have S := sound P hmix n
  have he : Ends ((recN P false n).fn f args) (fun _ => 0) (mem0 hs) fun _ u _ => u = v := fun A _ => by
    have := h A
    split at this
    · rename_i u m hr
      simp only [Option.some.injEq, Prod.mk.injEq] at this
      refine ⟨u, m, hr, fun c hc => ?_, this.1⟩
      refine AllEq.of_map ?_
      have h2 : ∀ (l : List (List (Nat × Nat))), (l.map fun (c : List (Nat × Nat)) => c.map Prod.fst) = (l.map fun (c : List (Nat × Nat)) => c.map Prod.snd) → ∀ c ∈ l, c.map Prod.fst = c.map Prod.snd := by
        intro l
        induction l with
        | nil => intro _ c hc; cases hc
        | cons d l ih =>
          intro h c hc
          simp only [List.map_cons, List.cons.injEq] at h
          rcases List.mem_cons.1 hc with rfl | hc
          · exact h.1
          · exact ih h.2 c hc
      exact h2 _ this.2 c hc
    · cases this
  have h0 : SatR w (mem0 hs).hp w := ⟨Kept.refl w, fun i e hi => (by cases hi), fun i e hi => (by cases hi), fun i j e e' _ hi => (by cases hi)⟩
  refine (S.fn h0 he).mono ?_
  rintro e w' ⟨u, A, m', rfl, h5, rfl⟩
  exact ⟨rfl, h5.kept⟩
end Run
end Go.Proofs.Ytdadfhhcfmdfkaa
