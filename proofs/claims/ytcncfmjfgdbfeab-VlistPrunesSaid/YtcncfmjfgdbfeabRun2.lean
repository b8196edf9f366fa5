/- Whole runs of closed calls: an operation's computation over what is known. -/
import Derived.Test.YtcncfmjfgdbfeabRun
namespace Go.Proofs.Ytcncfmjfgdbfeab
open Go.RowKit
noncomputable section
namespace Run
def MK.cell? : MK → Nat → Option Value
 | .cells cs _, i => cs.get? i
 | .part _ _ _ cs _, i => cs.get? i
 | _, _ => none
def MK.setCell : MK → Nat → Value → Option MK
 | .cells cs E, i, v => match cs.get? i with
  | some _ => some (.cells (cs.set i v) E)
  | none => none
 | .part fz c sz cs E, i, v => match cs.get? i with
  | some _ => some (.part fz c sz (cs.set i v) E)
  | none => none
 | _, _, _ => none
def objK : Obj → Option MK
 | .cells c E fr => match fr with
  | (0, 0) => some (.cells (L.ofList c.toList) E)
  | _ => none
 | .loop _ => none
 | o => some (.ob o)
def isCellsK : MK → Bool
 | .cells .. => true
 | .part .. => true
 | _ => false
theorem MK.cell_ok {w : World} {b i : Nat} {k : MK} {o : Obj} {v : Value} (ho : w.heap[b]? = some o) (hk : k.ok o) (hv : k.cell? i = some v) : w.cell? ⟨b, i, none⟩ = some v := by
 cases k with
 | cells cs E =>
  simp only [MK.ok] at hk
  subst hk
  simp only [MK.cell?, L.get_eq] at hv
  simp [World.cell?, ho, hv]
 | part fz c sz cs E =>
  obtain ⟨rest, fr, rfl, _⟩ := hk
  simp only [MK.cell?, L.get_eq] at hv
  have hlt : i < cs.l.length := (List.getElem?_eq_some_iff.1 hv).1
  have : (cs.l ++ rest)[i]? = some v := by rw [List.getElem?_append_left hlt]; exact hv
  simp only [World.cell?, ho, List.getElem?_toArray, this]
  rfl
 | ob o' => cases hv
 | lp => cases hv
theorem MK.frozen_ok {w : World} {b i : Nat} {k : MK} {o : Obj} {v : Value} (ho : w.heap[b]? = some o) (hk : k.ok o) (hv : k.cell? i = some v) : w.frozen? ⟨b, i, none⟩ = false := by
 cases k with
 | cells cs E =>
  simp only [MK.ok] at hk
  subst hk
  simp [World.frozen?, ho]
 | part fz c sz cs E =>
  obtain ⟨rest, fr, rfl, hl, hf⟩ := hk
  simp only [MK.cell?, L.get_eq] at hv
  have hlt : i < cs.l.length := (List.getElem?_eq_some_iff.1 hv).1
  rw [L.len] at hlt
  simp only [World.frozen?, ho]
  rcases hf with rfl | ⟨_, hf⟩
  ·simp
  have : ¬ fr.1 ≤ i := by omega
  simp [this]
 | ob o' => cases hv
 | lp => cases hv
theorem MK.set_ok {w : World} {b i : Nat} {k k' : MK} {o : Obj} {v : Value} (ho : w.heap[b]? = some o) (hk : k.ok o) (hs : k.setCell i v = some k') :
  (∃ u, k.cell? i = some u) ∧ ∃ o', (w.setCell ⟨b, i, none⟩ v).heap[b]? = some o' ∧ k'.ok o' := by
 cases k with
 | cells cs E =>
  simp only [MK.ok] at hk
  subst hk
  simp only [MK.setCell] at hs
  split at hs
  ·rename_i u hu
   simp only [Option.some.injEq] at hs
   subst hs
   refine ⟨⟨u, hu⟩, .cells (cs.l.set i v).toArray E (0, 0), ?_, by simp [MK.ok]⟩
   simp only [World.setCell, Array.getElem?_modify, ho]
   simp
  cases hs
 | part fz c sz cs E =>
  obtain ⟨rest, fr, rfl, hl, hf⟩ := hk
  simp only [MK.setCell] at hs
  split at hs
  ·rename_i u hu
   simp only [Option.some.injEq] at hs
   subst hs
   have hlt : i < cs.l.length := (List.getElem?_eq_some_iff.1 ((L.get_eq _ _).symm.trans hu)).1
   refine ⟨⟨u, hu⟩, .cells (cs.l.set i v ++ rest).toArray E fr, ?_, rest, fr, by rw [L.set_l], hl, hf⟩
   simp only [World.setCell, Array.getElem?_modify, ho]
   rw [← List.set_append_left _ _ hlt]
   simp
  cases hs
 | ob o' => cases hs
 | lp => cases hs
theorem objK_ok {o : Obj} {k : MK} (h : objK o = some k) : k.ok o := by
 cases o with
 | cells c E fr =>
  simp only [objK] at h
  split at h
  ·simp only [Option.some.injEq] at h
   subst h
   simp [MK.ok]
  cases h
 | loop l => cases h
 | _ => simp only [objK, Option.some.injEq] at h; subst h; exact ⟨rfl, rfl⟩
def eqV (a b : Value) : Option (List (Nat × Nat)) := match a, b with
 | .bool a, .bool b => bif a == b then some [] else none
 | .int k n, .int k' n' => bif decide (k = k') && decide (n = n') then some [] else none
 | .string a, .string b => bif decide (a = b) then some [] else none
 | .pointer none, .pointer none => some []
 | .pointer (some ⟨a, o, none⟩), .pointer (some ⟨a', o', none⟩) => some [(a, a'), (o, o')]
 | .slice none l c, .slice none l' c' => some [(l, l'), (c, c')]
 | .slice (some ⟨a, o, none⟩) l c, .slice (some ⟨a', o', none⟩) l' c' => some [(a, a'), (o, o'), (l, l'), (c, c')]
 | _, _ => none
theorem eqV_eq {a b : Value} {e : List (Nat × Nat)} (h : eqV a b = some e) (he : AllEq e) : a = b := by
 unfold eqV at h
 split at h
 ·rename_i a b
  cases hb : (a == b) with
  | false => rw [hb] at h; cases h
  | true => simp only [beq_iff_eq] at hb; rw [hb]
 ·rename_i k n k' n'
  cases hb : (decide (k = k') && decide (n = n')) with
  | false => rw [hb] at h; cases h
  | true => simp only [Bool.and_eq_true, decide_eq_true_eq] at hb; rw [hb.1, hb.2]
 ·rename_i a b
  cases hb : decide (a = b) with
  | false => rw [hb] at h; cases h
  | true => simp only [decide_eq_true_eq] at hb; rw [hb]
 ·rfl
 ·simp only [Option.some.injEq] at h; subst h
  obtain ⟨h1, h2, _⟩ := he
  simp only at h1 h2; rw [h1, h2]
 ·simp only [Option.some.injEq] at h; subst h
  obtain ⟨h1, h2, _⟩ := he
  simp only at h1 h2; rw [h1, h2]
 ·simp only [Option.some.injEq] at h; subst h
  obtain ⟨h1, h2, h3, h4, _⟩ := he
  simp only at h1 h2 h3 h4; rw [h1, h2, h3, h4]
 cases h
def sames : List (Nat × Nat) → M Unit
 | [] => M.ret ()
 | p :: l => (same p.1 p.2).bind fun _ => sames l
theorem good_sames : ∀ l, Good (sames l)
 | [] => .ret ()
 | _p :: l => .bind (.same _ _) fun _ => good_sames l
theorem ends_sames {β : Type} {f : Unit → M β} {pre : Nat → Nat} {K : (Nat → Nat) → β → Mem → Prop} (hf : ∀ a, Good (f a)) : ∀ {l : List (Nat × Nat)} {m : Mem}, Ends ((sames l).bind f) pre m K →
  AllEq l ∧ ∃ m1, m1.hp = m.hp ∧ m1.n = m.n ∧ Ends (f ()) pre m1 K
 | [], m, h => ⟨trivial, m, rfl, rfl, h⟩
 | p :: l, m, h => by
  unfold sames at h
  rw [M.bind_assoc] at h
  obtain ⟨h1, m1, h2, h3, h4⟩ := h.same fun _ => .bind (good_sames l) hf
  obtain ⟨h5, m2, h6, h7, h8⟩ := ends_sames hf h4
  exact ⟨⟨h1, h5⟩, m2, h6.trans h2, h7.trans h3, h8⟩
theorem sames_some : ∀ {l : List (Nat × Nat)} {A : Nat → Nat} {m m' : Mem} {u : Unit}, sames l A m = some (u, m') → m'.hp = m.hp ∧ (AllE m'.eqs → AllEq l)
 | [], A, m, m', u, h => by
  simp only [sames, M.ret, Option.some.injEq, Prod.mk.injEq] at h
  rw [← h.2]; exact ⟨rfl, fun _ => trivial⟩
 | p :: l, A, m, m', u, h => by
  unfold sames at h
  obtain ⟨u1, m1, h1, h2⟩ := bind_some h
  obtain ⟨h3, h4⟩ := sames_some h2
  simp only [Run.same, Option.some.injEq, Prod.mk.injEq] at h1
  obtain ⟨_, rfl⟩ := h1
  exact ⟨h3, fun he => ⟨(allE_addEq ((good_sames l).eqs h2 he)).1, h4 he⟩⟩
theorem setCell_same {w : World} {a : Addr} {v : Value} (h : w.cell? a = some v) : w.setCell a v = w := by
 unfold World.cell? at h
 split at h
 ·rename_i c E fr hb
  split at h
  ·cases h
  rename_i hsp
  have hlt := (Array.getElem?_eq_some_iff.1 hb).1
  have key : ∀ g : Array Obj, g = w.heap → ({ w with heap := g } : World) = w := fun g e => by rw [e]
  unfold World.setCell
  refine key _ ?_
  apply Array.ext_getElem?
  intro i
  rw [Array.getElem?_modify]
  split
  ·rename_i e
   subst e
   rw [hb]
   simp only [Option.map_some]
   congr 2
   apply Array.ext_getElem?
   intro j
   rw [Array.getElem?_setIfInBounds]
   split
   ·rename_i e
    subst e
    have := (Array.getElem?_eq_some_iff.1 h).1
    rw [if_pos this, h]
   rfl
  rfl
 cases h
section
variable (P : Program) (fd : Bool)
def runM {α : Type} : Sem α → M α
 | .pure a => M.ret a
 | .program k => runM (k P)
 | .mark _ k => runM k
 | .load _ a k => (loc fd a.block).bind fun x => match a.spot, x.2.k.cell? a.off with
  | none, some v => runM (k v)
  | _, _ => M.fail
 | .store _ a v k => (loc fd a.block).bind fun x => match a.spot, x.2.own, cellV v, x.2.k.setCell a.off v with
  | none, true, true, some k' => (putE x.1 ⟨true, x.2.b, k'⟩).bind fun _ => runM k
  | _, _, _, _ => M.fail
 | .new o k => match objK o with
  | some mk => fresh.bind fun b => (pushE ⟨true, b, mk⟩).bind fun _ => runM (k b)
  | none => M.fail
 | .shape r k => (loc fd r).bind fun x => match x.2.k with
  | .cells cs E => runM (k (some (E, cs.n)))
  | _ => M.fail
 | .frozen a k => (loc fd a.block).bind fun x => match x.2.k with
  | .cells _ _ => runM (k false)
  | _ => M.fail
 | .getObj r k => (loc fd r).bind fun x => match x.2.k with
  | .ob o => runM (k o)
  | _ => M.fail
 | .setObj r o k => (loc fd r).bind fun x => match x.2.own, x.2.k, noCells o with
  | true, .ob _, true => (putE x.1 ⟨true, x.2.b, .ob o⟩).bind fun _ => runM k
  | _, _, _ => M.fail
 | .freeze a n k => (loc fd a.block).bind fun x => match x.2.own, x.2.k with
  | true, .cells cs E => bif Nat.beq n 1 && Nat.beq a.off cs.n then (putE x.1 ⟨true, x.2.b, .part true cs.n 1 cs E⟩).bind fun _ => runM k else M.fail
  | _, _ => M.fail
 | _ => M.fail
def runL {α : Type} : Sem α → M α
 | .pure a => M.ret a
 | .program k => runL (k P)
 | .mark _ k => runL k
 | .load _ a k => (loc fd a.block).bind fun x => match a.spot, x.2.k.cell? a.off with
  | none, some v => runL (k v)
  | _, _ => M.fail
 | .store _ a v k => (loc fd a.block).bind fun x => match a.spot, cellV v, x.2.k.cell? a.off, x.2.k.setCell a.off v with
  | none, true, some u, some _ => match eqV u v with
   | some l => (sames l).bind fun _ => runL k
   | none => M.fail
  | _, _, _, _ => M.fail
 | .shape r k => (loc fd r).bind fun x => match x.2.k with
  | .cells cs E => runL (k (some (E, cs.n)))
  | _ => M.fail
 | .frozen a k => (loc fd a.block).bind fun x => match x.2.k with
  | .cells _ _ => runL (k false)
  | _ => M.fail
 | .getObj r k => (loc fd r).bind fun x => match x.2.k with
  | .ob o => runL (k o)
  | _ => M.fail
 | _ => M.fail
end
theorem good_runL {α : Type} (P : Program) : ∀ s : Sem α, Good (runL P false s)
 | .pure a => .ret a
 | .program k => good_runL P (k P)
 | .mark _ k => good_runL P k
 | .load _ a k => by unfold runL; refine .bind (.locB _) fun x => ?_; split; exact good_runL P _; exact .fail
 | .store _ a v k => by
  unfold runL
  refine .bind (.locB _) fun x => ?_
  split
  ·split
   ·exact .bind (good_sames _) fun _ => good_runL P k
   exact .fail
  exact .fail
 | .shape r k => by unfold runL; refine .bind (.locB _) fun x => ?_; split; exact good_runL P _; exact .fail
 | .frozen a k => by unfold runL; refine .bind (.locB _) fun x => ?_; split; exact good_runL P _; exact .fail
 | .getObj r k => by unfold runL; refine .bind (.locB _) fun x => ?_; split; exact good_runL P _; exact .fail
 | .new .. | .freeze .. | .setObj .. | .choose .. | .sys .. | .halt .. => .fail
theorem good_runM {α : Type} (P : Program) : ∀ s : Sem α, Good (runM P false s)
 | .pure a => .ret a
 | .program k => good_runM P (k P)
 | .mark _ k => good_runM P k
 | .load _ a k => by unfold runM; refine .bind (.locB _) fun x => ?_; split; exact good_runM P _; exact .fail
 | .store _ a v k => by
  unfold runM
  refine .bind (.locB _) fun x => ?_
  split
  ·exact .bind (.putE _ _) fun _ => good_runM P k
  exact .fail
 | .new o k => by
  unfold runM
  split
  ·exact .bind .fresh fun b => .bind (.pushE _) fun _ => good_runM P (k b)
  exact .fail
 | .shape r k => by unfold runM; refine .bind (.locB _) fun x => ?_; split; exact good_runM P _; exact .fail
 | .frozen a k => by unfold runM; refine .bind (.locB _) fun x => ?_; split; exact good_runM P _; exact .fail
 | .getObj r k => by unfold runM; refine .bind (.locB _) fun x => ?_; split; exact good_runM P _; exact .fail
 | .setObj r o k => by
  unfold runM
  refine .bind (.locB _) fun x => ?_
  split
  ·exact .bind (.putE _ _) fun _ => good_runM P k
  exact .fail
 | .freeze a n k => by
  unfold runM
  refine .bind (.locB _) fun x => ?_
  split
  ·exact .cond (.bind (.putE _ _) fun _ => good_runM P k) .fail
  exact .fail
 | .choose .. | .sys .. | .halt .. => .fail
theorem runL_run {α β : Type} {P : Program} {w0 : Bse} {w : World} : ∀ {s : Sem α} {f : α → M β} {pre : Nat → Nat} {m : Mem} {K : (Nat → Nat) → β → Mem → Prop}, SatR w0 m.hp w → (∀ a, Good (f a)) → Ends ((runL P false s).bind f) pre m K →
  ∃ a m', s.run P w = .ok a w ∧ m'.hp = m.hp ∧ m'.n = m.n ∧ Ends (f a) pre m' K
 | .pure a, f, pre, m, K, hw, hf, h => ⟨a, m, rfl, rfl, rfl, h⟩
 | .program k, f, pre, m, K, hw, hf, h => runL_run (s := k P) hw hf h
 | .mark _ k, f, pre, m, K, hw, hf, h => runL_run (s := k) hw hf h
 | .load md a k, f, pre, m, K, hw, hf, h => by
  have h' : Ends ((Run.loc false a.block).bind fun x => ((match a.spot, x.2.k.cell? a.off with | none, some v => runL P false (k v) | _, _ => M.fail).bind f)) pre m K := fun A hA => by
   have := h A hA
   simpa only [runL, M.bind_assoc] using this
  obtain ⟨j, e, m1, h1, h2, h3, h4, h5⟩ := h'.loc fun x => .bind (by split; exact good_runL P _; exact .fail) hf
  obtain ⟨o, ho, hk⟩ := hw.holds j e h1
  dsimp only at h5
  split at h5
  ·rename_i v hs hv
   obtain ⟨ab, ao, asp⟩ := a
   simp only at hs hv h2
   subst hs h2
   obtain ⟨a', m', r1, r2, r3, r4⟩ := runL_run (s := k v) (m := m1) (by rw [h3]; exact hw) hf h5
   refine ⟨a', m', ?_, r2.trans h3, r3.trans h4, r4⟩
   simp only [Sem.run, MK.cell_ok ho hk hv]
   exact r1
  exact (h5.bind .fail hf).fail.elim
 | .store md a v k, f, pre, m, K, hw, hf, h => by
  have h' : Ends ((Run.loc false a.block).bind fun x => ((match a.spot, cellV v, x.2.k.cell? a.off, x.2.k.setCell a.off v with
   | none, true, some u, some _ => (match eqV u v with
    | some l => (sames l).bind fun _ => runL P false k
    | none => M.fail)
   | _, _, _, _ => M.fail).bind f)) pre m K := fun A hA => by
   have := h A hA
   simpa only [runL, M.bind_assoc] using this
  obtain ⟨j, e, m1, h1, h2, h3, h4, h5⟩ := h'.loc fun x => .bind (by
   split
   ·split
    ·exact .bind (good_sames _) fun _ => good_runL P k
    exact .fail
   exact .fail) hf
  obtain ⟨o, ho, hk⟩ := hw.holds j e h1
  dsimp only at h5
  split at h5
  ·rename_i u k' hs hcv hu hst
   split at h5
   ·rename_i l hl
    rw [M.bind_assoc] at h5
    obtain ⟨h6, m2, h7, h8, h9⟩ := ends_sames (fun _ => .bind (good_runL P k) hf) h5
    obtain rfl := eqV_eq hl h6
    obtain ⟨ab, ao, asp⟩ := a
    simp only at hs hu hst h2
    subst hs h2
    obtain ⟨a', m', r1, r2, r3, r4⟩ := runL_run (s := k) (m := m2) (by rw [h7, h3]; exact hw) hf h9
    refine ⟨a', m', ?_, r2.trans (h7.trans h3), r3.trans (h8.trans h4), r4⟩
    have q := MK.cell_ok ho hk hu
    cases u <;> first | (simp [cellV] at hcv; done) | (simp only [Sem.run, q, MK.frozen_ok ho hk hu, setCell_same q]; exact r1)
   exact (h5.bind .fail hf).fail.elim
  exact (h5.bind .fail hf).fail.elim
 | .shape r k, f, pre, m, K, hw, hf, h => by
  have h' : Ends ((Run.loc false r).bind fun x => ((match x.2.k with | .cells cs E => runL P false (k (some (E, cs.n))) | _ => M.fail).bind f)) pre m K := fun A hA => by
   have := h A hA
   simpa only [runL, M.bind_assoc] using this
  obtain ⟨j, e, m1, h1, h2, h3, h4, h5⟩ := h'.loc fun x => .bind (by split; exact good_runL P _; exact .fail) hf
  obtain ⟨o, ho, hk⟩ := hw.holds j e h1
  dsimp only at h5
  split at h5
  ·rename_i cs E he
   rw [he] at hk
   simp only [MK.ok] at hk
   subst hk h2
   obtain ⟨a', m', r1, r2, r3, r4⟩ := runL_run (s := k (some (E, cs.n))) (m := m1) (by rw [h3]; exact hw) hf h5
   refine ⟨a', m', ?_, r2.trans h3, r3.trans h4, r4⟩
   have : w.shape? e.b = some (E, cs.n) := by simp [World.shape?, ho]
   simp only [Sem.run, this]
   exact r1
  exact (h5.bind .fail hf).fail.elim
 | .frozen a k, f, pre, m, K, hw, hf, h => by
  have h' : Ends ((Run.loc false a.block).bind fun x => ((match x.2.k with | .cells _ _ => runL P false (k false) | _ => M.fail).bind f)) pre m K := fun A hA => by
   have := h A hA
   simpa only [runL, M.bind_assoc] using this
  obtain ⟨j, e, m1, h1, h2, h3, h4, h5⟩ := h'.loc fun x => .bind (by split; exact good_runL P _; exact .fail) hf
  obtain ⟨o, ho, hk⟩ := hw.holds j e h1
  dsimp only at h5
  split at h5
  ·rename_i cs E he
   rw [he] at hk
   simp only [MK.ok] at hk
   subst hk
   obtain ⟨a', m', r1, r2, r3, r4⟩ := runL_run (s := k false) (m := m1) (by rw [h3]; exact hw) hf h5
   refine ⟨a', m', ?_, r2.trans h3, r3.trans h4, r4⟩
   have : w.frozen? a = false := by simp [World.frozen?, h2, ho]
   simp only [Sem.run, this]
   exact r1
  exact (h5.bind .fail hf).fail.elim
 | .getObj r k, f, pre, m, K, hw, hf, h => by
  have h' : Ends ((Run.loc false r).bind fun x => ((match x.2.k with | .ob o => runL P false (k o) | _ => M.fail).bind f)) pre m K := fun A hA => by
   have := h A hA
   simpa only [runL, M.bind_assoc] using this
  obtain ⟨j, e, m1, h1, h2, h3, h4, h5⟩ := h'.loc fun x => .bind (by split; exact good_runL P _; exact .fail) hf
  obtain ⟨o, ho, hk⟩ := hw.holds j e h1
  dsimp only at h5
  split at h5
  ·rename_i o' he
   rw [he] at hk
   obtain ⟨rfl, hn⟩ := hk
   subst h2
   obtain ⟨a', m', r1, r2, r3, r4⟩ := runL_run (s := k o) (m := m1) (by rw [h3]; exact hw) hf h5
   refine ⟨a', m', ?_, r2.trans h3, r3.trans h4, r4⟩
   simp only [Sem.run, ho]
   cases o <;> first | exact r1 | (simp [noCells] at hn; done)
  exact (h5.bind .fail hf).fail.elim
 | .new .., _, _, _, _, _, hf, h | .freeze .., _, _, _, _, _, hf, h | .setObj .., _, _, _, _, _, hf, h | .choose .., _, _, _, _, _, hf, h | .sys .., _, _, _, _, _, hf, h | .halt .., _, _, _, _, _, hf, h =>
  (h.bind (x := M.fail) .fail hf).fail.elim
theorem runL_both {α : Type} {P : Program} {w0 : Bse} {w : World} : ∀ {s : Sem α} {A : Nat → Nat} {m m' : Mem} {a : α}, runL P false s A m = some (a, m') → m'.hp = m.hp ∧ (SatR w0 m.hp w → AllE m'.eqs → s.run P w = .ok a w)
 | .pure a, A, m, m', b, h => by
  simp only [runL, M.ret, Option.some.injEq, Prod.mk.injEq] at h
  rw [← h.1, ← h.2]; exact ⟨rfl, fun _ _ => rfl⟩
 | .program k, A, m, m', b, h => runL_both (s := k P) h
 | .mark _ k, A, m, m', b, h => runL_both (s := k) h
 | .load md a k, A, m, m', b, h => by
  unfold runL at h
  obtain ⟨⟨j, e⟩, m1, h1, h2⟩ := bind_some h
  obtain ⟨q1, q2, _, _, q5, _⟩ := loc_some h1
  dsimp only at h2
  cases hs : a.spot with
  | some _ => rw [hs] at h2; cases h2
  | none => cases hv : e.k.cell? a.off with
   | none => rw [hs, hv] at h2; cases h2
   | some v =>
    rw [hs, hv] at h2
    obtain ⟨r1, r2⟩ := runL_both (s := k v) h2
    refine ⟨r1.trans q2, fun hw he => ?_⟩
    obtain ⟨o, ho, hk⟩ := hw.holds j e q1
    have h3 := (q5 ((good_runL P _).eqs h2 he)).1
    obtain ⟨ab, ao, asp⟩ := a
    simp only at hs hv h3
    subst hs h3
    simp only [Sem.run, MK.cell_ok ho hk hv]
    exact r2 (by rw [q2]; exact hw) he
 | .store md a v k, A, m, m', b, h => by
  unfold runL at h
  obtain ⟨⟨j, e⟩, m1, h1, h2⟩ := bind_some h
  obtain ⟨q1, q2, _, _, q5, _⟩ := loc_some h1
  dsimp only at h2
  cases hs : a.spot with
  | some _ => rw [hs] at h2; cases h2
  | none => cases hcv : cellV v with
   | false => rw [hs, hcv] at h2; cases h2
   | true => cases hu : e.k.cell? a.off with
    | none => rw [hs, hcv, hu] at h2; cases h2
    | some u => cases hst : e.k.setCell a.off v with
     | none => rw [hs, hcv, hu, hst] at h2; cases h2
     | some k' =>
      rw [hs, hcv, hu, hst] at h2
      dsimp only at h2
      cases hl : eqV u v with
      | none => rw [hl] at h2; cases h2
      | some l =>
       rw [hl] at h2
       obtain ⟨u1, m2, h3, h4⟩ := bind_some h2
       obtain ⟨s1, s2⟩ := sames_some h3
       obtain ⟨r1, r2⟩ := runL_both (w := w) (w0 := w0) (s := k) h4
       refine ⟨r1.trans (s1.trans q2), fun hw he => ?_⟩
       obtain ⟨o, ho, hk⟩ := hw.holds j e q1
       have he2 := (good_runL P _).eqs h4 he
       have h5 := (q5 ((good_sames l).eqs h3 he2)).1
       obtain rfl := eqV_eq hl (s2 he2)
       obtain ⟨ab, ao, asp⟩ := a
       simp only at hs hu hst h5
       subst hs h5
       have q := MK.cell_ok ho hk hu
       have r3 := r2 (by rw [s1, q2]; exact hw) he
       cases u <;> first | (simp [cellV] at hcv; done) | (simp only [Sem.run, q, MK.frozen_ok ho hk hu, setCell_same q]; exact r3)
 | .shape r k, A, m, m', b, h => by
  unfold runL at h
  obtain ⟨⟨j, e⟩, m1, h1, h2⟩ := bind_some h
  obtain ⟨q1, q2, _, _, q5, _⟩ := loc_some h1
  dsimp only at h2
  cases hke : e.k with
  | cells cs E =>
   rw [hke] at h2
   obtain ⟨r1, r2⟩ := runL_both (s := k _) h2
   refine ⟨r1.trans q2, fun hw he => ?_⟩
   obtain ⟨o, ho, hk⟩ := hw.holds j e q1
   have h3 := (q5 ((good_runL P _).eqs h2 he)).1
   rw [hke] at hk
   simp only [MK.ok] at hk
   subst hk h3
   have : w.shape? e.b = some (E, cs.n) := by simp [World.shape?, ho]
   simp only [Sem.run, this]
   exact r2 (by rw [q2]; exact hw) he
  | _ => rw [hke] at h2; cases h2
 | .frozen a k, A, m, m', b, h => by
  unfold runL at h
  obtain ⟨⟨j, e⟩, m1, h1, h2⟩ := bind_some h
  obtain ⟨q1, q2, _, _, q5, _⟩ := loc_some h1
  dsimp only at h2
  cases hke : e.k with
  | cells cs E =>
   rw [hke] at h2
   obtain ⟨r1, r2⟩ := runL_both (s := k _) h2
   refine ⟨r1.trans q2, fun hw he => ?_⟩
   obtain ⟨o, ho, hk⟩ := hw.holds j e q1
   have h3 := (q5 ((good_runL P _).eqs h2 he)).1
   rw [hke] at hk
   simp only [MK.ok] at hk
   subst hk
   have : w.frozen? a = false := by simp [World.frozen?, h3, ho]
   simp only [Sem.run, this]
   exact r2 (by rw [q2]; exact hw) he
  | _ => rw [hke] at h2; cases h2
 | .getObj r k, A, m, m', b, h => by
  unfold runL at h
  obtain ⟨⟨j, e⟩, m1, h1, h2⟩ := bind_some h
  obtain ⟨q1, q2, _, _, q5, _⟩ := loc_some h1
  dsimp only at h2
  cases hke : e.k with
  | ob o' =>
   rw [hke] at h2
   obtain ⟨r1, r2⟩ := runL_both (s := k _) h2
   refine ⟨r1.trans q2, fun hw he => ?_⟩
   obtain ⟨o, ho, hk⟩ := hw.holds j e q1
   have h3 := (q5 ((good_runL P _).eqs h2 he)).1
   rw [hke] at hk
   obtain ⟨rfl, hn⟩ := hk
   subst h3
   simp only [Sem.run, ho]
   have h4 := r2 (by rw [q2]; exact hw) he
   cases o <;> first | exact h4 | (simp [noCells] at hn; done)
  | _ => rw [hke] at h2; cases h2
 | .new .., _, _, _, _, h | .freeze .., _, _, _, _, h | .setObj .., _, _, _, _, h | .choose .., _, _, _, _, h | .sys .., _, _, _, _, h | .halt .., _, _, _, _, h => by
  cases h
theorem runM_run {α β : Type} {P : Program} {w0 : Bse} : ∀ {s : Sem α} {f : α → M β} {pre : Nat → Nat} {m : Mem} {K : (Nat → Nat) → β → Mem → Prop} {w : World}, SatR w0 m.hp w → (∀ a, Good (f a)) → Ends ((runM P false s).bind f) pre m K →
  ∃ a w' pre' m', s.run P w = .ok a w' ∧ SatR w0 m'.hp w' ∧ Ends (f a) pre' m' K
 | .pure a, f, pre, m, K, w, hw, hf, h => ⟨a, w, pre, m, rfl, hw, h⟩
 | .program k, f, pre, m, K, w, hw, hf, h => runM_run (s := k P) hw hf h
 | .mark _ k, f, pre, m, K, w, hw, hf, h => runM_run (s := k) hw hf h
 | .load md a k, f, pre, m, K, w, hw, hf, h => by
  have h' : Ends ((Run.loc false a.block).bind fun x => ((match a.spot, x.2.k.cell? a.off with | none, some v => runM P false (k v) | _, _ => M.fail).bind f)) pre m K := fun A hA => by
   have := h A hA
   simpa only [runM, M.bind_assoc] using this
  obtain ⟨j, e, m1, h1, h2, h3, h4, h5⟩ := h'.loc fun x => .bind (by split; exact good_runM P _; exact .fail) hf
  obtain ⟨o, ho, hk⟩ := hw.holds j e h1
  dsimp only at h5
  split at h5
  ·rename_i v hs hv
   obtain ⟨ab, ao, asp⟩ := a
   simp only at hs hv h2
   subst hs h2
   obtain ⟨a', w', pre', m', r1, r2, r3⟩ := runM_run (s := k v) (m := m1) (by rw [h3]; exact hw) hf h5
   refine ⟨a', w', pre', m', ?_, r2, r3⟩
   simp only [Sem.run, MK.cell_ok ho hk hv]
   exact r1
  exact (h5.bind .fail hf).fail.elim
 | .store md a v k, f, pre, m, K, w, hw, hf, h => by
  have h' : Ends ((Run.loc false a.block).bind fun x => ((match a.spot, x.2.own, cellV v, x.2.k.setCell a.off v with
   | none, true, true, some k' => (Run.putE x.1 ⟨true, x.2.b, k'⟩).bind fun _ => runM P false k
   | _, _, _, _ => M.fail).bind f)) pre m K := fun A hA => by
   have := h A hA
   simpa only [runM, M.bind_assoc] using this
  obtain ⟨j, e, m1, h1, h2, h3, h4, h5⟩ := h'.loc fun x => .bind (by
   split
   ·exact .bind (.putE _ _) fun _ => good_runM P k
   exact .fail) hf
  obtain ⟨o, ho, hk⟩ := hw.holds j e h1
  dsimp only at h5
  split at h5
  ·rename_i k' hs hown hcv hst
   rw [M.bind_assoc] at h5
   have h6 := h5.putE
   obtain ⟨ab, ao, asp⟩ := a
   simp only at hs hst h2
   subst hs h2
   obtain ⟨⟨u, hu⟩, o', ho', hk'⟩ := MK.set_ok ho hk hst
   have hsat : SatR w0 (m.hp.set j ⟨true, e.b, k'⟩) (w.setCell ⟨e.b, ao, none⟩ v) :=
    hw.upd h1 hown k' rfl rfl rfl (by simp [World.setCell]) ho' hk' (fun q hq => by
     simp only [World.setCell, Array.getElem?_modify]
     rw [if_neg (fun e' => hq e'.symm)])
   obtain ⟨a', w', pre', m', r1, r2, r3⟩ := runM_run (s := k) (w := w.setCell ⟨e.b, ao, none⟩ v) (by dsimp only; rw [h3]; exact hsat) hf h6
   refine ⟨a', w', pre', m', ?_, r2, r3⟩
   cases v <;> first | (simp [cellV] at hcv; done) | (simp only [Sem.run, MK.cell_ok ho hk hu, MK.frozen_ok ho hk hu]; exact r1)
  exact (h5.bind .fail hf).fail.elim
 | .new o k, f, pre, m, K, w, hw, hf, h => by
  cases hok : objK o with
  | none =>
   have h' : Ends ((M.fail : M α).bind f) pre m K := fun A hA => by
    have := h A hA
    simpa only [runM, hok] using this
   exact (h'.bind .fail hf).fail.elim
  | some mk =>
   have h' : Ends (Run.fresh.bind fun b => (Run.pushE ⟨true, b, mk⟩).bind fun _ => (runM P false (k b)).bind f) pre m K := fun A hA => by
    have := h A hA
    simpa only [runM, hok, M.bind_assoc] using this
   have h1 := (h'.fresh w.heap.size).pushE
   obtain ⟨a', w', pre', m', r1, r2, r3⟩ := runM_run (s := k w.heap.size) (w := w.alloc o) (hw.new m.n mk (objK_ok hok)) hf h1
   exact ⟨a', w', pre', m', r1, r2, r3⟩
 | .shape r k, f, pre, m, K, w, hw, hf, h => by
  have h' : Ends ((Run.loc false r).bind fun x => ((match x.2.k with | .cells cs E => runM P false (k (some (E, cs.n))) | _ => M.fail).bind f)) pre m K := fun A hA => by
   have := h A hA
   simpa only [runM, M.bind_assoc] using this
  obtain ⟨j, e, m1, h1, h2, h3, h4, h5⟩ := h'.loc fun x => .bind (by split; exact good_runM P _; exact .fail) hf
  obtain ⟨o, ho, hk⟩ := hw.holds j e h1
  dsimp only at h5
  split at h5
  ·rename_i cs E he
   rw [he] at hk
   simp only [MK.ok] at hk
   subst hk h2
   obtain ⟨a', w', pre', m', r1, r2, r3⟩ := runM_run (s := k (some (E, cs.n))) (m := m1) (by rw [h3]; exact hw) hf h5
   refine ⟨a', w', pre', m', ?_, r2, r3⟩
   have : w.shape? e.b = some (E, cs.n) := by simp [World.shape?, ho]
   simp only [Sem.run, this]
   exact r1
  exact (h5.bind .fail hf).fail.elim
 | .frozen a k, f, pre, m, K, w, hw, hf, h => by
  have h' : Ends ((Run.loc false a.block).bind fun x => ((match x.2.k with | .cells _ _ => runM P false (k false) | _ => M.fail).bind f)) pre m K := fun A hA => by
   have := h A hA
   simpa only [runM, M.bind_assoc] using this
  obtain ⟨j, e, m1, h1, h2, h3, h4, h5⟩ := h'.loc fun x => .bind (by split; exact good_runM P _; exact .fail) hf
  obtain ⟨o, ho, hk⟩ := hw.holds j e h1
  dsimp only at h5
  split at h5
  ·rename_i cs E he
   rw [he] at hk
   simp only [MK.ok] at hk
   subst hk
   obtain ⟨a', w', pre', m', r1, r2, r3⟩ := runM_run (s := k false) (m := m1) (by rw [h3]; exact hw) hf h5
   refine ⟨a', w', pre', m', ?_, r2, r3⟩
   have : w.frozen? a = false := by simp [World.frozen?, h2, ho]
   simp only [Sem.run, this]
   exact r1
  exact (h5.bind .fail hf).fail.elim
 | .getObj r k, f, pre, m, K, w, hw, hf, h => by
  have h' : Ends ((Run.loc false r).bind fun x => ((match x.2.k with | .ob o => runM P false (k o) | _ => M.fail).bind f)) pre m K := fun A hA => by
   have := h A hA
   simpa only [runM, M.bind_assoc] using this
  obtain ⟨j, e, m1, h1, h2, h3, h4, h5⟩ := h'.loc fun x => .bind (by split; exact good_runM P _; exact .fail) hf
  obtain ⟨o, ho, hk⟩ := hw.holds j e h1
  dsimp only at h5
  split at h5
  ·rename_i o' he
   rw [he] at hk
   obtain ⟨rfl, hn⟩ := hk
   subst h2
   obtain ⟨a', w', pre', m', r1, r2, r3⟩ := runM_run (s := k o) (m := m1) (by rw [h3]; exact hw) hf h5
   refine ⟨a', w', pre', m', ?_, r2, r3⟩
   simp only [Sem.run, ho]
   cases o <;> first | exact r1 | (simp [noCells] at hn; done)
  exact (h5.bind .fail hf).fail.elim
 | .setObj r o k, f, pre, m, K, w, hw, hf, h => by
  have h' : Ends ((Run.loc false r).bind fun x => ((match x.2.own, x.2.k, noCells o with
   | true, .ob _, true => (Run.putE x.1 ⟨true, x.2.b, .ob o⟩).bind fun _ => runM P false k
   | _, _, _ => M.fail).bind f)) pre m K := fun A hA => by
   have := h A hA
   simpa only [runM, M.bind_assoc] using this
  obtain ⟨j, e, m1, h1, h2, h3, h4, h5⟩ := h'.loc fun x => .bind (by
   split
   ·exact .bind (.putE _ _) fun _ => good_runM P k
   exact .fail) hf
  obtain ⟨o1, ho, hk⟩ := hw.holds j e h1
  dsimp only at h5
  split at h5
  ·rename_i o2 hown he hnc
   rw [M.bind_assoc] at h5
   have h6 := h5.putE
   rw [he] at hk
   obtain ⟨rfl, hn⟩ := hk
   subst h2
   have hlt := hw.lt h1
   have hsat : SatR w0 (m.hp.set j ⟨true, e.b, .ob o⟩) { w with heap := w.heap.setIfInBounds e.b o } :=
    hw.upd h1 hown (.ob o) rfl rfl rfl (by simp) (o' := o) (by simp [hlt]) ⟨rfl, hnc⟩ (fun q hq => by
     simp [Array.getElem?_setIfInBounds_ne (Ne.symm hq)])
   obtain ⟨a', w', pre', m', r1, r2, r3⟩ := runM_run (s := k) (w := { w with heap := w.heap.setIfInBounds e.b o }) (by dsimp only; rw [h3]; exact hsat) hf h6
   refine ⟨a', w', pre', m', ?_, r2, r3⟩
   simp only [Sem.run, ho]
   cases o1 <;> first | exact r1 | (simp [noCells] at hn; done)
  exact (h5.bind .fail hf).fail.elim
 | .freeze a n k, f, pre, m, K, w, hw, hf, h => by
  have h' : Ends ((Run.loc false a.block).bind fun x => ((match x.2.own, x.2.k with
   | true, .cells cs E => bif Nat.beq n 1 && Nat.beq a.off cs.n then (Run.putE x.1 ⟨true, x.2.b, .part true cs.n 1 cs E⟩).bind fun _ => runM P false k else M.fail
   | _, _ => M.fail).bind f)) pre m K := fun A hA => by
   have := h A hA
   simpa only [runM, M.bind_assoc] using this
  obtain ⟨j, e, m1, h1, h2, h3, h4, h5⟩ := h'.loc fun x => .bind (by
   split
   ·exact .cond (.bind (.putE _ _) fun _ => good_runM P k) .fail
   exact .fail) hf
  obtain ⟨o1, ho, hk⟩ := hw.holds j e h1
  dsimp only at h5
  split at h5
  ·rename_i cs E hown he
   cases hc : Nat.beq n 1 && Nat.beq a.off cs.n with
   | false => rw [hc] at h5; exact (Ends.bind h5 .fail hf).fail.elim
   | true =>
    rw [hc, cond_true, M.bind_assoc] at h5
    simp only [Bool.and_eq_true] at hc
    obtain ⟨c1, c2⟩ := hc
    have c1 := Nat.eq_of_beq_eq_true c1
    have c2 := Nat.eq_of_beq_eq_true c2
    have h6 := h5.putE
    rw [he] at hk
    simp only [MK.ok] at hk
    subst hk c1
    have hb : (w.freeze a 1).heap[e.b]? = some (.cells cs.l.toArray E (cs.n, cs.n + 1)) := by
     simp [World.freeze, Array.getElem?_modify, ho, c2, h2]
    have hsat : SatR w0 (m.hp.set j ⟨true, e.b, .part true cs.n 1 cs E⟩) (w.freeze a 1) :=
     hw.upd h1 hown (.part true cs.n 1 cs E) (by simp [World.freeze]) (by simp [World.freeze]) (by simp [World.freeze]) (by simp [World.freeze]) hb ⟨[], (cs.n, cs.n + 1), by simp, by simp, .inr ⟨rfl, by simp⟩⟩ (fun q hq => by
      simp only [World.freeze, Nat.one_ne_zero, if_false, Array.getElem?_modify]
      rw [if_neg (fun e' => hq (h2 ▸ e'.symm))])
    obtain ⟨a', w', pre', m', r1, r2, r3⟩ := runM_run (s := k) (w := w.freeze a 1) (by dsimp only; rw [h3]; exact hsat) hf h6
    exact ⟨a', w', pre', m', by simp only [Sem.run]; exact r1, r2, r3⟩
  exact (h5.bind .fail hf).fail.elim
 | .choose .., _, _, _, _, _, _, hf, h | .sys .., _, _, _, _, _, _, hf, h | .halt .., _, _, _, _, _, _, hf, h =>
  (h.bind (x := M.fail) .fail hf).fail.elim
end Run
end
end Go.Proofs.Ytcncfmjfgdbfeab
