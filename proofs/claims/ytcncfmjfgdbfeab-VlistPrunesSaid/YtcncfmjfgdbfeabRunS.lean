/- Whole runs of closed calls: append, slices and pointers where the room is not known. -/
import Derived.Test.YtcncfmjfgdbfeabRun2
namespace Go.Proofs.Ytcncfmjfgdbfeab
open Go.RowKit
noncomputable section
namespace Run
def sub (cs : L) (off n : Nat) : Option (List Value) := bif Nat.ble (off + n) cs.n then some (seg cs.t off n) else none
def MK.at (k : MK) (off n : Nat) : Option (List Value) := match k with
 | .cells cs _ => sub cs off n
 | .part _ _ _ cs _ => sub cs off n
 | _ => none
theorem sub_some {cs : L} {l : List Value} {off n : Nat} (h : sub cs off n = some l) : l.length = n ∧ ∀ j v, l[j]? = some v → cs.get? (off + j) = some v := by
 unfold sub at h
 cases hb : Nat.ble (off + n) cs.n with
 | false => rw [hb] at h; cases h
 | true =>
  rw [hb] at h
  simp only [cond_true, Option.some.injEq] at h
  subst h
  have := Nat.le_of_ble_eq_true hb
  refine ⟨seg_len _ _ _, fun j v hv => ?_⟩
  have hj : j < n := by
   have := (List.getElem?_eq_some_iff.1 hv).1
   rw [seg_len] at this
   exact this
  rw [seg_get _ _ _ _ hj] at hv
  unfold L.get?
  rw [Nat.ble_eq_true_of_le (by omega), cond_true, hv]
theorem MK.at_some {k : MK} {off n : Nat} {l : List Value} (h : k.at off n = some l) : l.length = n ∧ ∀ j v, l[j]? = some v → k.cell? (off + j) = some v := by
 unfold MK.at at h
 split at h
 ·exact sub_some h
 ·exact sub_some h
 cases h
def readN (fd : Bool) (a : Addr) (n : Nat) : M (List Value) := (loc fd a.block).bind fun x => match a.spot, x.2.k.at a.off n with
 | none, some l => M.ret l
 | _, _ => M.fail
theorem good_readN (a : Addr) (n : Nat) : Good (readN false a n) := by
 unfold readN
 refine .bind (.locB _) fun x => ?_
 split
 ·exact .ret _
 exact .fail
theorem readN_run {β : Type} {f : List Value → M β} {a : Addr} {n : Nat} {pre : Nat → Nat} {m : Mem} {K : (Nat → Nat) → β → Mem → Prop} {w0 : Bse} {w : World} (hw : SatR w0 m.hp w) (hf : ∀ a, Good (f a)) (h : Ends ((readN false a n).bind f) pre m K) :
  ∃ l m', l.length = n ∧ (∀ j v, l[j]? = some v → w.cell? (a.add j) = some v) ∧ m'.hp = m.hp ∧ m'.n = m.n ∧ Ends (f l) pre m' K := by
 unfold readN at h
 rw [M.bind_assoc] at h
 obtain ⟨j, e, m1, h1, h2, h3, h4, h5⟩ := h.loc fun x => .bind (by
  split
  ·exact .ret _
  exact .fail) hf
 obtain ⟨o, ho, hk⟩ := hw.holds j e h1
 dsimp only at h5
 split at h5
 ·rename_i l hs hl
  obtain ⟨q1, q2⟩ := MK.at_some hl
  refine ⟨l, m1, q1, fun i v hv => ?_, h3, h4, h5⟩
  obtain ⟨ab, ao, asp⟩ := a
  simp only at hs h2 q2
  subst hs h2
  rw [add_addr]
  exact MK.cell_ok ho hk (q2 i v hv)
 exact (h5.bind .fail hf).fail.elim
structure App where
 ty : TypeId
 E : TypeId
 sz : Nat
 by_ : Nat
 base : Option Addr
 len : Nat
 cap : Nat
 ax : Addr
 m : Nat
 c : Nat
def elemInfo (P : Program) (ty : TypeId) : Option (TypeId × Nat × Nat) := match P.underlying ty with
 | some (.slice E) => match P.info? E with
  | some i => match i.zero with
   | some z => bif Nat.beq z.cells.size i.size then some (E, i.size, i.bytes) else none
   | none => none
  | none => none
 | _ => none
def appOf (P : Program) (t : Tr) (o : Oper) : Option App := match o.op with
 | .call cc => match cc.callee, cc.args.toList, cc.argTypes.toList with
  | .builtin .append, [s, x], [ty, u] => bif Nat.beq ty u then (match elemInfo P ty, t.ev? s, t.ev? x with
   | some (E, sz, by_), some (.slice base len cap), some (.slice (some ax) m c) => some ⟨ty, E, sz, by_, base, len, cap, ax, m, c⟩
   | _, _, _ => none) else none
  | _, _, _ => none
 | _ => none
def App.sem (p : App) (type : TypeId) : Sem Next := do
 let v ← Builtin.append_ #[p.ty, p.ty] type #[.slice p.base p.len p.cap, .slice (some p.ax) p.m p.c]
 pure (.value v)
theorem elemInfo_some {P : Program} {ty E : TypeId} {sz by_ : Nat} (h : elemInfo P ty = some (E, sz, by_)) : P.underlying ty = some (.slice E) ∧ ∃ i z, P.info? E = some i ∧ i.zero = some z ∧ z.cells.size = i.size ∧ i.size = sz ∧ i.bytes = by_ := by
 unfold elemInfo at h
 split at h
 ·rename_i E' hu
  split at h
  ·rename_i i hi
   split at h
   ·rename_i z hz
    cases hb : Nat.beq z.cells.size i.size with
    | false => rw [hb] at h; cases h
    | true =>
     rw [hb] at h
     simp only [cond_true, Option.some.injEq, Prod.mk.injEq] at h
     obtain ⟨rfl, rfl, rfl⟩ := h
     exact ⟨hu, i, z, hi, hz, Nat.eq_of_beq_eq_true hb, rfl, rfl⟩
   cases h
  cases h
 cases h
theorem appOf_some {P : Program} {t : Tr} {o : Oper} {p : App} {s : Sem Next} (h : appOf P t o = some p) (hs : opSem t o = some s) : s = p.sem o.type ∧ elemInfo P p.ty = some (p.E, p.sz, p.by_) := by
 unfold appOf at h
 split at h
 ·rename_i cc hop
  split at h
  ·rename_i sx x ty u hcc ha1 ha2
   cases hb : Nat.beq ty u with
   | false => rw [hb] at h; cases h
   | true =>
    rw [hb, cond_true] at h
    split at h
    ·rename_i E sz by_ base len cap ax m c hi he1 he2
     simp only [Option.some.injEq] at h
     subst h
     refine ⟨?_, hi⟩
     have hty := Nat.eq_of_beq_eq_true hb
     subst hty
     have hop' : o.op = .call { callee := .builtin .append, args := #[sx, x], argTypes := #[ty, ty] } := by
      rw [hop]
      obtain ⟨c1, c2, c3⟩ := cc
      simp only at hcc ha1 ha2
      have e2 : c2 = #[sx, x] := by rw [← ha1]
      have e3 : c3 = #[ty, ty] := by rw [← ha2]
      rw [hcc, e2, e3]
     have hsem : s = execOp t.ev o := by
      unfold opSem at hs
      cases hall : (noSel o.op && o.op.operands.toList.all fun x => (t.ev? x).isSome) with
      | false => rw [hall] at hs; cases hs
      | true => rw [hall] at hs; simp only [cond_true, Option.some.injEq] at hs; exact hs.symm
     rw [hsem]
     have h1 : t.ev sx = .slice base len cap := by simp [Tr.ev, he1]
     have h2 : t.ev x = .slice (some ax) m c := by simp [Tr.ev, he2]
     unfold execOp App.sem
     simp [hop', resolve, invoke, builtin, h1, h2]
    cases h
  cases h
 cases h
def kindOf (hp : T ME) (n b : Nat) : Nat := match findB hp b n with
 | some (_, e) => match e.k with
  | .part .. => 1
  | _ => 0
 | none => 0
def appPick (p : App) (hp : T ME) (n : Nat) : Nat := match p.base with
 | none => match p.m with
  | 0 => 0
  | _ => 1
 | some a => match kindOf hp n a.block with
  | 1 => 2
  | _ => bif Nat.ble (p.len + p.m) p.cap then 0 else 3
def App.fits (p : App) : Bool := Nat.ble (p.len + p.m) 9223372036854775807 && Nat.ble ((p.len + p.m) * p.by_) 140737488355328 && Nat.ble 1 p.m
def evApp (P : Program) (fd : Bool) (p : App) (s : Sem Next) : M Next := (pick fd (appPick p)).bind fun k => match k with
 | 0 => runM P fd s
 | 1 => match p.base, p.len, p.cap with
  | none, 0, 0 => bif p.fits then (readN fd p.ax (p.m * p.sz)).bind fun news => fresh.bind fun b => fresh.bind fun c =>
    (pushE ⟨true, b, .part false c p.sz (L.ofList news) p.E⟩).bind fun _ => M.ret (.value (.slice (some ⟨b, 0, none⟩) p.m c))
   else M.fail
  | _, _, _ => M.fail
 | 2 => match p.base with
  | some ⟨b0, 0, none⟩ => bif p.fits then (readN fd p.ax (p.m * p.sz)).bind fun news => (loc fd b0).bind fun x => match x.2.own, x.2.k with
   | true, .part false c0 sz0 cs E0 => bif Nat.beq sz0 p.sz && Nat.beq E0 p.E && Nat.ble (p.len * p.sz) cs.n && news.all Value.oneCell' && Nat.ble 1 p.sz then
     (same p.cap c0).bind fun _ => fresh.bind fun b => fresh.bind fun c => (putE x.1 ⟨true, b, .part false c p.sz ((cs.take (p.len * p.sz)).app news) p.E⟩).bind fun _ =>
      M.ret (.value (.slice (some ⟨b, 0, none⟩) (p.len + p.m) c))
    else M.fail
   | _, _ => M.fail
   else M.fail
  | _ => M.fail
 | _ => match p.base with
  | some a => bif p.fits && Nat.ble (p.cap + 1) (p.len + p.m) then (readN fd a (p.len * p.sz)).bind fun olds => (readN fd p.ax (p.m * p.sz)).bind fun news => fresh.bind fun b => fresh.bind fun c =>
    (pushE ⟨true, b, .part false c p.sz ((L.ofList olds).app news) p.E⟩).bind fun _ => M.ret (.value (.slice (some ⟨b, 0, none⟩) (p.len + p.m) c))
   else M.fail
  | none => M.fail
theorem good_app (P : Program) (p : App) (s : Sem Next) : Good (evApp P false p s) := by
 unfold evApp
 refine .bind (.pick _) fun k => ?_
 split
 ·exact good_runM P s
 ·split
  ·exact .cond (.bind (good_readN _ _) fun news => .bind .fresh fun b => .bind .fresh fun c => .bind (.pushE _) fun _ => .ret _) .fail
  exact .fail
 ·split
  ·refine .cond (.bind (good_readN _ _) fun news => .bind (.locB _) fun x => ?_) .fail
   split
   ·exact .cond (.bind (.same _ _) fun _ => .bind .fresh fun b => .bind .fresh fun c => .bind (.putE _ _) fun _ => .ret _) .fail
   exact .fail
  exact .fail
 split
 ·exact .cond (.bind (good_readN _ _) fun olds => .bind (good_readN _ _) fun news => .bind .fresh fun b => .bind .fresh fun c => .bind (.pushE _) fun _ => .ret _) .fail
 exact .fail
theorem zeroCells_size (z : Array Value) (n : Nat) : (Builtin.zeroCells z n).size = n * z.size := by simp [Builtin.zeroCells]
theorem app_run {β : Type} {f : Next → M β} {P : Program} {p : App} {ty : TypeId} {pre : Nat → Nat} {m : Mem} {K : (Nat → Nat) → β → Mem → Prop} {w0 : Bse} {w : World} (hi : elemInfo P p.ty = some (p.E, p.sz, p.by_)) (hw : SatR w0 m.hp w) (hf : ∀ a, Good (f a))
  (h : Ends ((evApp P false p (p.sem ty)).bind f) pre m K) : ∃ x w' pre' m', (p.sem ty).run P w = .ok x w' ∧ SatR w0 m'.hp w' ∧ Ends (f x) pre' m' K := by
 obtain ⟨hu, ti, z, hti, hz, hzs, hsz, hby⟩ := elemInfo_some hi
 have hzc : ∀ k, (Builtin.zeroCells z.cells k).size = k * p.sz := fun k => by rw [zeroCells_size, hzs, hsz]
 have hval : ∀ {v w'}, (Builtin.append_ #[p.ty, p.ty] ty #[.slice p.base p.len p.cap, .slice (some p.ax) p.m p.c]).run P w = .ok v w' → (p.sem ty).run P w = .ok (.value v) w' := fun {v w'} hr => by
  unfold App.sem
  simp [hr, Result.andThen]
 unfold evApp at h
 rw [M.bind_assoc] at h
 have hG := good_app P p (p.sem ty)
 obtain ⟨k, m1, k1, k2, h1⟩ := h.pick fun k => .bind (by
  split
  ·exact good_runM P _
  ·split
   ·exact .cond (.bind (good_readN _ _) fun news => .bind .fresh fun b => .bind .fresh fun c => .bind (.pushE _) fun _ => .ret _) .fail
   exact .fail
  ·split
   ·refine .cond (.bind (good_readN _ _) fun news => .bind (.locB _) fun x => ?_) .fail
    split
    ·exact .cond (.bind (.same _ _) fun _ => .bind .fresh fun b => .bind .fresh fun c => .bind (.putE _ _) fun _ => .ret _) .fail
    exact .fail
   exact .fail
  split
  ·exact .cond (.bind (good_readN _ _) fun olds => .bind (good_readN _ _) fun news => .bind .fresh fun b => .bind .fresh fun c => .bind (.pushE _) fun _ => .ret _) .fail
  exact .fail) hf
 have hw1 : SatR w0 m1.hp w := by rw [k1]; exact hw
 split at h1
 ·exact runM_run hw1 hf h1
 ·-- out of nothing
  split at h1
  rotate_left
  ·exact (h1.bind .fail hf).fail.elim
  rename_i hb hl hc
  cases hfit : p.fits with
  | false => rw [hfit] at h1; exact (Ends.bind h1 .fail hf).fail.elim
  | true =>
   rw [hfit, cond_true, M.bind_assoc] at h1
   simp only [App.fits, Bool.and_eq_true] at hfit
   have f1 := Nat.le_of_ble_eq_true hfit.1.1
   have f2 := Nat.le_of_ble_eq_true hfit.1.2
   have f3 := Nat.le_of_ble_eq_true hfit.2
   rw [hl, Nat.zero_add] at f1 f2
   obtain ⟨news, m2, q1, q2, q3, q4, h2⟩ := readN_run hw1 (fun news => .bind (.bind .fresh fun b => .bind .fresh fun c => .bind (.pushE _) fun _ => .ret _) hf) h1
   simp only [M.bind_assoc] at h2
   have h3 := ((h2.fresh w.heap.size).fresh (grownCap w p.m 0 p.E)).pushE
   have hrun := run_append_nil (P := P) (w := w) p.ty ty p.E ti z hu hti hz p.ax p.m p.c news (by rw [q1, hsz]) q2 (by omega) (by omega) (by rw [hby]; omega)
   rw [← hb, show (Value.slice p.base 0 0) = .slice p.base p.len p.cap by rw [hl, hc]] at hrun
   refine ⟨_, _, _, _, hval hrun, ?_, h3⟩
   dsimp only
   rw [q3]
   have hge := grownCap_ge w p.m 0 p.E
   refine (hw1.draw (w.drawn + 1)).new m2.n (.part false (grownCap w p.m 0 p.E) p.sz (L.ofList news) p.E) ⟨(Builtin.zeroCells z.cells (grownCap w p.m 0 p.E - p.m)).toList, (0, 0), by simp, ?_, .inl rfl⟩
   rw [← L.len, L.ofList_l, q1, Array.length_toList, hzc, ← Nat.add_mul]
   congr 1
   omega
 ·-- a row whose room is not known
  split at h1
  rotate_left
  ·exact (h1.bind .fail hf).fail.elim
  rename_i b0 hb
  cases hfit : p.fits with
  | false => rw [hfit] at h1; exact (Ends.bind h1 .fail hf).fail.elim
  | true =>
   rw [hfit, cond_true, M.bind_assoc] at h1
   simp only [App.fits, Bool.and_eq_true] at hfit
   have f1 := Nat.le_of_ble_eq_true hfit.1.1
   have f2 := Nat.le_of_ble_eq_true hfit.1.2
   have f3 := Nat.le_of_ble_eq_true hfit.2
   have g2 : ∀ (news : List Value) (x : Nat × ME), Good ((match x.2.own, x.2.k with
    | true, .part false c0 sz0 cs E0 => bif Nat.beq sz0 p.sz && Nat.beq E0 p.E && Nat.ble (p.len * p.sz) cs.n && news.all Value.oneCell' && Nat.ble 1 p.sz then
      (same p.cap c0).bind fun _ => fresh.bind fun b => fresh.bind fun c => (putE x.1 ⟨true, b, .part false c p.sz ((cs.take (p.len * p.sz)).app news) p.E⟩).bind fun _ =>
       M.ret (.value (.slice (some ⟨b, 0, none⟩) (p.len + p.m) c))
     else M.fail
    | _, _ => M.fail : M Next)) := fun news x => by
    split
    ·exact .cond (.bind (.same _ _) fun _ => .bind .fresh fun b => .bind .fresh fun c => .bind (.putE _ _) fun _ => .ret _) .fail
    exact .fail
   obtain ⟨news, m2, q1, q2, q3, q4, h2⟩ := readN_run hw1 (fun news => .bind (.bind (.locB _) (g2 news)) hf) h1
   rw [M.bind_assoc] at h2
   have hw2 : SatR w0 m2.hp w := by rw [q3]; exact hw1
   obtain ⟨j, e, m3, r1, r2, r3, r4, h3⟩ := h2.loc fun x => .bind (g2 news x) hf
   obtain ⟨o, ho, hk⟩ := hw2.holds j e r1
   dsimp only at h3
   split at h3
   rotate_left
   ·exact (h3.bind .fail hf).fail.elim
   rename_i c0 sz0 cs E0 hown he
   rw [he] at hk
   obtain ⟨rest, fr, rfl, hlen, hfr⟩ := hk
   have hfr0 : fr = (0, 0) := by rcases hfr with h | ⟨h, _⟩; exact h; cases h
   subst hfr0
   cases hcond : (Nat.beq sz0 p.sz && Nat.beq E0 p.E && Nat.ble (p.len * p.sz) cs.n && news.all Value.oneCell' && Nat.ble 1 p.sz) with
   | false => rw [hcond] at h3; exact (Ends.bind h3 .fail hf).fail.elim
   | true =>
    rw [hcond, cond_true] at h3
    simp only [M.bind_assoc] at h3
    simp only [Bool.and_eq_true] at hcond
    obtain ⟨⟨⟨⟨e1, e2⟩, e3⟩, e4⟩, e5⟩ := hcond
    have e1 := Nat.eq_of_beq_eq_true e1
    have e2 := Nat.eq_of_beq_eq_true e2
    have e3 := Nat.le_of_ble_eq_true e3
    have e5 := Nat.le_of_ble_eq_true e5
    subst e1 e2 r2
    obtain ⟨hcap, m4, s1, s2, h4⟩ := h3.same fun _ => .bind .fresh fun b => .bind .fresh fun c => .bind (.putE _ _) fun _ => .bind (.ret _) hf
    have hle : p.len ≤ c0 := by
     rcases Nat.lt_or_ge c0 p.len with h9 | h9
     ·have := Nat.mul_le_mul_right p.sz (Nat.succ_le_of_lt h9)
      rw [Nat.succ_mul] at this
      omega
     exact h9
    have hm4 : m4.hp = m2.hp := s1.trans r3
    have hcn := L.len cs
    by_cases hroom : p.len + p.m ≤ c0
    ·have h5 := ((h4.fresh e.b).fresh c0).putE
     have hml : p.len * p.sz + p.m * p.sz ≤ c0 * p.sz := by rw [← Nat.add_mul]; exact Nat.mul_le_mul_right _ hroom
     have hrun := run_append_room (P := P) (w := w) p.ty ty p.E ti hu hti e.b p.len c0 _ ho p.ax p.m p.c news (by rw [q1, hsz]) q2 (List.all_eq_true.1 e4) hroom (by
      simp only [List.size_toArray, List.length_append, hsz, q1, L.len]
      omega)
     rw [← hb, ← hcap] at hrun
     have h6 := hval hrun
     rw [hb, hcap] at h6
     refine ⟨_, _, _, _, h6, ?_, h5⟩
     dsimp only
     rw [hm4]
     refine hw2.upd r1 hown (.part false c0 p.sz ((cs.take (p.len * p.sz)).app news) p.E) rfl rfl rfl (by simp [World.setRow]) (setRow_heap w e.b _ _ p.E (0, 0) ho) ⟨(cs.l ++ rest).drop (p.len * p.sz + news.length), (0, 0), ?_, ?_, .inl rfl⟩ (fun q hq => ?_)
     ·simp only [hsz, L.app_l, L.take_l]
      rw [List.take_append_of_le_length (by omega)]
     ·rw [← L.len, L.app_l, L.take_l]
      simp only [List.length_append, List.length_take, List.length_drop, q1, L.len]
      omega
     simp only [World.setRow, Array.getElem?_modify]
     rw [if_neg (fun e' => hq e'.symm)]
    have h5 := ((h4.fresh w.heap.size).fresh (grownCap w (p.len + p.m) c0 p.E)).putE
    have hlo : (cs.l.take (p.len * p.sz)).length = p.len * p.sz := by rw [List.length_take]; omega
    have holds : ∀ k v, (cs.l.take (p.len * p.sz))[k]? = some v → w.cell? (Addr.add ⟨e.b, 0, none⟩ k) = some v := fun k v hv => by
     rw [add_addr, Nat.zero_add]
     rw [List.getElem?_take] at hv
     split at hv
     ·have hlt := (List.getElem?_eq_some_iff.1 hv).1
      refine cell_obj ho ?_
      rw [List.getElem?_append_left hlt]; exact hv
     cases hv
    have hrun := run_append_grow (P := P) (w := w) p.ty ty p.E ti z hu hti hz ⟨e.b, 0, none⟩ p.len c0 _ (by rw [hlo, hsz]) holds p.ax p.m p.c news (by rw [q1, hsz]) q2 (by omega) (by omega) (growslice_fits (by omega) (by rw [hby]; exact f2))
    rw [← hb, ← hcap] at hrun
    have h6 := hval hrun
    rw [hcap] at h6
    refine ⟨_, _, _, _, h6, ?_, h5⟩
    dsimp only
    rw [hm4]
    have hge := grownCap_ge w (p.len + p.m) c0 p.E
    refine (hw2.draw (w.drawn + 1)).new j (.part false (grownCap w (p.len + p.m) c0 p.E) p.sz ((cs.take (p.len * p.sz)).app news) p.E) ⟨(Builtin.zeroCells z.cells (grownCap w (p.len + p.m) c0 p.E - (p.len + p.m))).toList, (0, 0), by simp, ?_, .inl rfl⟩
    rw [← L.len, L.app_l, L.take_l, List.length_append, hlo, q1, Array.length_toList, hzc, ← Nat.add_mul, ← Nat.add_mul]
    congr 1
    omega
 -- a known row that is full
 split at h1
 rotate_left
 ·exact (h1.bind .fail hf).fail.elim
 rename_i a hb
 cases hfit : (p.fits && Nat.ble (p.cap + 1) (p.len + p.m)) with
 | false => rw [hfit] at h1; exact (Ends.bind h1 .fail hf).fail.elim
 | true =>
  rw [hfit, cond_true] at h1
  simp only [App.fits, Bool.and_eq_true] at hfit
  have f1 := Nat.le_of_ble_eq_true hfit.1.1.1
  have f2 := Nat.le_of_ble_eq_true hfit.1.1.2
  have f3 := Nat.le_of_ble_eq_true hfit.1.2
  have f4 := Nat.le_of_ble_eq_true hfit.2
  rw [M.bind_assoc] at h1
  obtain ⟨olds, m2, q1, q2, q3, q4, h2⟩ := readN_run hw1 (fun olds => .bind (.bind (good_readN _ _) fun news => .bind .fresh fun b => .bind .fresh fun c => .bind (.pushE _) fun _ => .ret _) hf) h1
  rw [M.bind_assoc] at h2
  have hw2 : SatR w0 m2.hp w := by rw [q3]; exact hw1
  obtain ⟨news, m3, r1, r2, r3, r4, h3⟩ := readN_run hw2 (fun news => .bind (.bind .fresh fun b => .bind .fresh fun c => .bind (.pushE _) fun _ => .ret _) hf) h2
  simp only [M.bind_assoc] at h3
  have h5 := ((h3.fresh w.heap.size).fresh (grownCap w (p.len + p.m) p.cap p.E)).pushE
  have hrun := run_append_grow (P := P) (w := w) p.ty ty p.E ti z hu hti hz a p.len p.cap olds (by rw [q1, hsz]) q2 p.ax p.m p.c news (by rw [r1, hsz]) r2 (by omega) (by omega) (growslice_fits (by omega) (by rw [hby]; exact f2))
  rw [← hb] at hrun
  refine ⟨_, _, _, _, hval hrun, ?_, h5⟩
  dsimp only
  rw [r3]
  have hge := grownCap_ge w (p.len + p.m) p.cap p.E
  refine (hw2.draw (w.drawn + 1)).new m3.n (.part false (grownCap w (p.len + p.m) p.cap p.E) p.sz ((L.ofList olds).app news) p.E) ⟨(Builtin.zeroCells z.cells (grownCap w (p.len + p.m) p.cap p.E - (p.len + p.m))).toList, (0, 0), by simp, ?_, .inl rfl⟩
  rw [← L.len, L.app_l, L.ofList_l, List.length_append, q1, r1, Array.length_toList, hzc, ← Nat.add_mul, ← Nat.add_mul]
  congr 1
  omega
end Run
end
end Go.Proofs.Ytcncfmjfgdbfeab
