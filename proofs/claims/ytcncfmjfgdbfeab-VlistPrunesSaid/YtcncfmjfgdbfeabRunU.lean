/- Whole runs of closed calls: slices of rows whose room is not known; pointers compared; bytes of a string. -/
import Derived.Test.YtcncfmjfgdbfeabRunS
import Derived.Laws.IdiomStrings
import Derived.Lib.AppendZerosOnto
namespace Go.Proofs.Ytcncfmjfgdbfeab
open Go.RowKit
noncomputable section
namespace Run
/-! ### slices -/
structure Sl where
 ty : TypeId
 E : TypeId
 sz : Nat
 a : Addr
 len : Nat
 cap : Nat
 lo : Nat
 hi : Nat
def natV : Value → Option Nat
 | .int _ n => bif decide (0 ≤ n) then some n.toNat else none
 | _ => none
def optV (t : Tr) (d : Nat) : Option Operand → Option Nat
 | none => some d
 | some x => match t.ev? x with
  | some v => natV v
  | none => none
def slOf (P : Program) (t : Tr) (o : Oper) : Option Sl := match o.op with
 | .slice ty x lo hi none => match P.underlying ty, t.ev? x with
  | some (.slice E), some (.slice (some a) len cap) => match (P.info? E).map (·.size), optV t 0 lo, optV t len hi with
   | some sz, some l, some h => some ⟨ty, E, sz, a, len, cap, l, h⟩
   | _, _, _ => none
  | _, _ => none
 | _ => none
def Sl.val (p : Sl) : Value := match p.lo with
 | 0 => .slice (some p.a) p.hi p.cap
 | l + 1 => .slice (some (p.a.add ((l + 1) * p.sz))) (p.hi - (l + 1)) (p.cap - (l + 1))
def slPick (p : Sl) (hp : T ME) (n : Nat) : Nat := match kindOf hp n p.a.block with
 | 1 => bif Nat.beq p.a.off 0 then 1 else 0
 | _ => 0
def evSl (P : Program) (fd : Bool) (p : Sl) (s : Sem Next) : M Next := (pick fd (slPick p)).bind fun k => match k with
 | 0 => runM P fd s
 | _ => (loc fd p.a.block).bind fun x => match x.2.k with
  | .part _ c0 sz0 cs _ => bif Nat.beq sz0 p.sz && Nat.ble 1 p.sz && Nat.ble (p.len * p.sz) cs.n && Nat.ble p.hi p.len && Nat.ble p.lo p.hi && (Nat.beq p.lo 0 || Nat.ble (p.lo + 1) p.hi) then
    (same p.cap c0).bind fun _ => M.ret (.value p.val)
   else M.fail
  | _ => M.fail
theorem good_sl (P : Program) (p : Sl) (s : Sem Next) : Good (evSl P false p s) := by
 unfold evSl
 refine .bind (.pick _) fun k => ?_
 split
 ·exact good_runM P s
 refine .bind (.locB _) fun x => ?_
 split
 ·exact .cond (.bind (.same _ _) fun _ => .ret _) .fail
 exact .fail
theorem bound_run {P : Program} {w : World} {v : Value} {n y : Nat} {code : BoundsCode} (h : natV v = some n) (hy : n ≤ y) : (Instr.sliceBound v y code).run P w = .ok n w := by
 unfold natV at h
 split at h
 ·rename_i k i
  cases hb : decide (0 ≤ i) with
  | false => rw [hb] at h; cases h
  | true =>
   rw [hb] at h
   simp only [cond_true, Option.some.injEq] at h
   have h0 : 0 ≤ i := of_decide_eq_true hb
   have hle : i ≤ (y : Int) := by omega
   subst h
   simp [Instr.sliceBound, asIntOf, h0, hle]
 cases h
theorem slOf_some {P : Program} {t : Tr} {o : Oper} {p : Sl} {s : Sem Next} (h : slOf P t o = some p) (hs : opSem t o = some s) :
  P.underlying p.ty = some (.slice p.E) ∧ (∃ i, P.info? p.E = some i ∧ i.size = p.sz) ∧ ∃ lo hi : Option Value, (∀ v, lo = some v → natV v = some p.lo) ∧ (lo = none → p.lo = 0) ∧ (∀ v, hi = some v → natV v = some p.hi) ∧ (hi = none → p.hi = p.len) ∧
   s = (do let v ← Instr.sliceAt p.ty (.slice (some p.a) p.len p.cap) lo hi none; pure (.value v)) := by
 unfold slOf at h
 split at h
 ·rename_i ty x lo hi hop
  split at h
  ·rename_i E a len cap hu hx
   split at h
   ·rename_i sz l hh hi1 hl1 hh1
    simp only [Option.some.injEq] at h
    subst h
    obtain ⟨i, hi2, hi3⟩ := Option.map_eq_some_iff.1 hi1
    refine ⟨hu, ⟨i, hi2, hi3⟩, lo.map t.ev, hi.map t.ev, fun v hv => ?_, fun hn => ?_, fun v hv => ?_, fun hn => ?_, ?_⟩
    ·obtain ⟨q, rfl, rfl⟩ := Option.map_eq_some_iff.1 hv
     simp only [optV] at hl1
     split at hl1
     ·rename_i u hq; simp only [Tr.ev, hq, Option.getD_some]; exact hl1
     cases hl1
    ·cases lo with
     | none => simpa [optV] using hl1.symm
     | some q => cases hn
    ·obtain ⟨q, rfl, rfl⟩ := Option.map_eq_some_iff.1 hv
     simp only [optV] at hh1
     split at hh1
     ·rename_i u hq; simp only [Tr.ev, hq, Option.getD_some]; exact hh1
     cases hh1
    ·cases hi with
     | none => simpa [optV] using hh1.symm
     | some q => cases hn
    unfold opSem at hs
    cases hall : (noSel o.op && o.op.operands.toList.all fun x => (t.ev? x).isSome) with
    | false => rw [hall] at hs; cases hs
    | true =>
     rw [hall] at hs
     simp only [cond_true, Option.some.injEq] at hs
     rw [← hs]
     have h1 : t.ev x = .slice (some a) len cap := by simp [Tr.ev, hx]
     unfold execOp
     simp [hop, h1]
   cases h
  cases h
 cases h
theorem sl_run {β : Type} {f : Next → M β} {P : Program} {t : Tr} {o : Oper} {p : Sl} {s : Sem Next} {pre : Nat → Nat} {m : Mem} {K : (Nat → Nat) → β → Mem → Prop} {w0 : Bse} {w : World} (hp : slOf P t o = some p) (hs : opSem t o = some s) (hw : SatR w0 m.hp w) (hf : ∀ a, Good (f a))
  (h : Ends ((evSl P false p s).bind f) pre m K) : ∃ x w' pre' m', s.run P w = .ok x w' ∧ SatR w0 m'.hp w' ∧ Ends (f x) pre' m' K := by
 obtain ⟨hu, ⟨ti, hti, hsz⟩, lo, hi, hlo1, hlo2, hhi1, hhi2, hsem⟩ := slOf_some hp hs
 unfold evSl at h
 rw [M.bind_assoc] at h
 obtain ⟨k, m1, k1, k2, h1⟩ := h.pick fun k => .bind (by
  split
  ·exact good_runM P s
  refine .bind (.locB _) fun x => ?_
  split
  ·exact .cond (.bind (.same _ _) fun _ => .ret _) .fail
  exact .fail) hf
 have hw1 : SatR w0 m1.hp w := by rw [k1]; exact hw
 split at h1
 ·exact runM_run hw1 hf h1
 rw [M.bind_assoc] at h1
 obtain ⟨j, e, m2, r1, r2, r3, r4, h2⟩ := h1.loc fun x => .bind (by
  split
  ·exact .cond (.bind (.same _ _) fun _ => .ret _) .fail
  exact .fail) hf
 obtain ⟨ob, ho, hk⟩ := hw1.holds j e r1
 dsimp only at h2
 split at h2
 rotate_left
 ·exact (h2.bind .fail hf).fail.elim
 rename_i fz c0 sz0 cs E0 he
 rw [he] at hk
 obtain ⟨rest, fr, rfl, hlen, hfr⟩ := hk
 cases hcond : (Nat.beq sz0 p.sz && Nat.ble 1 p.sz && Nat.ble (p.len * p.sz) cs.n && Nat.ble p.hi p.len && Nat.ble p.lo p.hi && (Nat.beq p.lo 0 || Nat.ble (p.lo + 1) p.hi)) with
 | false => rw [hcond] at h2; exact (Ends.bind h2 .fail hf).fail.elim
 | true =>
  rw [hcond, cond_true, M.bind_assoc] at h2
  obtain ⟨hcap, m3, s1, s2, h3⟩ := h2.same fun _ => .bind (.ret _) hf
  simp only [Bool.and_eq_true, Bool.or_eq_true] at hcond
  obtain ⟨⟨⟨⟨⟨e1, e2⟩, e3⟩, e4⟩, e5⟩, e6⟩ := hcond
  have e1 := Nat.eq_of_beq_eq_true e1
  have e2 := Nat.le_of_ble_eq_true e2
  have e3 := Nat.le_of_ble_eq_true e3
  have e4 := Nat.le_of_ble_eq_true e4
  have e5 := Nat.le_of_ble_eq_true e5
  have hle : p.len ≤ p.cap := by
   rw [hcap]
   rcases Nat.lt_or_ge c0 p.len with h9 | h9
   ·have := Nat.mul_le_mul_right p.sz (Nat.succ_le_of_lt h9)
    rw [Nat.succ_mul] at this
    rw [e1] at hlen
    omega
   exact h9
  have hrun : s.run P w = .ok (.value p.val) w := by
   rw [hsem]
   have hbounds : (Instr.sliceBounds true p.len p.cap lo hi none).run P w = .ok (p.lo, p.hi, p.cap) w := by
    unfold Instr.sliceBounds
    cases hi with
    | none =>
     have h7 := hhi2 rfl
     cases lo with
     | none => simp [hlo2 rfl, h7]
     | some v =>
      have h8 := fun code => bound_run (P := P) (w := w) (code := code) (hlo1 v rfl) (show p.lo ≤ p.len by omega)
      simp [h7, h8, Result.andThen]
    | some u =>
     have h7 := fun code => bound_run (P := P) (w := w) (code := code) (hhi1 u rfl) (show p.hi ≤ p.cap by omega)
     cases lo with
     | none => simp [hlo2 rfl, h7, Result.andThen]
     | some v =>
      have h8 := fun code => bound_run (P := P) (w := w) (code := code) (hlo1 v rfl) e5
      simp [h7, h8, Result.andThen]
   have hsl : (Instr.sliceAt p.ty (.slice (some p.a) p.len p.cap) lo hi none).run P w = .ok p.val w := by
    unfold Instr.sliceAt
    simp only [Sem.run_bind, run_underlying hu, Result.andThen]
    unfold Instr.slice
    simp only [Sem.run_bind, run_underlying hu, Result.andThen, hbounds, sizeOf, typeInfo, program, Sem.run, hti]
    simp only [Sem.run_pure]
    congr 1
    unfold Sl.val
    cases hl : p.lo with
    | zero =>
     simp only [Nat.sub_zero, Nat.zero_mul]
     have : (Option.map (fun x : Addr => x.add 0) (some p.a)) = some p.a := by simp [Addr.add]
     rw [this]
     split <;> rfl
    | succ l =>
     have h9 : ¬ p.cap = l + 1 := by
      rcases e6 with h | h
      ·rw [hl] at h; cases h
      have := Nat.le_of_ble_eq_true h
      omega
     rw [if_neg h9, hsz]
     rfl
   simp only [Sem.run_bind, hsl, Result.andThen, Sem.run_pure]
  exact ⟨_, w, pre, m3, hrun, by rw [s1, r3]; exact hw1, h3⟩
/-! ### pointers compared -/
structure Peq where
 neg : Bool
 a : Addr
 b : Addr
def pqOf (P : Program) (t : Tr) (o : Oper) : Option Peq := match o.op with
 | .binOp op ty x y _ => match P.underlying ty, t.ev? x, t.ev? y with
  | some (.pointer E), some (.pointer (some a)), some (.pointer (some b)) => match (P.info? E).map (·.size), op with
   | some (_ + 1), .eql => some ⟨false, a, b⟩
   | some (_ + 1), .neq => some ⟨true, a, b⟩
   | _, _ => none
  | _, _, _ => none
 | _ => none
def pqPick (p : Peq) : Nat := bif Nat.beq p.a.block p.b.block then 0 else 1
def evPq (fd : Bool) (p : Peq) : M Next := (pick fd fun _ _ => pqPick p).bind fun k => match k with
 | 0 => (same p.a.block p.b.block).bind fun _ => M.ret (.value (.bool (xor p.neg (decide (p.a.off = p.b.off) && decide (p.a.spot = p.b.spot)))))
 | _ => (loc fd p.a.block).bind fun x => (loc fd p.b.block).bind fun y => match x.2.own || y.2.own, Nat.beq x.1 y.1, x.2.k, y.2.k with
  | true, false, .cells _ _, .cells _ _ => M.ret (.value (.bool p.neg))
  | _, _, _, _ => M.fail
theorem good_pq (p : Peq) : Good (evPq false p) := by
 unfold evPq
 refine .bind (.pick _) fun k => ?_
 split
 ·exact .bind (.same _ _) fun _ => .ret _
 refine .bind (.locB _) fun x => .bind (.locB _) fun y => ?_
 split
 ·exact .ret _
 exact .fail
theorem addr_eq {a b : Addr} (h : a.block = b.block) : (a == b) = (decide (a.off = b.off) && decide (a.spot = b.spot)) := by
 obtain ⟨a1, a2, a3⟩ := a
 obtain ⟨b1, b2, b3⟩ := b
 simp only at h
 subst h
 rw [Bool.eq_iff_iff]
 simp
theorem equal_run {P : Program} {ty E : TypeId} {i : TypeInfo} {a b : Addr} {w : World} {r : Bool} (hu : P.underlying ty = some (.pointer E)) (hi : P.info? E = some i) (hn : i.size ≠ 0) (h : (sameAddr a b).run P w = .ok r w) :
  (Op.equal ty (.pointer (some a)) (.pointer (some b))).run P w = .ok r w := by
 unfold Op.equal Op.maxDepth
 unfold Op.equalIn
 simp only [Sem.run_bind, run_underlying hu, Result.andThen]
 simp [sizeOf, typeInfo, program, Sem.run, hi, hn, h, Result.andThen]
theorem differ_run {P : Program} {a b : Addr} {w : World} {cs cs' : List Value} {E E' : TypeId} (hne : a.block ≠ b.block) (ha : w.heap[a.block]? = some (.cells cs.toArray E (0, 0))) (hb : w.heap[b.block]? = some (.cells cs'.toArray E' (0, 0))) :
  (sameAddr a b).run P w = .ok false w := by
 have h1 : (a.block == b.block) = false := by simpa using hne
 have fa : ∀ o, w.frozen? ⟨a.block, o, none⟩ = false := fun o => by simp [World.frozen?, ha]
 have fb : ∀ o, w.frozen? ⟨b.block, o, none⟩ = false := fun o => by simp [World.frozen?, hb]
 have fa' : w.frozen? a = false := by simp [World.frozen?, ha]
 have fb' : w.frozen? b = false := by simp [World.frozen?, hb]
 have sa : w.shape? a.block = some (E, cs.length) := by simp [World.shape?, ha]
 have sb : w.shape? b.block = some (E', cs'.length) := by simp [World.shape?, hb]
 simp [sameAddr, h1, frozen, shape, Sem.run, fa, fb, fa', fb', noView, viewAt, mayBeOne, stringish, sa, sb, Result.andThen]
theorem pqOf_some {P : Program} {t : Tr} {o : Oper} {p : Peq} {s : Sem Next} (h : pqOf P t o = some p) (hs : opSem t o = some s) {w : World} {r : Bool} (hr : (sameAddr p.a p.b).run P w = .ok r w) : s.run P w = .ok (.value (.bool (xor p.neg r))) w := by
 unfold pqOf at h
 split at h
 ·rename_i op ty x y yt hop
  split at h
  ·rename_i E a b hu hx hy
   have hsem : s = execOp t.ev o := by
    unfold opSem at hs
    cases hall : (noSel o.op && o.op.operands.toList.all fun x => (t.ev? x).isSome) with
    | false => rw [hall] at hs; cases hs
    | true => rw [hall] at hs; simp only [cond_true, Option.some.injEq] at hs; exact hs.symm
   have h1 : t.ev x = .pointer (some a) := by simp [Tr.ev, hx]
   have h2 : t.ev y = .pointer (some b) := by simp [Tr.ev, hy]
   split at h
   ·rename_i k hk
    obtain ⟨i, hi1, hi2⟩ := Option.map_eq_some_iff.1 hk
    simp only [Option.some.injEq] at h
    subst h
    have he := equal_run hu hi1 (by omega) hr
    rw [hsem]
    unfold execOp
    simp [hop, h1, h2, eqGuard, binOp, he, Result.andThen]
   ·rename_i k hk
    obtain ⟨i, hi1, hi2⟩ := Option.map_eq_some_iff.1 hk
    simp only [Option.some.injEq] at h
    subst h
    have he := equal_run hu hi1 (by omega) hr
    rw [hsem]
    unfold execOp
    simp [hop, h1, h2, eqGuard, binOp, he, Result.andThen]
   cases h
  cases h
 cases h
theorem pq_run {β : Type} {f : Next → M β} {P : Program} {t : Tr} {o : Oper} {p : Peq} {s : Sem Next} {pre : Nat → Nat} {m : Mem} {K : (Nat → Nat) → β → Mem → Prop} {w0 : Bse} {w : World} (hp : pqOf P t o = some p) (hs : opSem t o = some s) (hw : SatR w0 m.hp w) (hf : ∀ a, Good (f a))
  (h : Ends ((evPq false p).bind f) pre m K) : ∃ x w' pre' m', s.run P w = .ok x w' ∧ SatR w0 m'.hp w' ∧ Ends (f x) pre' m' K := by
 unfold evPq at h
 rw [M.bind_assoc] at h
 have g2 : ∀ x y : Nat × ME, Good ((match x.2.own || y.2.own, Nat.beq x.1 y.1, x.2.k, y.2.k with
  | true, false, .cells _ _, .cells _ _ => M.ret (.value (.bool p.neg))
  | _, _, _, _ => M.fail : M Next)) := fun x y => by
  split
  ·exact .ret _
  exact .fail
 obtain ⟨k, m1, k1, k2, h1⟩ := h.pick fun k => .bind (by
  split
  ·exact .bind (.same _ _) fun _ => .ret _
  exact .bind (.locB _) fun x => .bind (.locB _) fun y => g2 x y) hf
 have hw1 : SatR w0 m1.hp w := by rw [k1]; exact hw
 split at h1
 ·rw [M.bind_assoc] at h1
  obtain ⟨hb, m2, s1, s2, h2⟩ := h1.same fun _ => .bind (.ret _) hf
  refine ⟨_, w, pre, m2, pqOf_some hp hs (r := (decide (p.a.off = p.b.off) && decide (p.a.spot = p.b.spot))) ?_, by rw [s1]; exact hw1, h2⟩
  have hbb : (p.a.block == p.b.block) = true := by simpa using hb
  unfold sameAddr
  simp only [hbb, if_true]
  rw [addr_eq hb]
  rfl
 rw [M.bind_assoc] at h1
 obtain ⟨j, e, m2, r1, r2, r3, r4, h2⟩ := h1.loc fun x => .bind (.bind (.locB _) fun y => g2 x y) hf
 rw [M.bind_assoc] at h2
 obtain ⟨j', e', m3, q1, q2, q3, q4, h3⟩ := h2.loc fun y => .bind (g2 (j, e) y) hf
 rw [r3] at q1
 obtain ⟨oa, hoa, hka⟩ := hw1.holds j e r1
 obtain ⟨ob, hob, hkb⟩ := hw1.holds j' e' q1
 dsimp only at h3
 split at h3
 ·rename_i cs E cs' E' hown hne hea heb
  rw [hea] at hka
  rw [heb] at hkb
  simp only [MK.ok] at hka hkb
  subst hka hkb
  have hj : j ≠ j' := fun e1 => by rw [e1, Nat.beq_refl] at hne; cases hne
  have hbl : p.a.block ≠ p.b.block := by
   rw [r2, q2]
   simp only [Bool.or_eq_true] at hown
   rcases hown with h9 | h9
   ·exact hw1.apart j j' e e' hj r1 q1 h9
   exact (hw1.apart j' j e' e (Ne.symm hj) q1 r1 h9).symm
  have := pqOf_some hp hs (differ_run (P := P) hbl (by rw [r2]; exact hoa) (by rw [q2]; exact hob))
  rw [Bool.xor_false] at this
  exact ⟨_, w, pre, m3, this, by rw [q3, r3]; exact hw1, h3⟩
 exact (h3.bind .fail hf).fail.elim
/-! ### the bytes of a string -/
structure Sb where
 E : TypeId
 s : ByteArray
def sbOf (P : Program) (t : Tr) (o : Oper) : Option Sb := match o.op with
 | .convert src dst x => match P.underlying src, P.underlying dst, t.ev? x with
  | some .string, some (.slice E), some (.string s) => match P.underlying E with
   | some (.int .u8) => some ⟨E, s⟩
   | _ => none
  | _, _, _ => none
 | _ => none
def Sb.cells (p : Sb) : List Value := p.s.data.toList.map fun b => .int .u8 b.toNat
def evSb (p : Sb) : M Next := fresh.bind fun b => fresh.bind fun c => (pushE ⟨true, b, .part true c 1 (L.ofList p.cells) p.E⟩).bind fun _ => M.ret (.value (.slice (some ⟨b, 0, none⟩) p.s.size c))
theorem good_sb (p : Sb) : Good (evSb p) := .bind .fresh fun _b => .bind .fresh fun _c => .bind (.pushE _) fun _ => .ret _
theorem sb_run {β : Type} {f : Next → M β} {P : Program} {t : Tr} {o : Oper} {p : Sb} {s : Sem Next} {pre : Nat → Nat} {m : Mem} {K : (Nat → Nat) → β → Mem → Prop} {w0 : Bse} {w : World} (hp : sbOf P t o = some p) (hs : opSem t o = some s) (hw : SatR w0 m.hp w)
  (h : Ends ((evSb p).bind f) pre m K) : ∃ x w' pre' m', s.run P w = .ok x w' ∧ SatR w0 m'.hp w' ∧ Ends (f x) pre' m' K := by
 unfold sbOf at hp
 split at hp
 ·rename_i src dst x hop
  split at hp
  ·rename_i E st hsrc hdst hx
   split at hp
   ·rename_i hE
    simp only [Option.some.injEq] at hp
    subst hp
    have hsem : s = execOp t.ev o := by
     unfold opSem at hs
     cases hall : (noSel o.op && o.op.operands.toList.all fun x => (t.ev? x).isSome) with
     | false => rw [hall] at hs; cases hs
     | true => rw [hall] at hs; simp only [cond_true, Option.some.injEq] at hs; exact hs.symm
    have h1 : t.ev x = .string st := by simp [Tr.ev, hx]
    have hge := grownCap_ge w st.size 0 E
    have hsz : (bytesRow st (grownCap w st.size 0 E)).size = grownCap w st.size 0 E := by
     have : st.data.size = st.size := rfl
     simp [bytesRow]; omega
    have hconv := run_bytes_of_string (P := P) w src dst E st hsrc hdst hE
    have hrun : s.run P w = .ok (.value (.slice (some ⟨w.heap.size, 0, none⟩) st.size (grownCap w st.size 0 E))) (w.drew.alloc (.cells (bytesRow st (grownCap w st.size 0 E)) E ((bytesRow st (grownCap w st.size 0 E)).size, (bytesRow st (grownCap w st.size 0 E)).size + 1))) := by
     rw [hsem]
     unfold execOp
     simp only [hop, h1, Sem.run_bind, hconv, Result.andThen, Sem.run_pure]
    unfold evSb at h
    simp only [M.bind_assoc] at h
    have h3 := ((h.fresh w.heap.size).fresh (grownCap w st.size 0 E)).pushE
    refine ⟨_, _, _, _, hrun, ?_, h3⟩
    dsimp only
    refine (hw.draw (w.drawn + 1)).new m.n (.part true (grownCap w st.size 0 E) 1 _ E) ⟨List.replicate (grownCap w st.size 0 E - st.size) (.int .u8 0), ((bytesRow st (grownCap w st.size 0 E)).size, (bytesRow st (grownCap w st.size 0 E)).size + 1), ?_, ?_, .inr ⟨rfl, ?_⟩⟩
    ·congr 1; apply Array.ext'; simp [Sb.cells, bytesRow]
    ·have : st.data.size = st.size := rfl
     rw [← L.len, L.ofList_l]
     simp [Sb.cells]; omega
    simp only; rw [hsz]; omega
   cases hp
  cases hp
 cases hp
/-! ### append of so many zeros, out of nothing (slices.Grow) -/
structure Apz where
 ty : TypeId
 u : TypeId
 E : TypeId
 sz : Nat
 by_ : Nat
 z : List Value
 kq : IntKind
 k : Nat
def zerosL (z : List Value) : Nat → List Value
 | 0 => []
 | n + 1 => z ++ zerosL z n
theorem zerosL_len (z : List Value) : ∀ n, (zerosL z n).length = n * z.length
 | 0 => by simp [zerosL]
 | n + 1 => by simp only [zerosL, List.length_append, zerosL_len z n]; rw [Nat.add_mul]; omega
theorem zerosL_eq (z : Array Value) : ∀ n, (Builtin.zeroCells z n).toList = zerosL z.toList n
 | 0 => by simp [Builtin.zeroCells, zerosL]
 | n + 1 => by
  have ih := zerosL_eq z n
  simp only [Builtin.zeroCells, Array.toList_map, Array.toList_range] at ih ⊢
  rw [show (n + 1) * z.size = z.size + n * z.size by rw [Nat.add_mul]; omega, List.range_add, List.map_append, List.map_map]
  simp only [zerosL]
  congr 1
  ·refine List.ext_getElem (by simp) fun i h1 h2 => ?_
   have hi : i < z.size := by simpa using h1
   rw [List.getElem_map, List.getElem_range, Nat.mod_eq_of_lt hi, getElem!_pos z i hi, Array.getElem_toList]
  rw [← ih]
  refine List.map_congr_left fun i _ => ?_
  simp
def zeroOf (P : Program) (E : TypeId) : Option (List Value) := match P.info? E with
 | some i => i.zero.map fun z => z.cells.toList
 | none => none
def apzOf (P : Program) (t : Tr) (o : Oper) : Option Apz := match o.op with
 | .call cc => match cc.callee, cc.args.toList, cc.argTypes.toList with
  | .builtin .append, [s, x], [ty, u] => (match elemInfo P ty, P.underlying u, t.ev? s, t.ev? x with
   | some (E, sz, by_), some (.int _), some (.slice none 0 0), some (.int kq (.ofNat k)) => (match zeroOf P E with
    | some z => some ⟨ty, u, E, sz, by_, z, kq, k⟩
    | none => none)
   | _, _, _, _ => none)
  | _, _, _ => none
 | _ => none
def evApz (p : Apz) : M Next := bif Nat.ble p.k 9223372036854775807 && Nat.ble (p.k * p.by_) 140737488355328 && Nat.ble 1 p.k && Nat.ble 1 p.sz then
  fresh.bind fun b => fresh.bind fun c => (pushE ⟨true, b, .part false c p.sz (L.ofList (zerosL p.z p.k)) p.E⟩).bind fun _ => M.ret (.value (.slice (some ⟨b, 0, none⟩) p.k c))
 else M.fail
theorem good_apz (p : Apz) : Good (evApz p) := by
 unfold evApz
 exact .cond (.bind .fresh fun b => .bind .fresh fun c => .bind (.pushE _) fun _ => .ret _) .fail
theorem apz_run {β : Type} {f : Next → M β} {P : Program} {t : Tr} {o : Oper} {s : Sem Next} {p : Apz} {pre : Nat → Nat} {m : Mem} {K : (Nat → Nat) → β → Mem → Prop} {w0 : Bse} {w : World} (hp : apzOf P t o = some p) (hs : opSem t o = some s) (hw : SatR w0 m.hp w) (hf : ∀ a, Good (f a))
  (h : Ends ((evApz p).bind f) pre m K) : ∃ x w' pre' m', s.run P w = .ok x w' ∧ SatR w0 m'.hp w' ∧ Ends (f x) pre' m' K := by
 unfold apzOf at hp
 split at hp
 ·rename_i cc hop
  split at hp
  ·rename_i sx x ty u hcc ha1 ha2
   split at hp
   ·rename_i E sz by_ kn kq k hi hu he1 he2
    split at hp
    ·rename_i z hz
     simp only [Option.some.injEq] at hp
     subst hp
     have hop' : o.op = .call { callee := .builtin .append, args := #[sx, x], argTypes := #[ty, u] } := by
      rw [hop]
      obtain ⟨c1, c2, c3⟩ := cc
      simp only at hcc ha1 ha2
      have e2 : c2 = #[sx, x] := by rw [← ha1]
      have e3 : c3 = #[ty, u] := by rw [← ha2]
      rw [hcc, e2, e3]
     have hsem : s = execOp t.ev o := by
      unfold opSem at hs
      cases hall : (noSel o.op && o.op.operands.toList.all fun x => (t.ev? x).isSome) with
      | false => rw [hall] at hs; cases hs
      | true => rw [hall] at hs; simp only [cond_true, Option.some.injEq] at hs; exact hs.symm
     obtain ⟨hu', ti, z', hti, hz', hzs, hsz, hby⟩ := elemInfo_some hi
     have ez : z = z'.cells.toList := by
      unfold zeroOf at hz
      rw [hti] at hz
      simp only [hz', Option.map_some, Option.some.injEq] at hz
      exact hz.symm
     unfold evApz at h
     cases hb : (Nat.ble k 9223372036854775807 && Nat.ble (k * by_) 140737488355328 && Nat.ble 1 k && Nat.ble 1 sz) with
     | false => simp only [hb, cond_false] at h; exact (Ends.bind h .fail hf).fail.elim
     | true =>
      simp only [hb, cond_true, M.bind_assoc] at h
      simp only [Bool.and_eq_true] at hb
      have f1 := Nat.le_of_ble_eq_true hb.1.1.1
      have f2 := Nat.le_of_ble_eq_true hb.1.1.2
      have f3 := Nat.le_of_ble_eq_true hb.1.2
      have f4 := Nat.le_of_ble_eq_true hb.2
      have h3 := ((h.fresh w.heap.size).fresh (grownCap w k 0 E)).pushE
      have hold : (Builtin.firstCells ti.size 0 (.slice none 0 0)).run P w.drew = .ok ([] : List Value).toArray w.drew := run_firstCells_none w.drew ti.size 0 0 0
      have hrun := Lib.run_append_grow_zeros (P := P) w ty u o.type E ti z' kq _ hu' hu hti hz' none 0 0 [] hold k (by omega) (by omega) (by omega) (by omega) (by rw [hby]; omega) (by rw [Nat.zero_add, nextslicecap_zero (by omega), hby]; omega)
      rw [Nat.zero_add] at hrun
      have h1 : t.ev sx = .slice none 0 0 := by simp [Tr.ev, he1]
      have h2 : t.ev x = .int kq (k : Int) := by simp [Tr.ev, he2]
      have hrun' : s.run P w = .ok (.value (.slice (some ⟨w.heap.size, 0, none⟩) k (grownCap w k 0 E))) (w.drew.alloc (.cells (([] : List Value).toArray ++ Builtin.zeroCells z'.cells k ++ Builtin.zeroCells z'.cells (grownCap w k 0 E - k)) E)) := by
       rw [hsem]
       unfold execOp
       simp only [hop', resolve, invoke, builtin, Result.andThen, Sem.run_bind, Sem.run_pure]
       simp [hrun, h1, h2]
      refine ⟨_, _, _, _, hrun', ?_, h3⟩
      dsimp only
      have hge := grownCap_ge w k 0 E
      refine (hw.draw (w.drawn + 1)).new m.n (.part false (grownCap w k 0 E) sz (L.ofList (zerosL z k)) E) ⟨(Builtin.zeroCells z'.cells (grownCap w k 0 E - k)).toList, (0, 0), ?_, ?_, .inl rfl⟩
      ·rw [L.ofList_l, ez, ← zerosL_eq]
       simp
      rw [← L.len, L.ofList_l, zerosL_len, ez, Array.length_toList, Array.length_toList, zeroCells_size, hzs, hsz, ← Nat.add_mul]
      congr 1
      omega
    cases hp
   cases hp
  cases hp
 cases hp
/-! ### all together -/
def cls : Op → Nat
 | .call _ => 1
 | .slice .. => 2
 | .binOp .. => 3
 | .convert .. => 4
 | .move _ | .assign _ => 5
 | _ => 0
def evSem (P : Program) (fd : Bool) (t : Tr) (o : Oper) (s : Sem Next) : M Next := match cls o.op with
 | 1 => match appOf P t o with
  | some p => evApp P fd p s
  | none => match apzOf P t o with
   | some p => evApz p
   | none => runM P fd s
 | 2 => match slOf P t o with
  | some p => evSl P fd p s
  | none => runM P fd s
 | 3 => match pqOf P t o with
  | some p => evPq fd p
  | none => runM P fd s
 | 4 => match sbOf P t o with
  | some p => evSb p
  | none => runM P fd s
 | _ => runM P fd s
theorem good_sem (P : Program) (t : Tr) (o : Oper) (s : Sem Next) : Good (evSem P false t o s) := by
 unfold evSem
 split
 ·split
  ·exact good_app _ _ _
  split
  ·exact good_apz _
  exact good_runM _ _
 ·split
  ·exact good_sl _ _ _
  exact good_runM _ _
 ·split
  ·exact good_pq _
  exact good_runM _ _
 ·split
  ·exact good_sb _
  exact good_runM _ _
 exact good_runM _ _
theorem sem_run {β : Type} {f : Next → M β} {P : Program} {t : Tr} {o : Oper} {s : Sem Next} {pre : Nat → Nat} {m : Mem} {K : (Nat → Nat) → β → Mem → Prop} {w0 : Bse} {w : World} (hs : opSem t o = some s) (hw : SatR w0 m.hp w) (hf : ∀ a, Good (f a)) (h : Ends ((evSem P false t o s).bind f) pre m K) :
  ∃ x w' pre' m', s.run P w = .ok x w' ∧ SatR w0 m'.hp w' ∧ Ends (f x) pre' m' K := by
 unfold evSem at h
 split at h
 ·split at h
  ·rename_i p hp
   obtain ⟨h1, h2⟩ := appOf_some hp hs
   subst h1
   exact app_run h2 hw hf h
  split at h
  ·rename_i p hp
   exact apz_run hp hs hw hf h
  exact runM_run hw hf h
 ·split at h
  ·rename_i p hp
   exact sl_run hp hs hw hf h
  exact runM_run hw hf h
 ·split at h
  ·rename_i p hp
   exact pq_run hp hs hw hf h
  exact runM_run hw hf h
 ·split at h
  ·rename_i p hp
   exact sb_run hp hs hw h
  exact runM_run hw hf h
 exact runM_run hw hf h
end Run
end
end Go.Proofs.Ytcncfmjfgdbfeab
