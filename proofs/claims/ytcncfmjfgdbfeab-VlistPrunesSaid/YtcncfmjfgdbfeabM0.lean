/- Base Nod Fast. -/
import Derived.Test.YtcncfmjfgdbfeabRows
import Derived.WalkKit
import Derived.WalkSpells
import Derived.WalkLawsBesides
import Derived.ProofKit
import Derived.OpenShut
import Derived.ShutString
import Derived.Lib.Hide
import Derived.Deep.QuietTactic
import Derived.BigQuiet
import Derived.ChangeSame
import Derived.Laws.StructEq
import Derived.LoopN
import Derived.Deep.Quiet
namespace Go.Proofs.Ytcncfmjfgdbfeab
open Go.RowKit Go.WideShapes Go.ChangeShapes
theorem ret_int {k : IntKind} {a b : Int} (h : a = b) : Ending.returned (.int k a) = .returned (.int k b) := by rw [h]
theorem ret_bool {a b : Bool} (h : a = b) : Ending.returned (.bool a) = .returned (.bool b) := by rw [h]
theorem ret_str {a b : ByteArray} (h : a = b) : Ending.returned (.string a) = .returned (.string b) := by rw [h]
theorem ret_ii {k l : IntKind} {a b c d : Int} (h : a = b) (h' : c = d) : Ending.returned (.tuple #[.int k a, .int l c]) = .returned (.tuple #[.int k b, .int l d]) := by rw [h, h']
theorem ret_iii {k l m : IntKind} {a b c d e f : Int} (h : a = b) (h' : c = d) (h'' : e = f) : Ending.returned (.tuple #[.int k a, .int l c, .int m e]) = .returned (.tuple #[.int k b, .int l d, .int m f]) := by rw [h, h', h'']
theorem ret_iib {k l : IntKind} {a b c d : Int} {e f : Bool} (h : a = b) (h' : c = d) (h'' : e = f) : Ending.returned (.tuple #[.int k a, .int l c, .bool e]) = .returned (.tuple #[.int k b, .int l d, .bool f]) := by rw [h, h', h'']
theorem w64 {a : Int} (h : -9223372036854775808 ≤ a) (h' : a ≤ 9223372036854775807) : wrap64 a = a := by
 unfold wrap64; omega
theorem tdiv_bd {x n B : Int} (h : -B ≤ x) (h' : x ≤ B) : -B ≤ x.tdiv n ∧ x.tdiv n ≤ B := by
 have hq : (x.tdiv n).natAbs ≤ x.natAbs := by rw [Int.natAbs_tdiv]; exact Nat.div_le_self _ _
 omega
theorem bcell {W w1 : World} (hb : Below W.heap.size W w1) : (∀ b o, b < W.heap.size → w1.cell? ⟨b, o, none⟩ = W.cell? ⟨b, o, none⟩) ∧ (∀ b o, b < W.heap.size → w1.frozen? ⟨b, o, none⟩ = W.frozen? ⟨b, o, none⟩) :=
 ⟨fun b o h => hb.cell (p := ⟨b, o, none⟩) h, fun b o h => hb.frozen (p := ⟨b, o, none⟩) h⟩
theorem below_drewN {B : Nat} {a w : World} (h : Below B a w) (n : Nat) : Below B a (w.drewN n) := ⟨h.os, h.tape, h.output, h.size, h.block⟩
abbrev Kept (w w1 : World) : Prop := Below w.heap.size w w1
theorem Kept.refl (w : World) : Kept w w := Below.refl _ _
theorem Kept.trans {a b c : World} (h : Kept a b) (k : Kept b c) : Kept a c := Below.trans h (k.mono h.size)
section
variable {H : Type} {enc : TypeId × Value → H} {P : Program}
theorem post_of_below {f : Func} {s : ChangeSpec} {apart fresh handsOn again : Bool} {W W' : World} {args : Array Value} {v : Value} {ds gs : List (DataW H)} {before pa pv : List MemPlace}
  (hW : DataW.Whole enc P f.params.toList s.vars apart W args.toList ds gs before)
  (hres : ∀ (b : Nat) (sp : Nat → Bool) (hd : Bool), DataW.TrodAll enc P W' b sp hd f.resultTypes.toList (v.resultList f.resultTypes.size) (s.fn H (ds ++ gs)).results [])
  (hargs : ∀ sp : Nat → Bool, (∀ p ∈ before, sp p.block = true) → DataW.TrodAll enc P W' 0 sp true f.params.toList args.toList (s.fn H (ds ++ gs)).args pa)
  (hvars : ∀ sp : Nat → Bool, (∀ p ∈ before, sp p.block = true) → DataW.TrodVars enc P W' sp s.vars (s.fn H (ds ++ gs)).vars pv)
  (hps : before = pa ++ pv) (hb : Below W.heap.size W W')
  (hok : ∀ (j : Nat) (t : TypeId) (r : Value), f.resultTypes[j]? = some t → (v.resultList f.resultTypes.size)[j]? = some r → Value.okWide P W' .any 0 t r) :
  s.post enc P f apart fresh handsOn again W args v W' := by
 have hlt : ∀ p ∈ before, p.block < W.heap.size := fun p hp => hW.lt p hp
 have hold : ∀ p ∈ before, (fun b => decide (b < W.heap.size)) p.block = true := fun p hp => by simpa using hlt p hp
 refine ⟨ds, gs, before, [], pa, pv, hW, hres _ _ _, hargs _ hold, hvars _ hold, World.keptBut_mono (fun p hp => ⟨hp, ?_⟩) (hb.frame (· ∈ before)), fun _ => ?_⟩
 ·rw [hps, List.mem_append] at hp
  exact Or.inr hp
 obtain ⟨_, _, _, _, _, hz, hn⟩ := hW
 refine ⟨hok, _, _, ([] ++ pa) ++ pv, ⟨[] ++ pa, pv, trodAll_append (hargs _ (fun _ _ => rfl)) (hres _ _ _), hvars _ (fun _ _ => rfl), rfl, ?_, ?_⟩, ?_⟩
 ·intro b off hp
  have hin : MemPlace.cell b off ∈ before := by rw [hps]; simpa using hp
  rw [hb.frozen (hlt _ hin)]
  exact hz b off hin
 ·intro ha
  have := hn ha
  rw [hps] at this
  simpa using this
 intro p hp _
 rw [hps]
 simpa using hp
end
theorem kR {p : Prop} (h : p := by kernel_rfl) : p := h
theorem kL {a b : Nat} (h : Nat.ble a b = true := by kernel_rfl) : a ≤ b := Nat.le_of_ble_eq_true h
end Go.Proofs.Ytcncfmjfgdbfeab
namespace Go.Proofs.Ytcncfmjfgdbfeab
set_option maxRecDepth 100000
set_option maxHeartbeats 8000000
open Go.RowKit
structure Nod where
 kind : Int
 font : Int
 char : Int
 w : Int
 h : Int
 d : Int
 shift : Int
 nat : Int
 str : Int
 shr : Int
 so : Int
 sho : Int
 sign : Int
 ord : Int
 num : Int
 den : Int
 pen : Int
 sub : Int
 text : ByteArray
deriving DecidableEq
abbrev nodV (n : Nod) : Value := .agg #[.int .i64 n.kind, .int .i64 n.font, .int .u8 n.char, .int .i64 n.w, .int .i64 n.h, .int .i64 n.d, .int .i64 n.shift, .int .i64 n.nat, .int .i64 n.str, .int .i64 n.shr, .int .i64 n.so, .int .i64 n.sho, .int .i64 n.sign, .int .i64 n.ord, .int .i64 n.num, .int .i64 n.den, .int .i64 n.pen, .int .i64 n.sub, .string n.text]
theorem ba_ne {a b : ByteArray} (h : a ≠ b) : (a.toList == b.toList) = false := by
 refine beq_eq_false_iff_ne.2 fun e => h ?_
 rw [ByteArray.toList_eq, ByteArray.toList_eq] at e
 obtain ⟨⟨x⟩⟩ := a
 obtain ⟨⟨y⟩⟩ := b
 have e' : x = y := e
 rw [e']
theorem ba_eq (a : ByteArray) : (a.toList == a.toList) = true := by
 exact beq_self_eq_true a.toList
theorem node_neq (x y : Nod) (h : x ≠ y) (w : World) : (binOp .eql 136 (nodV x) (nodV y)).run Try.prog w = .ok (.bool false) w := by
 obtain ⟨x0, x1, x2, x3, x4, x5, x6, x7, x8, x9, x10, x11, x12, x13, x14, x15, x16, x17, x18⟩ := x
 obtain ⟨y0, y1, y2, y3, y4, y5, y6, y7, y8, y9, y10, y11, y12, y13, y14, y15, y16, y17, y18⟩ := y
 by_cases h0 : x0 = y0
 case neg =>
  have e : (x0 == y0) = false := by simpa using h0
  clear h h0
  go_simp
 subst h0
 by_cases h1 : x1 = y1
 case neg =>
  have e : (x1 == y1) = false := by simpa using h1
  clear h h1
  go_simp
 subst h1
 by_cases h2 : x2 = y2
 case neg =>
  have e : (x2 == y2) = false := by simpa using h2
  clear h h2
  go_simp
 subst h2
 by_cases h3 : x3 = y3
 case neg =>
  have e : (x3 == y3) = false := by simpa using h3
  clear h h3
  go_simp
 subst h3
 by_cases h4 : x4 = y4
 case neg =>
  have e : (x4 == y4) = false := by simpa using h4
  clear h h4
  go_simp
 subst h4
 by_cases h5 : x5 = y5
 case neg =>
  have e : (x5 == y5) = false := by simpa using h5
  clear h h5
  go_simp
 subst h5
 by_cases h6 : x6 = y6
 case neg =>
  have e : (x6 == y6) = false := by simpa using h6
  clear h h6
  go_simp
 subst h6
 by_cases h7 : x7 = y7
 case neg =>
  have e : (x7 == y7) = false := by simpa using h7
  clear h h7
  go_simp
 subst h7
 by_cases h8 : x8 = y8
 case neg =>
  have e : (x8 == y8) = false := by simpa using h8
  clear h h8
  go_simp
 subst h8
 by_cases h9 : x9 = y9
 case neg =>
  have e : (x9 == y9) = false := by simpa using h9
  clear h h9
  go_simp
 subst h9
 by_cases h10 : x10 = y10
 case neg =>
  have e : (x10 == y10) = false := by simpa using h10
  clear h h10
  go_simp
 subst h10
 by_cases h11 : x11 = y11
 case neg =>
  have e : (x11 == y11) = false := by simpa using h11
  clear h h11
  go_simp
 subst h11
 by_cases h12 : x12 = y12
 case neg =>
  have e : (x12 == y12) = false := by simpa using h12
  clear h h12
  go_simp
 subst h12
 by_cases h13 : x13 = y13
 case neg =>
  have e : (x13 == y13) = false := by simpa using h13
  clear h h13
  go_simp
 subst h13
 by_cases h14 : x14 = y14
 case neg =>
  have e : (x14 == y14) = false := by simpa using h14
  clear h h14
  go_simp
 subst h14
 by_cases h15 : x15 = y15
 case neg =>
  have e : (x15 == y15) = false := by simpa using h15
  clear h h15
  go_simp
 subst h15
 by_cases h16 : x16 = y16
 case neg =>
  have e : (x16 == y16) = false := by simpa using h16
  clear h h16
  go_simp
 subst h16
 by_cases h17 : x17 = y17
 case neg =>
  have e : (x17 == y17) = false := by simpa using h17
  clear h h17
  go_simp
 subst h17
 by_cases h18 : x18 = y18
 case neg =>
  have e : (x18.toList == y18.toList) = false := ba_ne h18
  clear h h18
  go_simp
 subst h18
 exact absurd rfl h
theorem node_same (x : Nod) (w : World) : (binOp .eql 136 (nodV x) (nodV x)).run Try.prog w = .ok (.bool true) w := by
 have e := ba_eq x.text
 go_simp
theorem node_eql (x y : Nod) (w : World) : (binOp .eql 136 (nodV x) (nodV y)).run Try.prog w = .ok (.bool (decide (x = y))) w := by
 by_cases h : x = y
 ·subst h; rw [node_same, decide_eq_true rfl]
 rw [node_neq x y h, decide_eq_false h]
theorem apiNode_neq (x y : Nod) (h : x ≠ y) (w : World) : (binOp .eql 55 (nodV x) (nodV y)).run Try.prog w = .ok (.bool false) w := by
 obtain ⟨x0, x1, x2, x3, x4, x5, x6, x7, x8, x9, x10, x11, x12, x13, x14, x15, x16, x17, x18⟩ := x
 obtain ⟨y0, y1, y2, y3, y4, y5, y6, y7, y8, y9, y10, y11, y12, y13, y14, y15, y16, y17, y18⟩ := y
 by_cases h0 : x0 = y0
 case neg =>
  have e : (x0 == y0) = false := by simpa using h0
  clear h h0
  go_simp
 subst h0
 by_cases h1 : x1 = y1
 case neg =>
  have e : (x1 == y1) = false := by simpa using h1
  clear h h1
  go_simp
 subst h1
 by_cases h2 : x2 = y2
 case neg =>
  have e : (x2 == y2) = false := by simpa using h2
  clear h h2
  go_simp
 subst h2
 by_cases h3 : x3 = y3
 case neg =>
  have e : (x3 == y3) = false := by simpa using h3
  clear h h3
  go_simp
 subst h3
 by_cases h4 : x4 = y4
 case neg =>
  have e : (x4 == y4) = false := by simpa using h4
  clear h h4
  go_simp
 subst h4
 by_cases h5 : x5 = y5
 case neg =>
  have e : (x5 == y5) = false := by simpa using h5
  clear h h5
  go_simp
 subst h5
 by_cases h6 : x6 = y6
 case neg =>
  have e : (x6 == y6) = false := by simpa using h6
  clear h h6
  go_simp
 subst h6
 by_cases h7 : x7 = y7
 case neg =>
  have e : (x7 == y7) = false := by simpa using h7
  clear h h7
  go_simp
 subst h7
 by_cases h8 : x8 = y8
 case neg =>
  have e : (x8 == y8) = false := by simpa using h8
  clear h h8
  go_simp
 subst h8
 by_cases h9 : x9 = y9
 case neg =>
  have e : (x9 == y9) = false := by simpa using h9
  clear h h9
  go_simp
 subst h9
 by_cases h10 : x10 = y10
 case neg =>
  have e : (x10 == y10) = false := by simpa using h10
  clear h h10
  go_simp
 subst h10
 by_cases h11 : x11 = y11
 case neg =>
  have e : (x11 == y11) = false := by simpa using h11
  clear h h11
  go_simp
 subst h11
 by_cases h12 : x12 = y12
 case neg =>
  have e : (x12 == y12) = false := by simpa using h12
  clear h h12
  go_simp
 subst h12
 by_cases h13 : x13 = y13
 case neg =>
  have e : (x13 == y13) = false := by simpa using h13
  clear h h13
  go_simp
 subst h13
 by_cases h14 : x14 = y14
 case neg =>
  have e : (x14 == y14) = false := by simpa using h14
  clear h h14
  go_simp
 subst h14
 by_cases h15 : x15 = y15
 case neg =>
  have e : (x15 == y15) = false := by simpa using h15
  clear h h15
  go_simp
 subst h15
 by_cases h16 : x16 = y16
 case neg =>
  have e : (x16 == y16) = false := by simpa using h16
  clear h h16
  go_simp
 subst h16
 by_cases h17 : x17 = y17
 case neg =>
  have e : (x17 == y17) = false := by simpa using h17
  clear h h17
  go_simp
 subst h17
 by_cases h18 : x18 = y18
 case neg =>
  have e : (x18.toList == y18.toList) = false := ba_ne h18
  clear h h18
  go_simp
 subst h18
 exact absurd rfl h
theorem apiNode_same (x : Nod) (w : World) : (binOp .eql 55 (nodV x) (nodV x)).run Try.prog w = .ok (.bool true) w := by
 have e := ba_eq x.text
 go_simp
theorem apiNode_eql (x y : Nod) (w : World) : (binOp .eql 55 (nodV x) (nodV y)).run Try.prog w = .ok (.bool (decide (x = y))) w := by
 by_cases h : x = y
 ·subst h; rw [apiNode_same, decide_eq_true rfl]
 rw [apiNode_neq x y h, decide_eq_false h]
end Go.Proofs.Ytcncfmjfgdbfeab
namespace Go.Proofs.Ytcncfmjfgdbfeab
open Go.RowKit
noncomputable section
variable {P : Program}
/-! ### computations that ask the program alone -/
def runQ {α : Type} (p : Program) : Sem α → Option α
 | .pure a => some a
 | .program k => runQ p (k p)
 | .mark _ k => runQ p k
 | _ => none
theorem runQ_run {α : Type} {p : Program} : ∀ {s : Sem α} {a : α}, runQ p s = some a → ∀ w, s.run p w = .ok a w
 | .pure a, b, h, w => by simp only [runQ, Option.some.injEq] at h; subst h; rfl
 | .program k, b, h, w => by
  simp only [runQ] at h
  exact runQ_run (s := k p) h w
 | .mark m k, b, h, w => by
  simp only [runQ] at h
  exact runQ_run (s := k) h w
 | .load .., _, h, _ | .store .., _, h, _ | .new .., _, h, _ | .shape .., _, h, _ | .freeze .., _, h, _ | .frozen .., _, h, _ | .getObj .., _, h, _ | .setObj .., _, h, _ | .choose .., _, h, _ | .sys .., _, h, _ | .halt .., _, h, _ => by
  simp [runQ] at h
/-! ### tries -/
inductive Tr where
 | nil
 | node (v : Option Value) (l r : Tr)
def Tr.get (t : Tr) : Nat → Option Value :=
 @Tr.rec (fun _ => Nat → Option Value) (fun _ => none)
  (fun v _ _ gl gr i => @Nat.rec (fun _ => Option Value) v (fun j _ => @Bool.rec (fun _ => Option Value) (gr (Nat.div j (nat_lit 2))) (gl (Nat.div j (nat_lit 2))) (Nat.beq (Nat.mod j (nat_lit 2)) (nat_lit 0))) i) t
def Tr.sing (v : Option Value) : Nat → Nat → Tr :=
 @Nat.rec (fun _ => Nat → Tr) (fun _ => .nil) (fun _ ih i => @Nat.rec (fun _ => Tr) (.node v .nil .nil) (fun j _ => @Bool.rec (fun _ => Tr) (.node none .nil (ih (Nat.div j (nat_lit 2)))) (.node none (ih (Nat.div j (nat_lit 2))) .nil) (Nat.beq (Nat.mod j (nat_lit 2)) (nat_lit 0))) i)
def Tr.set (t : Tr) (i : Nat) (v : Option Value) : Tr :=
 @Tr.rec (fun _ => Nat → Tr) (fun i => Tr.sing v (Nat.succ i) i)
  (fun u l r sl sr i => @Nat.rec (fun _ => Tr) (.node v l r) (fun j _ => @Bool.rec (fun _ => Tr) (.node u l (sr (Nat.div j (nat_lit 2)))) (.node u (sl (Nat.div j (nat_lit 2))) r) (Nat.beq (Nat.mod j (nat_lit 2)) (nat_lit 0))) i) t i
@[simp] theorem Tr.get_nil (i : Nat) : Tr.nil.get i = none := rfl
@[simp] theorem Tr.get_zero (v : Option Value) (l r : Tr) : (Tr.node v l r).get 0 = v := rfl
theorem Tr.get_succ (v : Option Value) (l r : Tr) (i : Nat) : (Tr.node v l r).get (i + 1) = bif Nat.beq (i % 2) 0 then l.get (i / 2) else r.get (i / 2) := by
 show @Bool.rec (fun _ => Option Value) (r.get (i / 2)) (l.get (i / 2)) (Nat.beq (i % 2) 0) = _
 cases Nat.beq (i % 2) 0 <;> rfl
theorem Tr.sing_zero (v : Option Value) (f : Nat) : Tr.sing v (f + 1) 0 = .node v .nil .nil := rfl
theorem Tr.sing_succ (v : Option Value) (f i : Nat) : Tr.sing v (f + 1) (i + 1) = bif Nat.beq (i % 2) 0 then Tr.node none (Tr.sing v f (i / 2)) .nil else Tr.node none .nil (Tr.sing v f (i / 2)) := by
 show @Bool.rec (fun _ => Tr) (Tr.node none .nil (Tr.sing v f (i / 2))) (Tr.node none (Tr.sing v f (i / 2)) .nil) (Nat.beq (i % 2) 0) = _
 cases Nat.beq (i % 2) 0 <;> rfl
theorem Tr.set_nil (i : Nat) (v : Option Value) : Tr.nil.set i v = Tr.sing v (i + 1) i := rfl
theorem Tr.set_zero (u v : Option Value) (l r : Tr) : (Tr.node u l r).set 0 v = .node v l r := rfl
theorem Tr.set_succ (u v : Option Value) (l r : Tr) (i : Nat) : (Tr.node u l r).set (i + 1) v = bif Nat.beq (i % 2) 0 then Tr.node u (l.set (i / 2) v) r else Tr.node u l (r.set (i / 2) v) := by
 show @Bool.rec (fun _ => Tr) (Tr.node u l (r.set (i / 2) v)) (Tr.node u (l.set (i / 2) v) r) (Nat.beq (i % 2) 0) = _
 cases Nat.beq (i % 2) 0 <;> rfl
theorem Tr.get_key (u : Option Value) (l r L R : Tr) (i j : Nat) (v : Option Value) (hl : ∀ j, L.get j = if j = i / 2 then v else l.get j) (hr : ∀ j, R.get j = if j = i / 2 then v else r.get j) :
  (bif Nat.beq (i % 2) 0 then Tr.node u L r else Tr.node u l R).get j = if j = i + 1 then v else (Tr.node u l r).get j := by
 cases j with
 | zero => cases hb : Nat.beq (i % 2) 0 <;> simp
 | succ j =>
  cases hb : Nat.beq (i % 2) 0 <;> cases hc : Nat.beq (j % 2) 0
  ·simp only [cond_false, Tr.get_succ, hc, hr, Nat.add_right_cancel_iff]
   have h1 : i % 2 ≠ 0 := fun e => by rw [e] at hb; cases hb
   have h2 : j % 2 ≠ 0 := fun e => by rw [e] at hc; cases hc
   by_cases e : j / 2 = i / 2
   ·rw [if_pos e, if_pos (by omega)]
   rw [if_neg e, if_neg (by omega)]
  ·simp only [cond_false, cond_true, Tr.get_succ, hc, Nat.add_right_cancel_iff]
   have h1 : i % 2 ≠ 0 := fun e => by rw [e] at hb; cases hb
   have h2 : j % 2 = 0 := Nat.eq_of_beq_eq_true hc
   rw [if_neg (by omega)]
  ·simp only [cond_false, cond_true, Tr.get_succ, hc, Nat.add_right_cancel_iff]
   have h1 : i % 2 = 0 := Nat.eq_of_beq_eq_true hb
   have h2 : j % 2 ≠ 0 := fun e => by rw [e] at hc; cases hc
   rw [if_neg (by omega)]
  simp only [cond_true, Tr.get_succ, hc, hl, Nat.add_right_cancel_iff]
  have h1 : i % 2 = 0 := Nat.eq_of_beq_eq_true hb
  have h2 : j % 2 = 0 := Nat.eq_of_beq_eq_true hc
  by_cases e : j / 2 = i / 2
  ·rw [if_pos e, if_pos (by omega)]
  rw [if_neg e, if_neg (by omega)]
theorem Tr.get_sing (v : Option Value) : ∀ (f i j : Nat), i < f → (Tr.sing v f i).get j = if j = i then v else none := by
 intro f
 induction f with
 | zero => intro i j h; omega
 | succ f ih =>
  intro i j h
  cases i with
  | zero =>
   rw [Tr.sing_zero]
   cases j with
   | zero => simp
   | succ j => rw [Tr.get_succ]; cases Nat.beq (j % 2) 0 <;> simp
  | succ i =>
   rw [Tr.sing_succ, Tr.get_key none .nil .nil _ _ i j v (fun j => by rw [ih _ _ (by omega), Tr.get_nil]) (fun j => by rw [ih _ _ (by omega), Tr.get_nil])]
   congr 1
   cases j with
   | zero => simp
   | succ j => rw [Tr.get_succ]; cases Nat.beq (j % 2) 0 <;> simp
theorem Tr.get_set (t : Tr) (i j : Nat) (v : Option Value) : (t.set i v).get j = if j = i then v else t.get j := by
 induction t generalizing i j with
 | nil => rw [Tr.set_nil, Tr.get_sing v _ _ _ (Nat.lt_succ_self i), Tr.get_nil]
 | node u l r hl hr =>
  cases i with
  | zero =>
   rw [Tr.set_zero]
   cases j with
   | zero => simp
   | succ j => simp [Tr.get_succ]
  | succ i => rw [Tr.set_succ]; exact Tr.get_key u l r _ _ i j v (fun j => hl _ j) (fun j => hr _ j)
/-! ### frames -/
structure Rep (n : Nat) (ds : List Deferred) (a : Act) (t : Tr) : Prop where
 size : a.tmps.size = n
 defers : a.defers = ds
 at_ : ∀ i v, t.get i = some v → a.tmps[i]? = some v
def Tr.put (n : Nat) (t : Tr) (dst : Option Tmp) (v : Value) : Tr :=
 match dst with
 | some d => bif Nat.blt d n then t.set d (some v) else t
 | none => t
theorem Rep.put {n : Nat} {ds : List Deferred} {a : Act} {t : Tr} (h : Rep n ds a t) (dst : Option Tmp) (v : Value) : Rep n ds (a.put dst v) (t.put n dst v) := by
 cases dst with
 | none => exact h
 | some d =>
  refine ⟨by simp [Act.put, h.size], by simp [Act.put, h.defers], fun i u hu => ?_⟩
  simp only [Act.put, Tr.put] at hu ⊢
  cases hb : Nat.blt d n with
  | false =>
   rw [hb, cond_false] at hu
   have hd : ¬ d < n := fun hlt => by
    have : Nat.blt d n = true := Nat.ble_eq_true_of_le hlt
    rw [this] at hb; cases hb
   have := h.at_ i u hu
   rw [Array.getElem?_setIfInBounds]
   by_cases e : d = i
   ·subst e
    have hlt := (Array.getElem?_eq_some_iff.1 this).1
    exact absurd (h.size ▸ hlt) hd
   rw [if_neg e]; exact this
  | true =>
   have hd : d < n := Nat.le_of_ble_eq_true hb
   rw [hb, cond_true, Tr.get_set] at hu
   rw [Array.getElem?_setIfInBounds]
   by_cases e : i = d
   ·subst e
    rw [if_pos rfl] at hu
    rw [if_pos rfl, if_pos (h.size ▸ hd)]
    exact hu
   rw [if_neg e] at hu
   rw [if_neg (fun e' => e e'.symm)]
   exact h.at_ i u hu
theorem Rep.forget {n : Nat} {ds : List Deferred} {a : Act} {t : Tr} (h : Rep n ds a t) (d : Nat) : Rep n ds a (t.set d none) :=
 ⟨h.size, h.defers, fun i v hv => by
  rw [Tr.get_set] at hv
  by_cases e : i = d
  ·rw [if_pos e] at hv; cases hv
  rw [if_neg e] at hv; exact h.at_ i v hv⟩
def Tr.ev? (t : Tr) : Operand → Option Value
 | .tmp i => t.get i
 | .const v => some v
 | .global g => some (.pointer (some ⟨g, 0, none⟩))
 | .func f => some (.func (.func f) #[] #[])
def Tr.ev (t : Tr) (x : Operand) : Value := (t.ev? x).getD undef
theorem Rep.ev {n : Nat} {ds : List Deferred} {a : Act} {t : Tr} (h : Rep n ds a t) {x : Operand} {v : Value} (hv : t.ev? x = some v) : a.eval x = v := by
 cases x with
 | tmp i =>
  have := h.at_ i v hv
  simp [Act.eval, this]
 | const u => exact Option.some.inj hv
 | global g => exact Option.some.inj hv
 | func f => exact Option.some.inj hv
def noSel : Op → Bool
 | .select .. => false
 | .defer .. => false
 | _ => true
def opSem (t : Tr) (o : Oper) : Option (Sem Next) :=
 bif noSel o.op && o.op.operands.toList.all (fun x => (t.ev? x).isSome) then some (execOp t.ev o) else none
theorem Rep.opSem {n : Nat} {ds : List Deferred} {a : Act} {t : Tr} {o : Oper} {s : Sem Next} (h : Rep n ds a t) (hs : opSem t o = some s) : execOp a.eval o = s := by
 unfold Go.Proofs.Ytcncfmjfgdbfeab.opSem at hs
 cases hb : (noSel o.op && o.op.operands.toList.all (fun x => (t.ev? x).isSome)) with
 | false => rw [hb] at hs; cases hs
 | true =>
  rw [hb] at hs
  simp only [cond_true, Option.some.injEq] at hs
  rw [← hs]
  simp only [Bool.and_eq_true, List.all_eq_true] at hb
  refine execOp_congr o (fun cs b e => by rw [e] at hb; simp [noSel] at hb) fun x hx => ?_
  have := hb.2 x (by simpa using hx)
  obtain ⟨v, hv⟩ := Option.isSome_iff_exists.1 this
  rw [h.ev hv]
  simp [Tr.ev, hv]
def wanted? (ops : Array Oper) (t : Tr) (o : Oper) : Option Bool :=
 match o.guard with
 | none => some true
 | some (j, want) => match (ops[j]?).bind (·.dst) with
  | none => some false
  | some d => match t.get d with
   | some (.bool b) => some (b == want)
   | some _ => some false
   | none => none
theorem Rep.wanted {n : Nat} {ds : List Deferred} {a : Act} {t : Tr} {ops : Array Oper} {o : Oper} {b : Bool} (h : Rep n ds a t) (hb : wanted? ops t o = some b) : Region.wanted o (yielded ops a.tmps) = b := by
 unfold wanted? at hb
 unfold Region.wanted
 cases hg : o.guard with
 | none => rw [hg] at hb; simpa using hb
 | some jw =>
  obtain ⟨j, want⟩ := jw
  rw [hg] at hb
  simp only at hb ⊢
  unfold yielded
  cases hd : (ops[j]?).bind (·.dst) with
  | none => rw [hd] at hb; simp only [Option.some.injEq] at hb; subst hb; rfl
  | some d =>
   rw [hd] at hb
   simp only [Option.bind_some] at hb ⊢
   cases hv : t.get d with
   | none => rw [hv] at hb; cases hb
   | some v =>
    have := h.at_ d v hv
    rw [hv] at hb
    rw [this]
    cases v <;> simp only [Option.some.injEq] at hb <;> subst hb <;> simp
end
end Go.Proofs.Ytcncfmjfgdbfeab
