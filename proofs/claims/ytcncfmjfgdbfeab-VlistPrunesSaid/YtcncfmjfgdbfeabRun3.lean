/- Whole runs of closed calls: operations, code, functions, rounds, as the kernel reckons them. -/
import Derived.Test.YtcncfmjfgdbfeabRunP
import Derived.Test.YtcncfmjfgdbfeabFast14
namespace Go.Proofs.Ytcncfmjfgdbfeab
open Go.RowKit
noncomputable section
namespace Run
structure Fr where
 n : Nat
 marks : List Nat
 t : Tr
def Fr.put (fr : Fr) (d : Option Tmp) (v : Value) : Fr := match fr with
 | ⟨n, marks, t⟩ => ⟨n, marks, t.put n d v⟩
def markOf (D : Nat) : Deferred := { target := .collected D, args := #[] }
def RepR (fr : Fr) (a : Act) : Prop := Rep fr.n (fr.marks.map markOf) a fr.t
inductive Ex where
 | normal
 | exit (id : Nat)
 | ret
def Ex.out : Ex → Exit
 | .normal => .normal
 | .exit id => .exit id
 | .ret => .ret
structure Rec where
 code : Option Nat → Code → Fr → M (Ex × Fr)
 fn : FuncId → List Value → M Value
def rdF : Option Nat → Fence
 | none => Fence.wide
 | some l => Fence.wide.inRound l
section
variable (P : Program) (fd : Bool)
def yieldOf (t : Tr) (o : Oper) : Option (Nat × List Value) :=
 match o.op with
 | .call c => match c.callee with
  | .value f => match t.ev? f with
   | some (.func (.yield l) first _cap) => bif o.op.operands.toList.all (fun x => (t.ev? x).isSome) then some (l, (first ++ c.args.map t.ev).toList) else none
   | _ => none
  | _ => none
 | _ => none
def setsT (n : Nat) : Tr → List (Tmp × Value) → Tr
 | t, [] => t
 | t, (i, v) :: l => setsT n (t.put n (some i) v) l
def endOf : Ex → LoopState × Option Code × Bool
 | .normal => (.ready, none, true)
 | .ret => (.done, some .ret, false)
 | .exit id => (.done, some (.exit id), false)
def evYield (R : Rec) (l : Nat) (args : List Value) : M Value :=
 (loc fd l).bind fun x => match x.2.k with
  | .lp .ready _ n t ps assign body _ => bif Nat.beq args.length ps.size then
    (R.code (some l) assign ⟨n, [], setsT n t (ps.toList.zip args)⟩).bind fun y => match y.1 with
     | .normal => (loc fd l).bind fun z => match z.2.own, z.2.k with
      | true, .lp .ready p2 n2 t2 ps2 as2 bo2 de2 => (putE z.1 ⟨true, z.2.b, .lp .busy p2 n2 t2 ps2 as2 bo2 de2⟩).bind fun _ =>
       (R.code (some l) body y.2).bind fun u => (loc fd l).bind fun z => match z.2.own, z.2.k with
        | true, .lp _ _ n3 t3 ps3 as3 bo3 de3 => (putE z.1 ⟨true, z.2.b, .lp (endOf u.1).1 (endOf u.1).2.1 n3 t3 ps3 as3 bo3 de3⟩).bind fun _ => M.ret (.bool (endOf u.1).2.2)
        | _, _ => M.fail
      | _, _ => M.fail
     | _ => M.fail
   else M.fail
  | _ => M.fail
def mvOf : Op → Option Operand
 | .move x | .assign x => some x
 | _ => none
def evCalc (R : Rec) (t : Tr) (o : Oper) : M Value :=
 match opSem t o with
  | none => M.fail
  | some s => (evSem P fd t o s).bind fun nx => match nx with
   | .value v => M.ret v
   | .skip => M.ret undef
   | .enter f args => R.fn f args.toList
   | _ => M.fail
def evOperS (R : Rec) (t : Tr) (o : Oper) : M Value :=
 match cls o.op with
 | 5 => match mvOf o.op with
  | some x => match t.ev? x with
   | some v => M.ret v
   | none => M.fail
  | none => M.fail
 | 1 => match yieldOf t o with
  | some (l, args) => evYield fd R l args
  | none => evCalc P fd R t o
 | _ => evCalc P fd R t o
def evOper (R : Rec) (t : Tr) (o : Oper) : M Value :=
 @Pl.rec (fun _ => M Value) (evOperS P fd R t o) M.ret (fLoadC fd) (fLoadA fd) (fStore fd) R.fn fNewP fNewS (plOf t (planOp P o))
def evOps (R : Rec) (ops : Array Oper) : List Oper → Fr → M Fr
 | [], fr => M.ret fr
 | o :: l, fr => match wanted? ops fr.t o with
  | none => M.fail
  | some false => evOps R ops l (fr.put o.dst undef)
  | some true => (evOper P fd R fr.t o).bind fun v => evOps R ops l (fr.put o.dst v)
def sameL (g : Value → Value → Option (List (Nat × Nat))) : List Value → List Value → Option (List (Nat × Nat))
 | [], [] => some []
 | a :: l, b :: l' => match g a b with
  | some e => match sameL g l l' with
   | some e' => some (e ++ e')
   | none => none
  | none => none
 | _, _ => none
def sameE : Nat → Value → Value → Option (List (Nat × Nat))
 | 0, _, _ => none
 | f + 1, a, b => match a, b with
  | .bool a, .bool b => bif a == b then some [] else none
  | .int k n, .int k' n' => bif decide (k = k') && decide (n = n') then some [] else none
  | .string a, .string b => bif decide (a = b) then some [] else none
  | .pointer none, .pointer none => some []
  | .pointer (some ⟨a, o, none⟩), .pointer (some ⟨a', o', none⟩) => some [(a, a'), (o, o')]
  | .slice none l c, .slice none l' c' => some [(l, l'), (c, c')]
  | .slice (some ⟨a, o, none⟩) l c, .slice (some ⟨a', o', none⟩) l' c' => some [(a, a'), (o, o'), (l, l'), (c, c')]
  | .map none, .map none => some []
  | .map (some a), .map (some b) => some [(a, b)]
  | .nilFunc, .nilFunc => some []
  | .func fn first cap, .func fn' first' cap' => bif decide (fn = fn') then (match sameL (sameE f) first.toList first'.toList with
   | some e => match sameL (sameE f) cap.toList cap'.toList with
    | some e' => some (e ++ e')
    | none => none
   | none => none) else none
  | .nilIface, .nilIface => some []
  | .iface t v, .iface t' v' => match sameE f v v' with
   | some e => some ((t, t') :: e)
   | none => none
  | .agg a, .agg b => sameL (sameE f) a.toList b.toList
  | .tuple a, .tuple b => sameL (sameE f) a.toList b.toList
  | _, _ => none
def addEqs : List (Nat × Nat) → List (List (Nat × Nat)) → List (List (Nat × Nat))
 | [], l => l
 | p :: q, l => addEqs q (addEq p l)
def quietCall (x : M Value) : M Value := fun A m => match m with
 | ⟨hp, n, i, hs, eqs, out⟩ => match x A ⟨ro hp, n, i, hs, eqs, out⟩ with
  | some (v, m1) => match fd with
   | true => some (v, ⟨hp, n, m1.i, m1.hs, m1.eqs, m1.out⟩)
   | false => match x (fun _ => 0) ⟨ro hp, n, i, hs, eqs, out⟩ with
    | some (v0, _) => match sameE 9 v v0 with
     | some l => some (v0, ⟨hp, n, m1.i, m1.hs, addEqs l m1.eqs, m1.out⟩)
     | none => none
    | none => none
  | none => none
def evQuietS (R : Rec) (t : Tr) (o : Oper) : M Value :=
 match opSem t o with
 | none => M.fail
 | some s => match runQ P s with
  | some (.enter f args) => quietCall fd (R.fn f args.toList)
  | _ => (runL P fd s).bind fun nx => match nx with
   | .value v => M.ret v
   | .skip => M.ret undef
   | _ => M.fail
def evQuiet (R : Rec) (t : Tr) (o : Oper) : M Value :=
 @Pl.rec (fun _ => M Value) (evQuietS P fd R t o) M.ret (fLoadC fd) (fLoadA fd) (fun _ _ _ => evQuietS P fd R t o) (fun f args => quietCall fd (R.fn f args)) (fun _ _ => evQuietS P fd R t o) (fun _ _ _ => evQuietS P fd R t o) (plOf t (planOp P o))
def evHead (R : Rec) (ops : Array Oper) : List Oper → Fr → M Fr
 | [], fr => M.ret fr
 | o :: l, fr => match wanted? ops fr.t o with
  | none => M.fail
  | some false => evHead R ops l (fr.put o.dst undef)
  | some true => (evQuiet P fd R fr.t o).bind fun v => evHead R ops l (fr.put o.dst v)
/-! regions that draw: loads and what asks its operands alone come first; the others, one by one -/
def evLoadsS (t : Tr) (o : Oper) : M Value :=
 match opSem t o with
 | none => M.fail
 | some s => (runL P fd s).bind fun nx => match nx with
  | .value v => M.ret v
  | _ => M.fail
def evLoads (t : Tr) (o : Oper) : M Value :=
 @Pl.rec (fun _ => M Value) (evLoadsS P fd t o) M.ret (fLoadC fd) (fLoadA fd) (fun _ _ _ => evLoadsS P fd t o) (fun _ _ => evLoadsS P fd t o) (fun _ _ => evLoadsS P fd t o) (fun _ _ _ => evLoadsS P fd t o) (plOf t (planOp P o))
def evHeadL (ops : Array Oper) : List Oper → Fr → M Fr
 | [], fr => M.ret fr
 | o :: l, fr => match wanted? ops fr.t o with
  | none => M.fail
  | some false => evHeadL ops l (fr.put o.dst undef)
  | some true => (evLoads P fd fr.t o).bind fun v => evHeadL ops l (fr.put o.dst v)
def hintsL : Nat → M (List Nat)
 | 0 => M.ret []
 | k + 1 => hint.bind fun h => (hintsL k).bind fun r => M.ret (h :: r)
def readL : M (List Nat) := hint.bind fun c => hintsL c
def emitL (k : List Nat) : M (List Nat) := fun _ m => match m with
 | ⟨hp, n, i, hs, eqs, out⟩ => some (k, ⟨hp, n, i, hs, eqs, (k.reverse.map Nat.succ) ++ ((k.length + 1) :: out)⟩)
def pickL (l : List Nat) : M (List Nat) := match fd with
 | true => emitL l
 | false => readL
def dedupe : List Nat → List Nat
 | [] => []
 | k :: l => bif (dedupe l).contains k then dedupe l else k :: dedupe l
def touched (x : M Fr) : M (List Nat) := match fd with
 | true => fun A m => match x A m with
  | some (_, m1) => emitL (dedupe ((m1.out.take (m1.out.length - m.out.length)).map Nat.pred)) A m
  | none => none
 | false => readL
def headKind : Op → Bool
 | .move _ | .assign _ | .pick .. | .load .. | .nilCheck _ | .binOp .. | .unOp .. | .slice .. | .fieldAddr .. | .field .. | .indexAddr .. | .index .. | .extract .. | .build .. | .lookup .. | .typeAssert .. | .makeInterface .. => true
 | .convert _ dst _ => match P.underlying dst with
  | some (.slice _) => false
  | _ => true
 | .call c => match c.callee with
  | .builtin .len => true
  | .builtin .cap => true
  | .builtin .max => true
  | .builtin .min => true
  | _ => false
 | _ => false
def unread (ops : Array Oper) (acc : List Nat) (o : Oper) : Bool := match o.dst with
 | some d => acc.all fun j => match ops[j]? with
  | some p => !(slotsOf ops p).contains d
  | none => true
 | none => true
def headOf (ops : Array Oper) : List Nat := ((List.range ops.size).foldl (fun acc i => match ops[i]? with
 | some o => bif headKind P o.op && o.after.all (fun e => !Region.binds .any e || acc.contains e.on) &&
   ((List.range ops.size).all fun j => acc.contains j || (match ops[j]? with
    | some p => (match p.dst with | some d => !(slotsOf ops o).contains d || waitsOn p i | none => true)
    | none => true)) && unread ops acc o then i :: acc else acc
 | none => acc) []).reverse
def restrict (hp : T ME) (tl : List Nat) : T ME := tl.foldl (fun t k => match hp.get k with | some e => t.set k { e with own := false } | none => t) .nil
def lock (hp : T ME) (tl : List Nat) : T ME := tl.foldl (fun t k => match hp.get k with | some e => t.set k { e with own := false } | none => t) hp
def unlock (hp hp0 : T ME) (tl : List Nat) : T ME := tl.foldl (fun t k => match hp0.get k with | some e => t.set k e | none => t) hp
def withLock (tl : List Nat) (x : M Fr) (y : Fr → M Fr) : M Fr := fun A m => match m with
 | ⟨hp, n, i, hs, eqs, out⟩ => bif tl.all (fun k => Nat.blt k n) then
   (match x A ⟨restrict hp tl, n, i, hs, eqs, out⟩ with
   | some (fr1, ⟨_, _, i1, hs1, eqs1, out1⟩) => match y fr1 A ⟨lock hp tl, n, i1, hs1, eqs1, out1⟩ with
    | some (fr2, ⟨hp2, n2, i2, hs2, eqs2, out2⟩) => some (fr2, ⟨unlock hp2 hp tl, n2, i2, hs2, eqs2, out2⟩)
    | none => none
   | none => none) else none
def floatSem (ops : Array Oper) (f : Nat) : Option (List Value × TypeId × (Nat → Sem Next)) := match ops[f]? with
 | some o => bif noSel o.op && o.op.operands.isEmpty then toNew P (execOp (fun _ => undef) o) else none
 | none => none
def evFloat (ops : Array Oper) (fl : Option Nat) (fr : Fr) : M Fr := match fl with
 | none => M.ret fr
 | some f => match ops[f]?, floatSem P ops f with
  | some o, some (c, E, k) => fresh.bind fun b => match runQ P (k b) with
   | some (.value v) => (pushE ⟨true, b, .cells (L.ofList c) E⟩).bind fun _ => M.ret (fr.put o.dst v)
   | _ => M.fail
  | _, _ => M.fail
def leastT (ops : Array Oper) : Nat → Nat → Nat
 | 0, h => h
 | f + 1, h => bif decide (h = ops.size) || (Region.sinkB .any ops h && Region.chainB .any ops h) then h else leastT ops f (h + 1)
def floatOf (ops : Array Oper) (h : Nat) : Nat := match (List.range h).find? (fun i => match ops[i]? with
 | some o => (match o.op with | .alloc _ => true | _ => false) && o.guard.isNone && o.after.all (fun e => !Region.binds .any e) && (match o.dst with
  | some d => (List.range h).all fun j => match ops[j]? with
   | some p => i == j || (!(slotsOf ops p).contains d && !waitsOn p i)
   | none => true
  | none => false)
 | none => false) with
 | some f => f + 1
 | none => 0
def flOf : Nat → Option Nat
 | 0 => none
 | f + 1 => some f
def planOf (ops : Array Oper) : List Nat :=
 let h := leastT ops ops.size 0
 let fl := floatOf ops h
 h :: fl :: (headOf P ops).filter fun i => Nat.blt i h && !(flOf fl == some i)
def drawHok (ops : Array Oper) (hd : List Nat) (fl : Option Nat) (h n : Nat) : Bool := drawHB ops hd fl h n && ssaL ops (opsOf ops hd) && ops.toList.all (fun o => noSel o.op)
def evDrawH (R : Rec) (ops : Array Oper) (fr : Fr) : M Fr := (pickL fd (match fd with | true => planOf P ops | false => [])).bind fun pl => match pl with
 | h :: flc :: hd => bif drawHok ops hd (flOf flc) h fr.n then
   (touched fd (evHeadL P fd ops (opsOf ops hd) fr)).bind fun tl => (withLock tl (evHeadL P fd ops (opsOf ops hd) fr) (fun fr1 => evOps P fd R ops (opsOf ops (chainOf hd (flOf flc) h)) fr1)).bind fun fr2 =>
    (evFloat P ops (flOf flc) fr2).bind fun fr3 => evOps P fd R ops (ops.toList.drop h) fr3
  else M.fail
 | _ => M.fail
def leastH (ops : Array Oper) (n : Nat) : Nat → Nat → Nat
 | 0, h => h
 | f + 1, h => bif headB ops h n then h else leastH ops n f (h + 1)
def hdK (ops : Array Oper) (k h : Nat) : List Nat := ((List.range h).foldl (fun acc i => bif Nat.blt i k then acc else match ops[i]? with
 | some o => bif headKind P o.op && o.after.all (fun e => !Region.binds .any e || Nat.blt e.on k || acc.contains e.on) &&
   ((List.range h).all fun j => Nat.blt j k || acc.contains j || (match ops[j]? with
    | some p => (match p.dst with | some d => !(slotsOf ops o).contains d || waitsOn p i | none => true)
    | none => true)) && unread ops acc o then i :: acc else acc
 | none => acc) []).reverse
def blockOk (ops : Array Oper) (k : Nat) (hd : List Nat) (h n : Nat) : Bool := blockB ops k hd none h n && ssaL ops (opsOf ops hd) && Nat.blt k h
def planK (ops : Array Oper) (k n : Nat) : List Nat := match (List.range (ops.size + 1)).find? (fun h => Nat.blt k h && blockOk ops k (hdK P ops k h) h n) with
 | some h => h :: hdK P ops k h
 | none => []
def blocksOk (ops : Array Oper) (n : Nat) : Nat → Nat → Bool
 | 0, _ => false
 | f + 1, k => Nat.beq k ops.size || (match planK P ops k n with
  | h :: _ => Nat.blt k h && blocksOk ops n f h
  | [] => false)
def evBlock (R : Rec) (ops : Array Oper) (k : Nat) (hd : List Nat) (h : Nat) (fr : Fr) : M Fr :=
 (touched fd (evHeadL P fd ops (opsOf ops hd) fr)).bind fun tl => withLock tl (evHeadL P fd ops (opsOf ops hd) fr) (fun fr1 => evOps P fd R ops (opsOf ops (chainK k hd none h)) fr1)
def evBlocks (R : Rec) (ops : Array Oper) : Nat → Nat → Fr → M Fr
 | 0, _, _ => M.fail
 | f + 1, k, fr => bif Nat.beq k ops.size then M.ret fr else (pickL fd (match fd with | true => planK P ops k fr.n | false => [])).bind fun pl => match pl with
  | h :: hd => bif blockOk ops k hd h fr.n then (evBlock P fd R ops k hd h fr).bind fun fr => evBlocks R ops f h fr else M.fail
  | [] => M.fail
def backB (ops : Array Oper) (h n : Nat) : Bool := headB ops h n &&
 ((ops.toList.take h).any fun o => match o.op with | .store .. => true | _ => false) &&
 ((ops.toList.take h).all fun o => match o.op with
  | .store _ (.tmp x) (.tmp d) => ops.toList.any fun p => match p.op, p.dst with
   | .load _ (.tmp y), some e => Nat.beq x y && Nat.beq d e
   | _, _ => false
  | .store .. => false
  | _ => true)
def evMarks : List Nat → M Unit
 | [] => M.ret ()
 | D :: ds => (loc fd D).bind fun x => match x.2.own, x.2.k with
  | true, .ob (.deferred (some [])) => (putE x.1 ⟨true, x.2.b, .ob (.deferred none)⟩).bind fun _ => evMarks ds
  | _, _ => M.fail
def argsT (args : List Value) : Tr := args.zipIdx.foldl (fun t (v, i) => t.set i (some v)) Tr.nil
def evFn (R : Rec) (f : FuncId) (args : List Value) : M Value :=
 match nthG P.funcs.toList f with
 | none => M.fail
 | some fn => match fn.body with
  | none => M.fail
  | some c => bif Nat.ble args.length fn.ntmps then
    (R.code none c ⟨fn.ntmps, [], argsT args⟩).bind fun x => match x.1 with
     | .exit _ => M.fail
     | _ => (evMarks fd x.2.marks).bind fun _ => bif resKnown fn x.2.t then runL P fd (resSem fn x.2.t) else M.fail
   else M.fail
def evRange2 (R : Rec) (rd : Option Nat) (gf : FuncId) (first cap : Array Value) (L : Nat) (fr : Fr) : M (Ex × Fr) :=
 match runQ P (callFunc gf (first ++ #[.func (.yield L) #[] #[]] ++ cap)) with
 | some (.enter f args) => (R.fn f args.toList).bind fun _ => (loc fd L).bind fun x => match x.2.own, x.2.k with
  | true, .lp st pend n t ps ag bo de => match st with
   | .busy => M.fail
   | _ => (putE x.1 ⟨true, x.2.b, .lp .exhausted pend n t ps ag bo de⟩).bind fun _ => match pend with
    | none => M.ret (.normal, fr)
    | some c => R.code rd c fr
  | _, _ => M.fail
 | _ => M.fail
def evRange (R : Rec) (rd : Option Nat) (g : Operand) (ps : Array Tmp) (assign body : Code) (fr : Fr) : M (Ex × Fr) :=
 match fr.t.ev? g with
 | some (.func (.func gf) first cap) => match rd with
  | none => fresh.bind fun D => (pushE ⟨true, D, .ob (.deferred (some []))⟩).bind fun _ => fresh.bind fun L => (pushE ⟨true, L, .lp .ready none fr.n fr.t ps assign body D⟩).bind fun _ =>
    evRange2 P fd R rd gf first cap L ⟨fr.n, D :: fr.marks, fr.t⟩
  | some l0 => (loc fd l0).bind fun x => match x.2.k with
   | .lp _ _ _ _ _ _ _ de => fresh.bind fun L => (pushE ⟨true, L, .lp .ready none fr.n fr.t ps assign body de⟩).bind fun _ => evRange2 P fd R rd gf first cap L fr
   | _ => M.fail
 | _ => M.fail
def evLoop (R : Rec) (rd : Option Nat) (c : Code) : Nat → Fr → M (Ex × Fr)
 | 0, _ => M.fail
 | f + 1, fr => (R.code rd c fr).bind fun x => match x.1 with
  | .normal => evLoop R rd c f x.2
  | _ => M.ret x
def mdOf (ops : Array Oper) (n : Nat) : Nat := match planOf P ops with
 | h :: flc :: hd => (bif backB ops (leastH ops n ops.size 0) n then 0 else bif drawHok ops hd (flOf flc) h n then 1 else bif blocksOk P ops n (ops.size + 1) 0 then 2 else 0)
 | _ => 0
def evMd (R : Rec) (ops : Array Oper) (fr : Fr) (md : Nat) : M (Ex × Fr) := match md with
 | 0 => (pick fd fun _ _ => leastH ops fr.n ops.size 0).bind fun h => bif headB ops h fr.n then
   (evHead P fd R ops (ops.toList.take h) fr).bind fun fr => (evOps P fd R ops (ops.toList.drop h) fr).bind fun fr => M.ret (.normal, fr) else M.fail
 | 1 => (evDrawH P fd R ops fr).bind fun fr => M.ret (.normal, fr)
 | _ => bif ops.toList.all (fun o => noSel o.op) then (evBlocks P fd R ops (ops.size + 1) 0 fr).bind fun fr => M.ret (.normal, fr) else M.fail
def evCode (R : Rec) (f : Nat) (rd : Option Nat) : Code → Fr → M (Ex × Fr)
 | .skip, fr => M.ret (.normal, fr)
 | .label _, fr => M.ret (.normal, fr)
 | .region _ ops false, fr => (evOps P fd R ops ops.toList fr).bind fun fr => M.ret (.normal, fr)
 | .region _ ops true, fr => (pick fd fun _ _ => mdOf P ops fr.n).bind fun md => evMd P fd R ops fr md
 | .seq a b, fr => (R.code rd a fr).bind fun x => match x.1 with
  | .normal => R.code rd b x.2
  | _ => M.ret x
 | .cond c a b, fr => match fr.t.ev? c with
  | some (.bool true) => R.code rd a fr
  | some (.bool false) => R.code rd b fr
  | _ => M.fail
 | .block id c, fr => (R.code rd c fr).bind fun x => match x.1 with
  | .exit j => bif Nat.beq j id then M.ret (.normal, x.2) else M.ret x
  | _ => M.ret x
 | .loop c, fr => evLoop R rd c f fr
 | .scope c, fr => R.code rd c fr
 | .exit id, fr => M.ret (.exit id, fr)
 | .ret, fr => M.ret (.ret, fr)
 | .rangeFunc g ps assign body, fr => evRange P fd R rd g ps assign body fr
 | _, _ => M.fail
def recN : Nat → Rec
 | 0 => ⟨fun _ _ _ => M.fail, fun _ _ => M.fail⟩
 | f + 1 => ⟨fun rd c fr => evCode P fd (recN f) f rd c fr, fun g args => evFn P fd (recN f) g args⟩
end
/-! ### it is so -/
structure Sound (P : Program) (R : Rec) : Prop where
 gcode : ∀ rd c fr, Good (R.code rd c fr)
 gfn : ∀ f args, Good (R.fn f args)
 code : ∀ {rd : Option Nat} {c : Code} {fr : Fr} {mm : Nat} {w0 : Bse} {w : World} {a : Act} {pre : Nat → Nat} {m : Mem} {K : (Nat → Nat) → Ex × Fr → Mem → Prop}, RepR fr a → SatR w0 m.hp w → Ends (R.code rd c fr) pre m K →
  c.wpIn (rdF rd) mm P (fun e a' w' => ∃ x A m', e = x.1.out ∧ RepR x.2 a' ∧ SatR w0 m'.hp w' ∧ K A x m') a w
 fn : ∀ {f : FuncId} {args : List Value} {w0 : Bse} {w : World} {pre : Nat → Nat} {m : Mem} {K : (Nat → Nat) → Value → Mem → Prop}, SatR w0 m.hp w → Ends (R.fn f args) pre m K →
  Calls P f args.toArray w fun e w' => ∃ v A m', e = .returned v ∧ SatR w0 m'.hp w' ∧ K A v m'
theorem openF_rd (rd : Option Nat) : OpenF (rdF rd) := by
 cases rd with
 | none => exact .inl rfl
 | some l => exact .inr ⟨l, rfl⟩
theorem round_rd (rd : Option Nat) : (rdF rd).round = rd := by cases rd <;> rfl
theorem inRound_rd (rd : Option Nat) (l : Nat) : (rdF rd).inRound l = rdF (some l) := by cases rd <;> rfl
theorem fn_rd (rd : Option Nat) (f : FuncId) : (rdF rd).fn f := (openF_rd rd).fn f
theorem allE_addEqs : ∀ {q : List (Nat × Nat)} {l : List (List (Nat × Nat))}, AllE (addEqs q l) → AllEq q ∧ AllE l
 | [], _, h => ⟨trivial, h⟩
 | p :: q, l, h => by
  obtain ⟨h1, h2⟩ := allE_addEqs (q := q) h
  obtain ⟨h3, h4⟩ := allE_addEq h2
  exact ⟨⟨h3, h1⟩, h4⟩
theorem sameL_eq {g : Value → Value → Option (List (Nat × Nat))} (hg : ∀ a b e, g a b = some e → AllEq e → a = b) : ∀ {l l' : List Value} {e : List (Nat × Nat)}, sameL g l l' = some e → AllEq e → l = l'
 | [], [], _, _, _ => rfl
 | a :: l, b :: l', e, h, he => by
  unfold sameL at h
  split at h
  ·rename_i e1 h1
   split at h
   ·rename_i e2 h2
    simp only [Option.some.injEq] at h
    subst h
    obtain ⟨h3, h4⟩ := AllEq.append he
    rw [hg a b e1 h1 h3, sameL_eq hg h2 h4]
   cases h
  cases h
 | [], _ :: _, _, h, _ => by cases h
 | _ :: _, [], _, h, _ => by cases h
theorem sameE_eq : ∀ (f : Nat) (a b : Value) (e : List (Nat × Nat)), sameE f a b = some e → AllEq e → a = b
 | 0, _, _, _, h, _ => by cases h
 | f + 1, a, b, e, h, he => by
  have ih := sameE_eq f
  unfold sameE at h
  split at h
  ·rename_i a b
   cases hb : (a == b) with
   | false => rw [hb] at h; cases h
   | true => simp only [beq_iff_eq] at hb; rw [hb]
  ·rename_i k n k' n'
   cases hb : (decide (k = k') && decide (n = n')) with
   | false => rw [hb] at h; cases h
   | true => simp only [Bool.and_eq_true, decide_eq_true_eq] at hb; rw [hb.1, hb.2]
  ·rename_i a b
   cases hb : decide (a = b) with
   | false => rw [hb] at h; cases h
   | true => simp only [decide_eq_true_eq] at hb; rw [hb]
  ·rfl
  ·simp only [Option.some.injEq] at h; subst h
   obtain ⟨h1, h2, _⟩ := he
   simp only at h1 h2; rw [h1, h2]
  ·simp only [Option.some.injEq] at h; subst h
   obtain ⟨h1, h2, _⟩ := he
   simp only at h1 h2; rw [h1, h2]
  ·simp only [Option.some.injEq] at h; subst h
   obtain ⟨h1, h2, h3, h4, _⟩ := he
   simp only at h1 h2 h3 h4; rw [h1, h2, h3, h4]
  ·rfl
  ·simp only [Option.some.injEq] at h; subst h
   obtain ⟨h1, _⟩ := he
   simp only at h1; rw [h1]
  ·rfl
  ·rename_i fn first cap fn' first' cap'
   cases hb : decide (fn = fn') with
   | false => rw [hb] at h; cases h
   | true =>
    rw [hb, cond_true] at h
    split at h
    ·rename_i e1 h1
     split at h
     ·rename_i e2 h2
      simp only [Option.some.injEq] at h
      subst h
      obtain ⟨h3, h4⟩ := AllEq.append he
      simp only [decide_eq_true_eq] at hb
      rw [hb, Array.toList_inj.1 (sameL_eq ih h1 h3), Array.toList_inj.1 (sameL_eq ih h2 h4)]
     cases h
    cases h
  ·rfl
  ·split at h
   ·rename_i e1 h1
    simp only [Option.some.injEq] at h
    subst h
    obtain ⟨h3, h4⟩ := he
    simp only at h3
    rw [h3, ih _ _ _ h1 h4]
   cases h
  ·rw [Array.toList_inj.1 (sameL_eq ih h he)]
  ·rw [Array.toList_inj.1 (sameL_eq ih h he)]
  cases h
section
variable {P : Program} {R : Rec} (S : Sound P R)
include S
theorem good_yield (l : Nat) (args : List Value) : Good (evYield false R l args) := by
 unfold evYield
 refine .bind (.locB _) fun x => ?_
 split
 ·refine .cond (.bind (S.gcode _ _ _) fun y => ?_) .fail
  split
  ·refine .bind (.locB _) fun z => ?_
   split
   ·refine .bind (.putE _ _) fun _ => .bind (S.gcode _ _ _) fun u => .bind (.locB _) fun z => ?_
    split
    ·exact .bind (.putE _ _) fun _ => .ret _
    exact .fail
   exact .fail
  exact .fail
 exact .fail
theorem good_calc (t : Tr) (o : Oper) : Good (evCalc P false R t o) := by
 unfold evCalc
 split
 ·exact .fail
 refine .bind (good_sem _ _ _ _) fun nx => ?_
 split
 ·exact .ret _
 ·exact .ret _
 ·exact S.gfn _ _
 exact .fail
theorem good_operS (t : Tr) (o : Oper) : Good (evOperS P false R t o) := by
 unfold evOperS
 split
 ·split
  ·split
   ·exact .ret _
   exact .fail
  exact .fail
 ·split
  ·exact good_yield S _ _
  exact good_calc S _ _
 exact good_calc S _ _
theorem good_oper (t : Tr) (o : Oper) : Good (evOper P false R t o) := by
 unfold evOper
 cases plOf t (planOp P o) with
 | slow => exact good_operS S t o
 | val v => exact .ret v
 | loadC b o => exact good_fLoadC b o
 | loadA b o n => exact good_fLoadA b o n
 | store b o vs => exact good_fStore b o vs
 | enter f args => exact S.gfn f args
 | newP E cs => exact good_fNewP E cs
 | newS E cs n => exact good_fNewS E cs n
theorem good_ops (ops : Array Oper) : ∀ (l : List Oper) (fr : Fr), Good (evOps P false R ops l fr)
 | [], fr => .ret fr
 | o :: l, fr => by
  unfold evOps
  split
  ·exact .fail
  ·exact good_ops ops l _
  exact .bind (good_oper S _ _) fun v => good_ops ops l _
omit S in
theorem quiet_key {x : M Value} {A : Nat → Nat} {m m' : Mem} {a : Value} (h : quietCall false x A m = some (a, m')) : ∃ v m1 v0 m2 l, x A { m with hp := ro m.hp } = some (v, m1) ∧ x (fun _ => 0) { m with hp := ro m.hp } = some (v0, m2) ∧ sameE 9 v v0 = some l ∧ a = v0 ∧ m' = ⟨m.hp, m.n, m1.i, m1.hs, addEqs l m1.eqs, m1.out⟩ := by
 unfold quietCall at h
 obtain ⟨hp, n, i, hs, eqs, out⟩ := m
 simp only at h
 split at h
 ·rename_i v m1 h1
  split at h
  ·rename_i v0 m2 h2
   split at h
   ·rename_i l h3
    simp only [Option.some.injEq, Prod.mk.injEq] at h
    exact ⟨v, m1, v0, m2, l, h1, h2, h3, h.1.symm, h.2.symm⟩
   cases h
  cases h
 cases h
theorem good_quietS (t : Tr) (o : Oper) : Good (evQuietS P false R t o) := by
 unfold evQuietS
 split
 ·exact .fail
 split
 ·rename_i f args hq
  have hx := S.gfn f args.toList
  have key : ∀ {A m a m'}, quietCall false (R.fn f args.toList) A m = some (a, m') → ∃ v m1 v0 m2 l, R.fn f args.toList A { m with hp := ro m.hp } = some (v, m1) ∧ R.fn f args.toList (fun _ => 0) { m with hp := ro m.hp } = some (v0, m2) ∧ sameE 9 v v0 = some l ∧ a = v0 ∧ m' = ⟨m.hp, m.n, m1.i, m1.hs, addEqs l m1.eqs, m1.out⟩ := quiet_key
  refine ⟨fun h => ?_, fun h he => ?_, fun {A m a m'} h A' hA => ?_, fun h => by obtain ⟨v, m1, v0, m2, l, h1, h2, h3, rfl, rfl⟩ := key h; exact .same rfl rfl⟩
  ·obtain ⟨v, m1, v0, m2, l, h1, h2, h3, rfl, rfl⟩ := key h
   have := hx.le h1
   exact this
  ·obtain ⟨v, m1, v0, m2, l, h1, h2, h3, rfl, rfl⟩ := key h
   have := hx.eqs h1 (allE_addEqs he).2
   exact this
  obtain ⟨v, m1, v0, m2, l, h1, h2, h3, rfl, rfl⟩ := key h
  have h4 := hx.loc h1 A' hA
  unfold quietCall
  obtain ⟨hp, n, i, hs, eqs, out⟩ := m
  simp only at h1 h2 h4 ⊢
  rw [h4]
  simp only [h2, h3]
 refine .bind (good_runL P _) fun nx => ?_
 split
 ·exact .ret _
 ·exact .ret _
 exact .fail
theorem good_call (f : FuncId) (args : List Value) : Good (quietCall false (R.fn f args)) := by
 have hx := S.gfn f args
 have key : ∀ {A m a m'}, quietCall false (R.fn f args) A m = some (a, m') → ∃ v m1 v0 m2 l, R.fn f args A { m with hp := ro m.hp } = some (v, m1) ∧ R.fn f args (fun _ => 0) { m with hp := ro m.hp } = some (v0, m2) ∧ sameE 9 v v0 = some l ∧ a = v0 ∧ m' = ⟨m.hp, m.n, m1.i, m1.hs, addEqs l m1.eqs, m1.out⟩ := quiet_key
 refine ⟨fun h => ?_, fun h he => ?_, fun {A m a m'} h A' hA => ?_, fun h => by obtain ⟨v, m1, v0, m2, l, h1, h2, h3, rfl, rfl⟩ := key h; exact .same rfl rfl⟩
 ·obtain ⟨v, m1, v0, m2, l, h1, h2, h3, rfl, rfl⟩ := key h
  have := hx.le h1
  exact this
 ·obtain ⟨v, m1, v0, m2, l, h1, h2, h3, rfl, rfl⟩ := key h
  have := hx.eqs h1 (allE_addEqs he).2
  exact this
 obtain ⟨v, m1, v0, m2, l, h1, h2, h3, rfl, rfl⟩ := key h
 have h4 := hx.loc h1 A' hA
 unfold quietCall
 obtain ⟨hp, n, i, hs, eqs, out⟩ := m
 simp only at h1 h2 h4 ⊢
 rw [h4]
 simp only [h2, h3]
theorem good_quiet (t : Tr) (o : Oper) : Good (evQuiet P false R t o) := by
 unfold evQuiet
 cases plOf t (planOp P o) with
 | slow => exact good_quietS S t o
 | val v => exact .ret v
 | loadC b o => exact good_fLoadC b o
 | loadA b o n => exact good_fLoadA b o n
 | store b _ vs => exact good_quietS S t o
 | enter f args => exact good_call S f args
 | newP E cs => exact good_quietS S t o
 | newS E cs n => exact good_quietS S t o
theorem good_head (ops : Array Oper) : ∀ (l : List Oper) (fr : Fr), Good (evHead P false R ops l fr)
 | [], fr => .ret fr
 | o :: l, fr => by
  unfold evHead
  split
  ·exact .fail
  ·exact good_head ops l _
  exact .bind (good_quiet S _ _) fun v => good_head ops l _
omit S in
theorem good_loadsS (t : Tr) (o : Oper) : Good (evLoadsS P false t o) := by
 unfold evLoadsS
 split
 ·exact .fail
 refine .bind (good_runL P _) fun nx => ?_
 split
 ·exact .ret _
 exact .fail
omit S in
theorem good_loads (t : Tr) (o : Oper) : Good (evLoads P false t o) := by
 unfold evLoads
 cases plOf t (planOp P o) with
 | slow => exact good_loadsS t o
 | val v => exact .ret v
 | loadC b o => exact good_fLoadC b o
 | loadA b o n => exact good_fLoadA b o n
 | store b _ vs => exact good_loadsS t o
 | enter f args => exact good_loadsS t o
 | newP E cs => exact good_loadsS t o
 | newS E cs n => exact good_loadsS t o
omit S in
theorem good_headL (ops : Array Oper) : ∀ (l : List Oper) (fr : Fr), Good (evHeadL P false ops l fr)
 | [], fr => .ret fr
 | o :: l, fr => by
  unfold evHeadL
  split
  ·exact .fail
  ·exact good_headL ops l _
  exact .bind (good_loads _ _) fun v => good_headL ops l _
omit S in
theorem good_hintsL : ∀ k, Good (hintsL k)
 | 0 => .ret _
 | k + 1 => .bind .hint fun _h => .bind (good_hintsL k) fun _r => .ret _
omit S in
theorem good_readL : Good readL := .bind .hint fun _c => good_hintsL _
omit S in
theorem get_restrict (hp : T ME) : ∀ (tl : List Nat) (t : T ME) (k : Nat), (tl.foldl (fun t k => match hp.get k with | some e => t.set k { e with own := false } | none => t) t).get k =
  if k ∈ tl then (match hp.get k with | some e => some { e with own := false } | none => t.get k) else t.get k
 | [], t, k => by simp
 | j :: tl, t, k => by
  rw [List.foldl_cons, get_restrict hp tl]
  by_cases hk : k ∈ tl
  ·simp only [hk, if_true, List.mem_cons, or_true]
   cases hg : hp.get k with
   | some e => rfl
   | none =>
    simp only
    cases hj : hp.get j with
    | none => rfl
    | some e' =>
     simp only
     rw [T.get_set, if_neg (fun e => by subst e; rw [hg] at hj; cases hj)]
  simp only [hk, if_false, List.mem_cons, or_false]
  by_cases e : k = j
  ·subst e
   simp only [if_true]
   cases hg : hp.get k with
   | some e => simp only; rw [T.get_set, if_pos rfl]
   | none => rfl
  simp only [e, if_false]
  cases hg : hp.get j with
  | some e' => simp only; rw [T.get_set, if_neg e]
  | none => rfl
omit S in
theorem get_unlock (hp0 : T ME) : ∀ (tl : List Nat) (t : T ME) (k : Nat), (tl.foldl (fun t k => match hp0.get k with | some e => t.set k e | none => t) t).get k =
  if k ∈ tl then (match hp0.get k with | some e => some e | none => t.get k) else t.get k
 | [], t, k => by simp
 | j :: tl, t, k => by
  rw [List.foldl_cons, get_unlock hp0 tl]
  by_cases hk : k ∈ tl
  ·simp only [hk, if_true, List.mem_cons, or_true]
   cases hg : hp0.get k with
   | some e => rfl
   | none =>
    simp only
    cases hj : hp0.get j with
    | none => rfl
    | some e' =>
     simp only
     rw [T.get_set, if_neg (fun e => by subst e; rw [hg] at hj; cases hj)]
  simp only [hk, if_false, List.mem_cons, or_false]
  by_cases e : k = j
  ·subst e
   simp only [if_true]
   cases hg : hp0.get k with
   | some e => simp only; rw [T.get_set, if_pos rfl]
   | none => rfl
  simp only [e, if_false]
  cases hg : hp0.get j with
  | some e' => simp only; rw [T.get_set, if_neg e]
  | none => rfl
omit S in
theorem withLock_some {tl : List Nat} {x : M Fr} {y : Fr → M Fr} {A : Nat → Nat} {m m' : Mem} {fr : Fr} (h : withLock tl x y A m = some (fr, m')) :
  ∃ fr1 m1 m2, (∀ k ∈ tl, k < m.n) ∧ x A { m with hp := restrict m.hp tl } = some (fr1, m1) ∧ y fr1 A { m1 with hp := lock m.hp tl, n := m.n } = some (fr, m2) ∧ m' = { m2 with hp := unlock m2.hp m.hp tl } := by
 unfold withLock at h
 obtain ⟨hp, n, i, hs, eqs, out⟩ := m
 simp only at h
 cases hb : tl.all fun k => Nat.blt k n with
 | false => rw [hb] at h; cases h
 | true =>
  rw [hb, cond_true] at h
  have hlt : ∀ k ∈ tl, k < n := fun k hk => Nat.le_of_ble_eq_true (List.all_eq_true.1 hb k hk)
  split at h
  ·rename_i fr1 hp1 n1 i1 hs1 eqs1 out1 h1
   split at h
   ·rename_i fr2 hp2 n2 i2 hs2 eqs2 out2 h2
    simp only [Option.some.injEq, Prod.mk.injEq] at h
    obtain ⟨rfl, rfl⟩ := h
    exact ⟨fr1, ⟨hp1, n1, i1, hs1, eqs1, out1⟩, ⟨hp2, n2, i2, hs2, eqs2, out2⟩, hlt, h1, h2, rfl⟩
   cases h
  cases h
omit S in
theorem withLock_of {tl : List Nat} {x : M Fr} {y : Fr → M Fr} {A : Nat → Nat} {m m1 m2 : Mem} {fr fr1 : Fr} (hlt : ∀ k ∈ tl, k < m.n) (h1 : x A { m with hp := restrict m.hp tl } = some (fr1, m1)) (h2 : y fr1 A { m1 with hp := lock m.hp tl, n := m.n } = some (fr, m2)) :
  withLock tl x y A m = some (fr, { m2 with hp := unlock m2.hp m.hp tl }) := by
 unfold withLock
 obtain ⟨hp, n, i, hs, eqs, out⟩ := m
 have hb : (tl.all fun k => Nat.blt k n) = true := List.all_eq_true.2 fun k hk => Nat.ble_eq_true_of_le (hlt k hk)
 simp only [hb, cond_true]
 simp only at h1 h2
 rw [h1]
 obtain ⟨hp1, n1, i1, hs1, eqs1, out1⟩ := m1
 simp only at h2 ⊢
 rw [h2]
omit S in
theorem good_lock {tl : List Nat} {x : M Fr} {y : Fr → M Fr} (hx : Good x) (hy : ∀ fr, Good (y fr)) : Good (withLock tl x y) := by
 refine ⟨fun {A m a m'} h => ?_, fun {A m a m'} h he => ?_, fun {A m a m'} h A' hA => ?_, fun {A m a m'} h => ?_⟩
 ·obtain ⟨fr1, m1, m2, hlt, h1, h2, rfl⟩ := withLock_some h
  have q1 := hx.le h1
  have q2 := (hy fr1).le h2
  exact Nat.le_trans q1 q2
 ·obtain ⟨fr1, m1, m2, hlt, h1, h2, rfl⟩ := withLock_some h
  have q2 := (hy fr1).eqs h2 he
  have q1 := hx.eqs h1 q2
  exact q1
 ·obtain ⟨fr1, m1, m2, hlt, h1, h2, rfl⟩ := withLock_some h
  have q2 := (hy fr1).le h2
  exact withLock_of hlt (hx.loc h1 A' fun j hj => hA j (Nat.lt_of_lt_of_le hj q2)) ((hy fr1).loc h2 A' hA)
 obtain ⟨fr1, m1, m2, hlt, h1, h2, rfl⟩ := withLock_some h
 have q := (hy fr1).keep h2
 refine ⟨q.n, fun k e hk he ho => ?_, fun k e he ho => ?_⟩
 ·dsimp only
  unfold unlock
  rw [get_unlock]
  by_cases ht : k ∈ tl
  ·rw [if_pos ht, he]
  rw [if_neg ht]
  refine q.keep k e hk ?_ ho
  dsimp only
  unfold lock
  rw [get_restrict, if_neg ht]
  exact he
 dsimp only at he
 unfold unlock at he
 rw [get_unlock] at he
 by_cases ht : k ∈ tl
 ·rw [if_pos ht] at he
  cases hg : m.hp.get k with
  | some e' => rw [hg] at he; exact he
  | none =>
   rw [hg] at he
   have h9 := q.conv k e he ho
   dsimp only at h9
   unfold lock at h9
   rw [get_restrict, if_pos ht, hg] at h9
   cases h9
 rw [if_neg ht] at he
 have h9 := q.conv k e he ho
 dsimp only at h9
 unfold lock at h9
 rw [get_restrict, if_neg ht] at h9
 exact h9
omit S in
theorem good_float (ops : Array Oper) (fl : Option Nat) (fr : Fr) : Good (evFloat P ops fl fr) := by
 unfold evFloat
 split
 ·exact .ret _
 split
 ·refine .bind .fresh fun b => ?_
  split
  ·exact .bind (.pushE _) fun _ => .ret _
  exact .fail
 exact .fail
theorem good_drawH (ops : Array Oper) (fr : Fr) : Good (evDrawH P false R ops fr) := by
 unfold evDrawH
 refine .bind good_readL fun pl => ?_
 split
 ·exact .cond (.bind good_readL fun tl => .bind (good_lock (good_headL _ _ _) fun fr1 => good_ops S _ _ _) fun fr2 => .bind (good_float _ _ _) fun fr3 => good_ops S _ _ _) .fail
 exact .fail
theorem good_block (ops : Array Oper) (k : Nat) (hd : List Nat) (h : Nat) (fr : Fr) : Good (evBlock P false R ops k hd h fr) := by
 unfold evBlock
 exact .bind good_readL fun tl => good_lock (good_headL _ _ _) fun fr1 => good_ops S _ _ _
theorem good_blocks (ops : Array Oper) : ∀ (f k : Nat) (fr : Fr), Good (evBlocks P false R ops f k fr)
 | 0, _, _ => .fail
 | f + 1, k, fr => by
  unfold evBlocks
  refine .cond (.ret _) (.bind good_readL fun pl => ?_)
  split
  ·exact .cond (.bind (good_block S _ _ _ _ _) fun fr => good_blocks ops f _ fr) .fail
  exact .fail
omit S in
theorem good_marks : ∀ ds : List Nat, Good (evMarks false ds)
 | [] => .ret ()
 | D :: ds => by
  unfold evMarks
  refine .bind (.locB _) fun x => ?_
  split
  ·exact .bind (.putE _ _) fun _ => good_marks ds
  exact .fail
theorem good_fn (f : FuncId) (args : List Value) : Good (evFn P false R f args) := by
 unfold evFn
 split
 ·exact .fail
 split
 ·exact .fail
 refine .cond (.bind (S.gcode _ _ _) fun x => ?_) .fail
 split
 ·exact .fail
 exact .bind (good_marks _) fun _ => .cond (good_runL P _) .fail
theorem good_range2 (rd : Option Nat) (gf : FuncId) (first cap : Array Value) (L : Nat) (fr : Fr) : Good (evRange2 P false R rd gf first cap L fr) := by
 unfold evRange2
 split
 ·refine .bind (S.gfn _ _) fun _ => .bind (.locB _) fun x => ?_
  split
  ·split
   ·exact .fail
   refine .bind (.putE _ _) fun _ => ?_
   split
   ·exact .ret _
   exact S.gcode _ _ _
  exact .fail
 exact .fail
theorem good_range (rd : Option Nat) (g : Operand) (ps : Array Tmp) (assign body : Code) (fr : Fr) : Good (evRange P false R rd g ps assign body fr) := by
 unfold evRange
 split
 ·split
  ·exact .bind .fresh fun D => .bind (.pushE _) fun _ => .bind .fresh fun L => .bind (.pushE _) fun _ => good_range2 S _ _ _ _ _ _
  refine .bind (.locB _) fun x => ?_
  split
  ·exact .bind .fresh fun L => .bind (.pushE _) fun _ => good_range2 S _ _ _ _ _ _
  exact .fail
 exact .fail
theorem good_loop (rd : Option Nat) (c : Code) : ∀ (f : Nat) (fr : Fr), Good (evLoop R rd c f fr)
 | 0, _ => .fail
 | f + 1, fr => by
  unfold evLoop
  refine .bind (S.gcode _ _ _) fun x => ?_
  split
  ·exact good_loop rd c f _
  exact .ret _
theorem good_md (ops : Array Oper) (fr : Fr) (md : Nat) : Good (evMd P false R ops fr md) := by
 unfold evMd
 split
 ·exact .bind (.pick _) fun h => .cond (.bind (good_head S _ _ _) fun _ => .bind (good_ops S _ _ _) fun _ => .ret _) .fail
 ·exact .bind (good_drawH S _ _) fun _ => .ret _
 exact .cond (.bind (good_blocks S _ _ _ _) fun _ => .ret _) .fail
theorem good_code (f : Nat) (rd : Option Nat) (c : Code) (fr : Fr) : Good (evCode P false R f rd c fr) := by
 unfold evCode
 split
 ·exact .ret _
 ·exact .ret _
 ·exact .bind (good_ops S _ _ _) fun _ => .ret _
 ·exact .bind (.pick _) fun md => good_md S _ _ md
 ·refine .bind (S.gcode _ _ _) fun x => ?_
  split
  ·exact S.gcode _ _ _
  exact .ret _
 ·split
  ·exact S.gcode _ _ _
  ·exact S.gcode _ _ _
  exact .fail
 ·refine .bind (S.gcode _ _ _) fun x => ?_
  split
  ·exact .cond (.ret _) (.ret _)
  exact .ret _
 ·exact good_loop S _ _ _ _
 ·exact S.gcode _ _ _
 ·exact .ret _
 ·exact .ret _
 ·exact good_range S _ _ _ _ _ _
 exact .fail
end
end Run
end
end Go.Proofs.Ytcncfmjfgdbfeab
