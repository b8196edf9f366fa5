/- Whole runs of closed calls: plain operations, by short ways. -/
import Derived.Test.YtcncfmjfgdbfeabRunU
import Derived.Test.YtcncfmjfgdbfeabM9
import Derived.Laws.IdiomCopy
import Derived.Laws.Tables
import Derived.Great.BuildSlice
namespace Go.Proofs.Ytcncfmjfgdbfeab
open Go.RowKit
noncomputable section
namespace Run
/-! ### whole numbers, by the recursors alone -/
def kno (k : IntKind) : Nat := @IntKind.rec (fun _ => Nat) (nat_lit 0) (nat_lit 1) (nat_lit 2) (nat_lit 3) (nat_lit 4) (nat_lit 5) (nat_lit 6) (nat_lit 7) k
def maxK (k : IntKind) : Nat := @IntKind.rec (fun _ => Nat) (nat_lit 127) (nat_lit 32767) (nat_lit 2147483647) (nat_lit 9223372036854775807) (nat_lit 255) (nat_lit 65535) (nat_lit 4294967295) (nat_lit 18446744073709551615) k
def wrapF (k : IntKind) (n : Int) : Int := @Int.rec (fun _ => Int) (fun m => @Bool.rec (fun _ => Int) (k.wrap (Int.ofNat m)) (Int.ofNat m) (Nat.ble m (maxK k))) (fun m => k.wrap (Int.negSucc m)) n
def notB (b : Bool) : Bool := @Bool.rec (fun _ => Bool) true false b
def leI (a b : Int) : Bool := @Int.rec (fun _ => Bool) (fun m => @Int.rec (fun _ => Bool) (fun n => Nat.ble m n) (fun _ => false) b) (fun m => @Int.rec (fun _ => Bool) (fun _ => true) (fun n => Nat.ble n m) b) a
def eqI (a b : Int) : Bool := @Int.rec (fun _ => Bool) (fun m => @Int.rec (fun _ => Bool) (fun n => Nat.beq m n) (fun _ => false) b) (fun m => @Int.rec (fun _ => Bool) (fun _ => false) (fun n => Nat.beq m n) b) a
def addI (a b : Int) : Int := @Int.rec (fun _ => Int) (fun m => @Int.rec (fun _ => Int) (fun n => Int.ofNat (Nat.add m n)) (fun n => Int.add (Int.ofNat m) (Int.negSucc n)) b) (fun m => Int.add (Int.negSucc m) b) a
def subI (a b : Int) : Int := @Int.rec (fun _ => Int) (fun m => @Int.rec (fun _ => Int) (fun n => @Bool.rec (fun _ => Int) (Int.sub (Int.ofNat m) (Int.ofNat n)) (Int.ofNat (Nat.sub m n)) (Nat.ble n m)) (fun n => Int.sub (Int.ofNat m) (Int.negSucc n)) b) (fun m => Int.sub (Int.negSucc m) b) a
def mulI (a b : Int) : Int := @Int.rec (fun _ => Int) (fun m => @Int.rec (fun _ => Int) (fun n => Int.ofNat (Nat.mul m n)) (fun n => Int.mul (Int.ofNat m) (Int.negSucc n)) b) (fun m => Int.mul (Int.negSucc m) b) a
inductive Pl where
 | slow
 | val (v : Value)
 | loadC (b o : Nat)
 | loadA (b o n : Nat)
 | store (b o : Nat) (vs : List Value)
 | enter (f : FuncId) (args : List Value)
 | newP (E : TypeId) (cs : List Value)
 | newS (E : TypeId) (cs : List Value) (n : Nat)
def fInt (op : BinOp) (k : IntKind) (a b : Int) : Pl :=
 @BinOp.rec (fun _ => Pl) (.val (.int k (wrapF k (addI a b)))) (.val (.int k (wrapF k (subI a b)))) (.val (.int k (wrapF k (mulI a b)))) .slow .slow .slow .slow .slow .slow .slow .slow
  (.val (.bool (eqI a b))) (.val (.bool (notB (eqI a b)))) (.val (.bool (notB (leI b a)))) (.val (.bool (leI a b))) (.val (.bool (notB (leI a b)))) (.val (.bool (leI b a))) op
inductive Pn where
 | slow
 | mov (x : Operand)
 | bin (op : BinOp) (x y : Operand)
 | notB (x : Operand)
 | loadC (x : Operand)
 | loadA (n : Nat) (x : Operand)
 | storeC (x v : Operand)
 | storeA (n : Nat) (x v : Operand)
 | part1 (off : Nat) (x : Operand)
 | partA (off n : Nat) (x : Operand)
 | faddr (off : Nat) (x : Operand)
 | iaddr (sz : Nat) (x i : Operand)
 | extr (i : Nat) (x : Operand)
 | call (f : FuncId) (args : List Operand)
 | len (x : Operand)
 | box (E : TypeId) (x : Operand)
 | fresh (E : TypeId) (cs : List Value)
 | build (zero : List Value) (parts : List (Nat × Nat × Operand))
 | row (E : TypeId) (n : Nat) (zero : List Value) (parts : List (Nat × Nat × Operand))
def onVal (x : Option Value) (k : Value → Pl) : Pl := @Option.rec Value (fun _ => Pl) .slow k x
def onInt (x : Option Value) (k : IntKind → Int → Pl) : Pl := match x with
 | some (.int kk n) => k kk n
 | _ => .slow
def onBool (x : Option Value) (k : Bool → Pl) : Pl := match x with
 | some (.bool b) => k b
 | _ => .slow
def onAddr (x : Option Value) (k : Nat → Nat → Pl) : Pl := match x with
 | some (.pointer (some ⟨b, o, none⟩)) => k b o
 | _ => .slow
def onSlice (x : Option Value) (k : Nat → Nat → Nat → Pl) : Pl := match x with
 | some (.slice (some ⟨b, o, none⟩) n _) => k b o n
 | _ => .slow
def onAgg (x : Option Value) (k : List Value → Pl) : Pl := match x with
 | some (.agg ⟨l⟩) => k l
 | _ => .slow
def nthL (l : List Value) : Nat → Pl := @List.rec Value (fun _ => Nat → Pl) (fun _ => .slow) (fun v _ ih i => @Nat.rec (fun _ => Pl) (.val v) (fun j _ => ih j) i) l
def dropL (l : List Value) : Nat → List Value := @List.rec Value (fun _ => Nat → List Value) (fun _ => []) (fun v l ih i => @Nat.rec (fun _ => List Value) (v :: l) (fun j _ => ih j) i) l
def takeL (l : List Value) : Nat → List Value := @List.rec Value (fun _ => Nat → List Value) (fun _ => []) (fun v _ ih i => @Nat.rec (fun _ => List Value) [] (fun j _ => v :: ih j) i) l
def lenL (l : List Value) : Nat := @List.rec Value (fun _ => Nat) (nat_lit 0) (fun _ _ ih => Nat.succ ih) l
def inRow (i : Int) (n : Nat) (k : Nat → Pl) : Pl := @Int.rec (fun _ => Pl) (fun m => @Bool.rec (fun _ => Pl) .slow (k m) (Nat.ble (Nat.succ m) n)) (fun _ => .slow) i
def evAll (t : Tr) (l : List Operand) : Option (List Value) := @List.rec Operand (fun _ => Option (List Value)) (some []) (fun x _ ih => match t.ev? x with
 | some v => match ih with
  | some r => some (v :: r)
  | none => none
 | none => none) l
def cellsL (v : Value) : List Value := match v with
 | .agg ⟨l⟩ => l
 | v => [v]
def laid (off : Nat) (cs l : List Value) : List Value := @Nat.rec (fun _ => List Value → List Value) (fun l => List.append cs (dropL l (lenL cs))) (fun _ ih l => match l with
 | [] => []
 | v :: l => v :: ih l) off l
def fillL (t : Tr) (ps : List (Nat × Nat × Operand)) : List Value → Option (List Value) := @List.rec (Nat × Nat × Operand) (fun _ => List Value → Option (List Value)) (fun l => some l) (fun p _ ih l => match p with
 | (off, sz, x) => match t.ev? x with
  | some v => @Bool.rec (fun _ => Option (List Value)) none (ih (laid off (cellsL v) l)) (Nat.beq (lenL (cellsL v)) sz)
  | none => none) ps
def plOf (t : Tr) (p : Pn) : Pl :=
 @Pn.rec (fun _ => Pl)
  .slow
  (fun x => onVal (t.ev? x) .val)
  (fun op x y => onInt (t.ev? x) fun k a => onInt (t.ev? y) fun k' b => @Bool.rec (fun _ => Pl) .slow (fInt op k a b) (Nat.beq (kno k) (kno k')))
  (fun x => onBool (t.ev? x) fun b => .val (.bool (notB b)))
  (fun x => onAddr (t.ev? x) .loadC)
  (fun n x => onAddr (t.ev? x) fun b o => .loadA b o n)
  (fun x v => onAddr (t.ev? x) fun b o => onVal (t.ev? v) fun v => .store b o [v])
  (fun n x v => onAddr (t.ev? x) fun b o => onAgg (t.ev? v) fun l => @Bool.rec (fun _ => Pl) .slow (.store b o l) (Nat.beq (lenL l) n))
  (fun off x => onAgg (t.ev? x) fun l => nthL l off)
  (fun off n x => onAgg (t.ev? x) fun l => .val (.agg ⟨takeL (dropL l off) n⟩))
  (fun off x => onAddr (t.ev? x) fun b o => .val (.pointer (some ⟨b, Nat.add o off, none⟩)))
  (fun sz x i => onSlice (t.ev? x) fun b o n => onInt (t.ev? i) fun _ i => inRow i n fun j => .val (.pointer (some ⟨b, Nat.add o (Nat.mul j sz), none⟩)))
  (fun i x => match t.ev? x with
   | some (.tuple ⟨l⟩) => nthL l i
   | _ => .slow)
  (fun f args => match evAll t args with
   | some vs => .enter f vs
   | none => .slow)
  (fun x => match t.ev? x with
   | some (.slice _ n _) => .val (.int .i64 (Int.ofNat n))
   | _ => .slow)
  (fun E x => onVal (t.ev? x) fun v => .newP E (cellsL v))
  (fun E cs => .newP E cs)
  (fun z ps => match fillL t ps z with
   | some cs => .val (.agg ⟨cs⟩)
   | none => .slow)
  (fun E n z ps => match fillL t ps z with
   | some cs => .newS E cs n
   | none => .slow)
  p
def nthG {α : Type} (l : List α) : Nat → Option α := @List.rec α (fun _ => Nat → Option α) (fun _ => none) (fun v _ ih i => @Nat.rec (fun _ => Option α) (some v) (fun j _ => ih j) i) l
theorem nthG_eq {α : Type} : ∀ (l : List α) (n : Nat), nthG l n = l[n]?
 | [], n => by simp; rfl
 | v :: l, 0 => rfl
 | v :: l, n + 1 => by rw [List.getElem?_cons_succ]; exact nthG_eq l n
def infoL (P : Program) (t : TypeId) : Option TypeInfo := match nthG P.types.toList t with
 | some i => some i
 | none => P.info? t
theorem infoL_eq (P : Program) (t : TypeId) : infoL P t = P.info? t := by
 unfold infoL
 rw [nthG_eq, Array.getElem?_toList]
 split
 ·rename_i i hi
  have hlt := (Array.getElem?_eq_some_iff.1 hi).1
  unfold Tables.info?
  rw [if_pos hlt, hi]
 rfl
def undL (P : Program) (t : TypeId) : Option TypeDesc := match infoL P t with
 | some { desc := .named _ u, .. } => (infoL P u).map (·.desc)
 | some i => some i.desc
 | none => none
theorem undL_eq (P : Program) (t : TypeId) : undL P t = P.underlying t := by
 unfold undL Program.underlying
 simp only [infoL_eq]
 rfl
def cellsP (P : Program) (t : TypeId) : Option Nat := (infoL P t).map (·.size)
theorem cellsP_eq (P : Program) (t : TypeId) : cellsP P t = cellsN P t := by unfold cellsP cellsN; rw [infoL_eq]
section
variable (P : Program)
def aggN (ty : TypeId) : Option (Option Nat) := match undL P ty, cellsP P ty with
 | some (.struct _), some n => some (some n)
 | some (.array _ _), some n => some (some n)
 | some _, some 1 => some none
 | _, _ => none
def fieldOf (ty : TypeId) (f : Nat) : Option Field := match undL P ty with
 | some (.struct fs) => fs[f]?
 | _ => none
def rowOf (ty : TypeId) : Option Nat := match undL P ty with
 | some (.slice e) => cellsP P e
 | _ => none
def isSlice (ty : TypeId) : Bool := match undL P ty with
 | some (.slice _) => true
 | _ => false
def mayEnter (f : FuncId) : Bool := match nthG P.funcs.toList f with
 | some fn => fn.body.isSome && !(fn.name == "runtime.NumGoroutine")
 | none => false
def buildOf (ty : TypeId) : Option ((Nat → Option (Nat × Nat)) × List Value) := match infoL P ty, undL P ty with
 | some it, some (.array _ e) => match it.zero, infoL P e with
  | some z, some ie => some (fun i => some (i * ie.size, ie.size), z.cells.toList)
  | _, _ => none
 | some it, some (.struct fields) => match it.zero, fields.toList.mapM (fun f => (infoL P f.type).map fun i => (f.offset, i.size)) with
  | some z, some places => some ((places.toArray[·]?), z.cells.toList)
  | _, _ => none
 | _, _ => none
def rowE (ty : TypeId) (n : Nat) : Option (TypeId × Nat × List Value) := match undL P ty with
 | some (.slice e) => match infoL P e with
  | some ie => match ie.zero with
   | some z => bif Nat.ble (n * ie.size) 16777216 && Nat.ble 1 (n * ie.size) then some (e, ie.size, (List.range (n * ie.size)).map fun j => z.cells[j % z.cells.size]!) else none
   | none => none
  | none => none
 | _ => none
def partsOf (f : Nat → Option (Nat × Nat)) (m : Nat) : List (Nat × Operand) → Option (List (Nat × Nat × Operand))
 | [] => some []
 | (i, x) :: l => match f i, partsOf f m l with
  | some (off, sz), some r => bif Nat.ble (off + sz) m then some ((off, sz, x) :: r) else none
  | _, _ => none
def planOp (o : Oper) : Pn := match o.op with
 | .move x => .mov x
 | .assign x => .mov x
 | .binOp op _ x y _ => .bin op x y
 | .unOp .not _ x => .notB x
 | .load ty x => match aggN P ty with
  | some none => .loadC x
  | some (some n) => .loadA n x
  | none => .slow
 | .store ty x v => match aggN P ty with
  | some none => .storeC x v
  | some (some n) => .storeA n x v
  | none => .slow
 | .field ty x f => match fieldOf P ty f with
  | some fd => match aggN P fd.type with
   | some none => .part1 fd.offset x
   | some (some n) => .partA fd.offset n x
   | none => .slow
  | none => .slow
 | .fieldAddr ty x f => match fieldOf P ty f with
  | some fd => match cellsP P fd.type with
   | some (_ + 1) => .faddr fd.offset x
   | _ => .slow
  | none => .slow
 | .indexAddr ty x i => match rowOf P ty with
  | some sz => .iaddr sz x i
  | none => .slow
 | .extract x i => .extr i x
 | .box ty x => .box ty x
 | .build ty parts => match buildOf P ty with
  | some (f, z) => match partsOf f z.length parts.toList with
   | some ps => .build z ps
   | none => .slow
  | none => .slow
 | .buildSlice ty n parts => match rowE P ty n with
  | some (E, sz, z) => match partsOf (fun i => some (i * sz, sz)) z.length parts.toList with
   | some ps => .row E n z ps
   | none => .slow
  | none => .slow
 | .call c => match c.callee with
  | .value (.func f) => bif mayEnter P f then .call f c.args.toList else .slow
  | .builtin .len => match c.args.toList, c.argTypes.toList with
   | [x], [ty] => bif isSlice P ty then .len x else .slow
   | _, _ => .slow
  | _ => .slow
 | _ => .slow
end
/-! ### it is so -/
theorem kno_inj {a b : IntKind} (h : Nat.beq (kno a) (kno b) = true) : a = b := by
 cases a <;> cases b <;> first | rfl | (exact absurd h (by decide))
theorem notB_eq (b : Bool) : notB b = !b := by cases b <;> rfl
theorem wrapF_eq (k : IntKind) (n : Int) : wrapF k n = k.wrap n := by
 cases n with
 | negSucc m => rfl
 | ofNat m =>
  show @Bool.rec (fun _ => Int) (k.wrap (Int.ofNat m)) (Int.ofNat m) (Nat.ble m (maxK k)) = _
  cases h : Nat.ble m (maxK k) with
  | false => rfl
  | true =>
   have h1 := Nat.le_of_ble_eq_true h
   show Int.ofNat m = _
   cases k <;> simp [maxK] at h1 <;> simp [IntKind.wrap, IntKind.bits, IntKind.signed] <;> omega
theorem leI_eq (a b : Int) : leI a b = decide (a ≤ b) := by
 cases a <;> cases b <;> rename_i m n <;> simp only [leI] <;> rw [Bool.eq_iff_iff] <;> simp <;> omega
theorem eqI_eq (a b : Int) : eqI a b = decide (a = b) := by
 cases a <;> cases b <;> rename_i m n <;> simp only [eqI] <;> rw [Bool.eq_iff_iff] <;> simp <;> omega
theorem addI_eq (a b : Int) : addI a b = a + b := by
 cases a <;> cases b <;> rfl
theorem subI_eq (a b : Int) : subI a b = a - b := by
 cases a with
 | negSucc m => rfl
 | ofNat m =>
  cases b with
  | negSucc n => rfl
  | ofNat n =>
   show @Bool.rec (fun _ => Int) (Int.sub (Int.ofNat m) (Int.ofNat n)) (Int.ofNat (Nat.sub m n)) (Nat.ble n m) = _
   cases h : Nat.ble n m with
   | false => rfl
   | true =>
    have h1 := Nat.le_of_ble_eq_true h
    show ((m - n : Nat) : Int) = (m : Int) - (n : Int)
    omega
theorem mulI_eq (a b : Int) : mulI a b = a * b := by
 cases a <;> cases b <;> first | rfl | (simp only [mulI]; rfl)
theorem lenL_eq (l : List Value) : lenL l = l.length := by
 induction l with
 | nil => rfl
 | cons v l ih => exact congrArg Nat.succ ih
theorem dropL_eq : ∀ (l : List Value) (n : Nat), dropL l n = l.drop n
 | [], n => by simp; rfl
 | v :: l, 0 => rfl
 | v :: l, n + 1 => dropL_eq l n
theorem takeL_eq : ∀ (l : List Value) (n : Nat), takeL l n = l.take n
 | [], n => by simp; rfl
 | v :: l, 0 => rfl
 | v :: l, n + 1 => congrArg (v :: ·) (takeL_eq l n)
theorem nthL_val : ∀ {l : List Value} {n : Nat} {v : Value}, nthL l n = .val v → l[n]? = some v
 | [], n, v, h => by cases h
 | u :: l, 0, v, h => by
  have h' : Pl.val u = Pl.val v := h
  cases h'; rfl
 | u :: l, n + 1, v, h => by
  rw [List.getElem?_cons_succ]
  exact nthL_val (l := l) (n := n) h
theorem nthL_or : ∀ (l : List Value) (n : Nat), nthL l n = .slow ∨ ∃ v, nthL l n = .val v
 | [], _n => .inl rfl
 | u :: _l, 0 => .inr ⟨u, rfl⟩
 | _u :: l, n + 1 => nthL_or l n
theorem laid_get (cs : List Value) : ∀ (off : Nat) (l : List Value), off + cs.length ≤ l.length → ∀ i, (laid off cs l)[i]? = if off ≤ i ∧ i < off + cs.length then cs[i - off]? else l[i]?
 | 0, l, h, i => by
  show (cs ++ dropL l (lenL cs))[i]? = _
  rw [lenL_eq, dropL_eq, List.getElem?_append]
  by_cases hi : i < cs.length
  ·rw [if_pos hi, if_pos ⟨Nat.zero_le _, by omega⟩, Nat.sub_zero]
  rw [if_neg hi, if_neg (by omega), List.getElem?_drop]
  congr 1
  omega
 | off + 1, [], h, i => by simp at h
 | off + 1, v :: l, h, i => by
  show (v :: laid off cs l)[i]? = _
  have h' : off + cs.length ≤ l.length := by simp at h; omega
  cases i with
  | zero => rw [if_neg (by omega)]; rfl
  | succ i =>
   rw [List.getElem?_cons_succ, laid_get cs off l h' i, List.getElem?_cons_succ]
   by_cases hi : off ≤ i ∧ i < off + cs.length
   ·rw [if_pos hi, if_pos (by omega), show i + 1 - (off + 1) = i - off by omega]
   rw [if_neg hi, if_neg (by omega)]
theorem laid_len (cs : List Value) : ∀ (off : Nat) (l : List Value), off + cs.length ≤ l.length → (laid off cs l).length = l.length
 | 0, l, h => by
  show (cs ++ dropL l (lenL cs)).length = _
  rw [lenL_eq, dropL_eq]
  simp
  omega
 | off + 1, [], h => by simp at h
 | off + 1, v :: l, h => by
  show (v :: laid off cs l).length = _
  simp only [List.length_cons]
  rw [laid_len cs off l (by simp at h; omega)]
theorem sets_get (off : Nat) : ∀ (cs : List Value) (k : Nat) (A : Array Value) (i : Nat), off + k + cs.length ≤ A.size →
  ((cs.zipIdx k).foldl (fun (A : Array Value) (x : Value × Nat) => A.setIfInBounds (off + x.2) x.1) A)[i]? = if off + k ≤ i ∧ i < off + k + cs.length then cs[i - (off + k)]? else A[i]?
 | [], k, A, i, h => by
  rw [if_neg (by simp)]
  rfl
 | v :: cs, k, A, i, h => by
  rw [List.zipIdx_cons, List.foldl_cons, sets_get off cs (k + 1) _ i (by simp at h ⊢; omega)]
  simp only [List.length_cons] at h ⊢
  by_cases h1 : off + (k + 1) ≤ i ∧ i < off + (k + 1) + cs.length
  ·rw [if_pos h1, if_pos (by omega), show i - (off + k) = (i - (off + (k + 1))) + 1 by omega, List.getElem?_cons_succ]
  rw [if_neg h1, Array.getElem?_setIfInBounds]
  by_cases h2 : off + k = i
  ·rw [if_pos h2, if_pos (by omega), if_pos (by omega), show i - (off + k) = 0 by omega]
   rfl
  rw [if_neg h2, if_neg (by omega)]
theorem sets_size (off : Nat) : ∀ (cs : List Value) (k : Nat) (A : Array Value), ((cs.zipIdx k).foldl (fun (A : Array Value) (x : Value × Nat) => A.setIfInBounds (off + x.2) x.1) A).size = A.size
 | [], k, A => rfl
 | v :: cs, k, A => by rw [List.zipIdx_cons, List.foldl_cons, sets_size off cs (k + 1)]; simp
theorem sets_laid (off : Nat) (cs : Array Value) (A : Array Value) (h : off + cs.size ≤ A.size) :
  (cs.zipIdx.foldl (fun (A : Array Value) (x : Value × Nat) => A.setIfInBounds (off + x.2) x.1) A) = (laid off cs.toList A.toList).toArray := by
 rw [← Array.foldl_toList, Array.toList_zipIdx]
 apply Array.ext'
 apply List.ext_getElem?
 intro i
 rw [Array.getElem?_toList, sets_get off cs.toList 0 A i (by simpa using h)]
 rw [laid_get _ _ _ (by simpa using h)]
 simp
theorem cells_eq (v : Value) : v.cells.toList = cellsL v := by
 cases v <;> rfl
theorem evAll_some {t : Tr} : ∀ {l : List Operand} {vs : List Value}, evAll t l = some vs → l.map (t.ev?) = vs.map some
 | [], vs, h => by
  have h' : some [] = some vs := h
  cases h'; rfl
 | x :: l, vs, h => by
  have h' : (match t.ev? x with
   | some v => match evAll t l with
    | some r => some (v :: r)
    | none => none
   | none => none) = some vs := h
  split at h'
  ·rename_i v hv
   split at h'
   ·rename_i r hr
    simp only [Option.some.injEq] at h'
    subst h'
    simp [hv, evAll_some hr]
   cases h'
  cases h'
theorem evAll_ev {ρ : Operand → Value} {t : Tr} (hr : ∀ x v, t.ev? x = some v → ρ x = v) : ∀ {l : List Operand} {vs : List Value}, l.map (t.ev?) = vs.map some → l.map ρ = vs
 | [], [], _ => rfl
 | [], _ :: _, h => by cases h
 | _ :: _, [], h => by cases h
 | x :: l, v :: vs, h => by
  simp only [List.map_cons, List.cons.injEq] at h ⊢
  exact ⟨hr _ _ h.1, evAll_ev hr h.2⟩
theorem fill_ok {ρ : Operand → Value} {t : Tr} (hr : ∀ x v, t.ev? x = some v → ρ x = v) {f : Nat → Option (Nat × Nat)} {m : Nat} :
  ∀ {parts : List (Nat × Operand)} {ps : List (Nat × Nat × Operand)} {z cs : List Value}, partsOf f m parts = some ps → z.length = m → fillL t ps z = some cs →
  Instr.fill f z.toArray (parts.map fun p => (p.1, ρ p.2)) = some cs.toArray ∧ cs.length = m
 | [], ps, z, cs, h1, hz, h2 => by
  simp only [partsOf, Option.some.injEq] at h1
  subst h1
  have h3 : some z = some cs := h2
  cases h3
  exact ⟨rfl, hz⟩
 | (i, x) :: parts, ps, z, cs, h1, hz, h2 => by
  unfold partsOf at h1
  split at h1
  ·rename_i off sz r hf hr1
   cases hb : Nat.ble (off + sz) m with
   | false => rw [hb] at h1; cases h1
   | true =>
    rw [hb] at h1
    simp only [cond_true, Option.some.injEq] at h1
    subst h1
    have hle := Nat.le_of_ble_eq_true hb
    have h3 : (match t.ev? x with
     | some v => @Bool.rec (fun _ => Option (List Value)) none (fillL t r (laid off (cellsL v) z)) (Nat.beq (lenL (cellsL v)) sz)
     | none => none) = some cs := h2
    split at h3
    ·rename_i v hv
     cases hc : Nat.beq (lenL (cellsL v)) sz with
     | false => rw [hc] at h3; cases h3
     | true =>
      rw [hc] at h3
      have hlen := Nat.eq_of_beq_eq_true hc
      rw [lenL_eq] at hlen
      have hsz : v.cells.size = sz := by rw [← hlen, ← cells_eq]; simp
      have h4 : fillL t r (laid off (cellsL v) z) = some cs := h3
      obtain ⟨h5, h6⟩ := fill_ok hr (z := laid off (cellsL v) z) hr1 (by rw [laid_len _ _ _ (by omega)]; exact hz) h4
      refine ⟨?_, h6⟩
      simp only [List.map_cons, Instr.fill, hf, hr _ _ hv]
      rw [if_neg (by simp [hsz]; omega)]
      have h7 := sets_laid off v.cells z.toArray (by simp [hsz]; omega)
      rw [cells_eq] at h7
      rw [h7]
      exact h5
    cases h3
  cases h1
def PlOk (P : Program) (s : Sem Next) : Pl → Prop
 | .slow => True
 | .val v => ∀ w, s.run P w = .ok (.value v) w
 | .loadC b o => ∀ w v, w.cell? ⟨b, o, none⟩ = some v → s.run P w = .ok (.value v) w
 | .loadA b o n => ∀ w (l : List Value), l.length = n → (∀ j v, l[j]? = some v → w.cell? ⟨b, o + j, none⟩ = some v) → s.run P w = .ok (.value (.agg ⟨l⟩)) w
 | .store b o vs => ∀ w, (∀ j, j < vs.length → (w.cell? ⟨b, o + j, none⟩).isSome = true) → (∀ j, j < vs.length → w.frozen? ⟨b, o + j, none⟩ = false) → (∀ v ∈ vs, cellV v = true) → s.run P w = .ok .skip (w.setCells b o vs)
 | .enter f args => ∀ w, s.run P w = .ok (.enter f args.toArray) w
 | .newP E cs => ∀ w, s.run P w = .ok (.value (.pointer (some ⟨w.heap.size, 0, none⟩))) (w.alloc (.cells cs.toArray E))
 | .newS E cs n => ∀ w, s.run P w = .ok (.value (.slice (some ⟨w.heap.size, 0, none⟩) n n)) (w.alloc (.cells cs.toArray E))
def AggIs (P : Program) (ty : TypeId) : Option Nat → Prop
 | none => runQ P (isAgg ty) = some false ∧ cellsN P ty = some 1
 | some n => runQ P (isAgg ty) = some true ∧ cellsN P ty = some n
def aggD : TypeDesc → Bool
 | .struct _ => true
 | .array _ _ => true
 | _ => false
theorem isAgg_runQ {P : Program} {ty : TypeId} {d : TypeDesc} (h : P.underlying ty = some d) : runQ P (isAgg ty) = some (aggD d) := by
 have h1 : runQ P (isAgg ty) = runQ P ((match P.underlying ty with | some d => Sem.pure d | none => stuck "no such type" : Sem TypeDesc).bind fun d => match d with | .struct _ | .array _ _ => Sem.pure true | _ => Sem.pure false) := rfl
 rw [h1, h]
 cases d <;> rfl
theorem aggN_is {P : Program} {ty : TypeId} {r : Option Nat} (h : aggN P ty = some r) : AggIs P ty r := by
 unfold aggN at h
 rw [undL_eq, cellsP_eq] at h
 split at h
 ·rename_i hu hn
  cases h; exact ⟨isAgg_runQ hu, hn⟩
 ·rename_i hu hn
  cases h; exact ⟨isAgg_runQ hu, hn⟩
 ·rename_i d h1 h2 hu hn
  cases h
  refine ⟨(isAgg_runQ hu).trans ?_, hn⟩
  cases d <;> first | rfl | exact absurd rfl (h1 _) | exact absurd rfl (h2 _ _) | (exact (h1 _ rfl).elim) | (exact (h2 _ _ rfl).elim)
 cases h
def PlanIs (P : Program) (o : Oper) : Pn → Prop
 | .slow => True
 | .mov x => o.op = .move x ∨ o.op = .assign x
 | .bin op x y => ∃ ty yt, o.op = .binOp op ty x y yt
 | .notB x => ∃ ty, o.op = .unOp .not ty x
 | .loadC x => ∃ ty, o.op = .load ty x ∧ AggIs P ty none
 | .loadA n x => ∃ ty, o.op = .load ty x ∧ AggIs P ty (some n)
 | .storeC x v => ∃ ty, o.op = .store ty x v ∧ AggIs P ty none
 | .storeA n x v => ∃ ty, o.op = .store ty x v ∧ AggIs P ty (some n)
 | .part1 off x => ∃ ty f fd, o.op = .field ty x f ∧ fieldOf P ty f = some fd ∧ fd.offset = off ∧ AggIs P fd.type none
 | .partA off n x => ∃ ty f fd, o.op = .field ty x f ∧ fieldOf P ty f = some fd ∧ fd.offset = off ∧ AggIs P fd.type (some n)
 | .faddr off x => ∃ ty f fd m, o.op = .fieldAddr ty x f ∧ fieldOf P ty f = some fd ∧ fd.offset = off ∧ cellsP P fd.type = some (m + 1)
 | .iaddr sz x i => ∃ ty, o.op = .indexAddr ty x i ∧ rowOf P ty = some sz
 | .extr i x => o.op = .extract x i
 | .call f args => ∃ c, o.op = .call c ∧ c.callee = .value (.func f) ∧ mayEnter P f = true ∧ c.args.toList = args
 | .len x => ∃ c ty, o.op = .call c ∧ c.callee = .builtin .len ∧ c.args.toList = [x] ∧ c.argTypes.toList = [ty] ∧ isSlice P ty = true
 | .box E x => o.op = .box E x
 | .fresh _ _ => False
 | .build z ps => ∃ ty parts f, o.op = .build ty parts ∧ buildOf P ty = some (f, z) ∧ partsOf f z.length parts.toList = some ps
 | .row E n z ps => ∃ ty parts sz, o.op = .buildSlice ty n parts ∧ rowE P ty n = some (E, sz, z) ∧ partsOf (fun i => some (i * sz, sz)) z.length parts.toList = some ps
theorem plan_is (P : Program) (o : Oper) : PlanIs P o (planOp P o) := by
 unfold planOp
 split
 ·exact .inl (by assumption)
 ·exact .inr (by assumption)
 ·exact ⟨_, _, by assumption⟩
 ·exact ⟨_, by assumption⟩
 ·split
  ·exact ⟨_, by assumption, aggN_is (by assumption)⟩
  ·exact ⟨_, by assumption, aggN_is (by assumption)⟩
  trivial
 ·split
  ·exact ⟨_, by assumption, aggN_is (by assumption)⟩
  ·exact ⟨_, by assumption, aggN_is (by assumption)⟩
  trivial
 ·split
  ·split
   ·exact ⟨_, _, _, by assumption, by assumption, rfl, aggN_is (by assumption)⟩
   ·exact ⟨_, _, _, by assumption, by assumption, rfl, aggN_is (by assumption)⟩
   trivial
  trivial
 ·split
  ·split
   ·exact ⟨_, _, _, _, by assumption, by assumption, rfl, by assumption⟩
   trivial
  trivial
 ·split
  ·exact ⟨_, by assumption, by assumption⟩
  trivial
 ·assumption
 ·assumption
 ·split
  ·split
   ·exact ⟨_, _, _, by assumption, by assumption, by assumption⟩
   trivial
  trivial
 ·split
  ·split
   ·exact ⟨_, _, _, by assumption, by assumption, by assumption⟩
   trivial
  trivial
 ·rename_i c hop
  split
  ·rename_i f hc
   cases hm : mayEnter P f with
   | true => exact ⟨c, hop, hc, hm, rfl⟩
   | false => trivial
  ·rename_i hc
   split
   ·rename_i x ty h1 h2
    cases hm : isSlice P ty with
    | true => exact ⟨c, ty, hop, hc, h1, h2, hm⟩
    | false => trivial
   trivial
  trivial
 trivial
theorem onVal_ok {P : Program} {s : Sem Next} {x : Option Value} {k : Value → Pl} (h : ∀ v, x = some v → PlOk P s (k v)) : PlOk P s (onVal x k) := by
 cases x with
 | none => trivial
 | some v => exact h v rfl
theorem onInt_ok {P : Program} {s : Sem Next} {x : Option Value} {k : IntKind → Int → Pl} (h : ∀ kk n, x = some (.int kk n) → PlOk P s (k kk n)) : PlOk P s (onInt x k) := by
 unfold onInt
 split
 ·exact h _ _ rfl
 trivial
theorem onBool_ok {P : Program} {s : Sem Next} {x : Option Value} {k : Bool → Pl} (h : ∀ b, x = some (.bool b) → PlOk P s (k b)) : PlOk P s (onBool x k) := by
 unfold onBool
 split
 ·exact h _ rfl
 trivial
theorem onAddr_ok {P : Program} {s : Sem Next} {x : Option Value} {k : Nat → Nat → Pl} (h : ∀ b o, x = some (.pointer (some ⟨b, o, none⟩)) → PlOk P s (k b o)) : PlOk P s (onAddr x k) := by
 unfold onAddr
 split
 ·exact h _ _ rfl
 trivial
theorem onSlice_ok {P : Program} {s : Sem Next} {x : Option Value} {k : Nat → Nat → Nat → Pl} (h : ∀ b o n c, x = some (.slice (some ⟨b, o, none⟩) n c) → PlOk P s (k b o n)) : PlOk P s (onSlice x k) := by
 unfold onSlice
 split
 ·exact h _ _ _ _ rfl
 trivial
theorem onAgg_ok {P : Program} {s : Sem Next} {x : Option Value} {k : List Value → Pl} (h : ∀ l : List Value, x = some (.agg ⟨l⟩) → PlOk P s (k l)) : PlOk P s (onAgg x k) := by
 unfold onAgg
 split
 ·exact h _ rfl
 trivial
theorem nthL_ok {P : Program} {s : Sem Next} {l : List Value} {n : Nat} (h : ∀ v, l[n]? = some v → PlOk P s (.val v)) : PlOk P s (nthL l n) := by
 rcases nthL_or l n with e | ⟨v, e⟩
 ·rw [e]; trivial
 rw [e]; exact h v (nthL_val e)
theorem inRow_ok {P : Program} {s : Sem Next} {i : Int} {n : Nat} {k : Nat → Pl} (h : ∀ m : Nat, i = m → m < n → PlOk P s (k m)) : PlOk P s (inRow i n k) := by
 cases i with
 | negSucc m => trivial
 | ofNat m =>
  show PlOk P s (@Bool.rec (fun _ => Pl) .slow (k m) (Nat.ble (Nat.succ m) n))
  cases hb : Nat.ble (Nat.succ m) n with
  | false => trivial
  | true => exact h m rfl (Nat.le_of_ble_eq_true hb)
theorem agg_run {P : Program} {ty : TypeId} {r : Option Nat} (h : AggIs P ty r) (w : World) : (isAgg ty).run P w = .ok r.isSome w ∧ (sizeOf ty).run P w = .ok (r.getD 1) w := by
 have key : ∀ n, cellsN P ty = some n → (sizeOf ty).run P w = .ok n w := fun n hn => by
  obtain ⟨i, hi, hsz⟩ := Option.map_eq_some_iff.1 hn
  simp [sizeOf, typeInfo, program, hi, hsz, Sem.run, Result.andThen]
 cases r with
 | none => exact ⟨runQ_run h.1 w, key _ h.2⟩
 | some n => exact ⟨runQ_run h.1 w, key _ h.2⟩
theorem cells_one {v : Value} (h : cellV v = true) : v.cells = #[v] := by cases v <;> first | rfl | (cases h)
theorem oneCell_eq (v : Value) : v.oneCell' = cellV v := by cases v <;> rfl
theorem store_ok {P : Program} {ty : TypeId} {n b o : Nat} {v : Value} {vs : List Value} (hz : ∀ w, (sizeOf ty).run P w = .ok n w) (hv : v.cells.toList = vs) (hn : vs.length = n) (w : World) (hc : ∀ j, j < vs.length → (w.cell? ⟨b, o + j, none⟩).isSome = true) (hf : ∀ j, j < vs.length → w.frozen? ⟨b, o + j, none⟩ = false) (h1 : ∀ v ∈ vs, cellV v = true) :
  (Instr.storeAt ty (.pointer (some ⟨b, o, none⟩)) v).run P w = .ok () (w.setCells b o vs) := by
 have h2 := run_storeCells_cells (P := P) b o vs 0 w (by simpa using hc) (by simpa using hf) (fun v hv => by rw [oneCell_eq]; exact h1 v hv)
 have h3 : v.cells.size = n := by rw [← hn, ← hv]; simp
 simp only [Nat.add_zero] at h2
 simp [Instr.storeAt, Instr.sureAddr, storeVar, hz w, h3, hv, h2, Result.andThen]
theorem intBin_ok {P : Program} {op : BinOp} {k : IntKind} {a b : Int} {ty : TypeId} {x y : Operand} :
  PlOk P (do let v ← (do eqGuard op ty x y (.int k a) (.int k b); binOp op ty (.int k a) (.int k b)); pure (.value v)) (fInt op k a b) := by
 cases op <;> first
  | trivial
  | (intro w; simp [eqGuard, binOp, Op.intArith, Op.intCmp, wrapF_eq, addI_eq, subI_eq, mulI_eq]; done)
  | (intro w; simp [eqGuard, binOp, Op.intCmp, eqI_eq, leI_eq, notB_eq]; try (first | rfl | (rw [Bool.eq_iff_iff]; simp; try omega)))
theorem pl_ok {P : Program} {ρ : Operand → Value} {t : Tr} (hr : ∀ x v, t.ev? x = some v → ρ x = v) (o : Oper) : PlOk P (execOp ρ o) (plOf t (planOp P o)) := by
 have hp := plan_is P o
 cases hpl : planOp P o with
 | slow => trivial
 | mov x =>
  rw [hpl] at hp
  refine onVal_ok fun v hv => ?_
  intro w
  unfold execOp
  rcases hp with e | e <;> rw [e] <;> simp [hr _ _ hv]
 | bin op x y =>
  rw [hpl] at hp
  obtain ⟨ty, yt, hop⟩ := hp
  refine onInt_ok fun k m hx => onInt_ok fun k' m' hy => ?_
  show PlOk P _ (@Bool.rec (fun _ => Pl) .slow (fInt op k m m') (Nat.beq (kno k) (kno k')))
  cases hb : Nat.beq (kno k) (kno k') with
  | false => trivial
  | true =>
   obtain rfl := kno_inj hb
   have := intBin_ok (P := P) (op := op) (k := k) (a := m) (b := m') (ty := ty) (x := x) (y := y)
   unfold execOp
   rw [hop]
   simp only [hr _ _ hx, hr _ _ hy]
   exact this
 | notB x =>
  rw [hpl] at hp
  obtain ⟨ty, hop⟩ := hp
  refine onBool_ok fun b hb => ?_
  intro w
  unfold execOp
  rw [hop]
  simp [hr _ _ hb, Op.unary, notB_eq]
 | loadC x =>
  rw [hpl] at hp
  obtain ⟨ty, hop, hag⟩ := hp
  refine onAddr_ok fun b o' hx => ?_
  intro w v hc
  unfold execOp
  rw [hop]
  simp only [hr _ _ hx]
  exact load1_run hag.1 hc
 | loadA k x =>
  rw [hpl] at hp
  obtain ⟨ty, hop, hag⟩ := hp
  refine onAddr_ok fun b o' hx => ?_
  intro w l hl hc
  unfold execOp
  rw [hop]
  simp only [hr _ _ hx]
  exact loadN_run hag.1 hag.2 hl fun j v hj => by rw [add_addr]; exact hc j v hj
 | storeC x v =>
  rw [hpl] at hp
  obtain ⟨ty, hop, hag⟩ := hp
  refine onAddr_ok fun b o' hx => onVal_ok fun u hu => ?_
  intro w h1 h2 h3
  have hone := h3 u (by simp)
  have := store_ok (P := P) (ty := ty) (n := 1) (b := b) (o := o') (v := u) (vs := [u]) (fun w => (agg_run hag w).2) (by rw [cells_one hone]) rfl w h1 h2 h3
  unfold execOp
  rw [hop]
  simp [hr _ _ hx, hr _ _ hu, this, Result.andThen]
 | storeA k x v =>
  rw [hpl] at hp
  obtain ⟨ty, hop, hag⟩ := hp
  refine onAddr_ok fun b o' hx => onAgg_ok fun l hl => ?_
  show PlOk P _ (@Bool.rec (fun _ => Pl) .slow (.store b o' l) (Nat.beq (lenL l) k))
  cases hb : Nat.beq (lenL l) k with
  | false => trivial
  | true =>
   have hlen := Nat.eq_of_beq_eq_true hb
   rw [lenL_eq] at hlen
   intro w h1 h2 h3
   have := store_ok (P := P) (ty := ty) (n := k) (b := b) (o := o') (v := .agg ⟨l⟩) (vs := l) (fun w => (agg_run hag w).2) rfl hlen w h1 h2 h3
   unfold execOp
   rw [hop]
   simp [hr _ _ hx, hr _ _ hl, this, Result.andThen]
 | part1 off x =>
  rw [hpl] at hp
  obtain ⟨ty, f, fd, hop, hfd, rfl, hag⟩ := hp
  refine onAgg_ok fun l hl => nthL_ok fun v hv => ?_
  intro w
  unfold fieldOf at hfd
  rw [undL_eq] at hfd
  split at hfd
  ·rename_i fs hu
   have h1 := (agg_run hag w).1
   unfold execOp
   rw [hop]
   simp [hr _ _ hl, Instr.field, run_underlying hu, hfd, asAgg, part, h1, hv, Result.andThen]
  cases hfd
 | partA off m x =>
  rw [hpl] at hp
  obtain ⟨ty, f, fd, hop, hfd, rfl, hag⟩ := hp
  refine onAgg_ok fun l hl => ?_
  intro w
  unfold fieldOf at hfd
  rw [undL_eq] at hfd
  split at hfd
  ·rename_i fs hu
   obtain ⟨h1, h2⟩ := agg_run hag w
   unfold execOp
   rw [hop]
   simp [hr _ _ hl, Instr.field, run_underlying hu, hfd, asAgg, part, h1, h2, takeL_eq, dropL_eq, Result.andThen]
  cases hfd
 | faddr off x =>
  rw [hpl] at hp
  obtain ⟨ty, f, fd, m, hop, hfd, rfl, hsz⟩ := hp
  rw [cellsP_eq] at hsz
  refine onAddr_ok fun b o' hx => ?_
  intro w
  unfold fieldOf at hfd
  rw [undL_eq] at hfd
  split at hfd
  ·rename_i fs hu
   obtain ⟨i, hi, hs⟩ := Option.map_eq_some_iff.1 hsz
   have hz : (sizeOf fd.type).run P w = .ok (m + 1) w := by simp [sizeOf, typeInfo, program, hi, hs, Sem.run, Result.andThen]
   unfold execOp
   rw [hop]
   simp [hr _ _ hx, Instr.fieldAt, run_underlying hu, hfd, Instr.sureAddr, fieldPlace, hz, add_addr, Result.andThen]
  cases hfd
 | iaddr sz x i =>
  rw [hpl] at hp
  obtain ⟨ty, hop, hrow⟩ := hp
  refine onSlice_ok fun b o' n' c hx => onInt_ok fun kk m hi => inRow_ok fun j hj hlt => ?_
  intro w
  subst hj
  unfold rowOf at hrow
  rw [undL_eq] at hrow
  simp only [cellsP_eq] at hrow
  split at hrow
  ·rename_i E hu
   have := idx_run (P := P) (T := ty) (E := E) (b := b) (o := o') (n := n') (c := c) (k := j) (sz := sz) (kk := kk) w hu hrow hlt
   unfold execOp
   rw [hop]
   simp only [hr _ _ hx, hr _ _ hi]
   exact this
  cases hrow
 | extr i x =>
  rw [hpl] at hp
  show PlOk P _ (match t.ev? x with
   | some (.tuple ⟨l⟩) => nthL l i
   | _ => .slow)
  split
  ·rename_i l hl
   refine nthL_ok fun v hv => ?_
   intro w
   unfold execOp
   rw [show o.op = .extract x i from hp]
   simp [hr _ _ hl, Instr.extract, hv]
  trivial
 | call f args =>
  rw [hpl] at hp
  obtain ⟨c, hop, hc, hm, ha⟩ := hp
  show PlOk P _ (match evAll t args with
   | some vs => .enter f vs
   | none => .slow)
  split
  ·rename_i vs hvs
   intro w
   have h1 := evAll_ev hr (evAll_some hvs)
   have h2 : c.args.map ρ = vs.toArray := by
    apply Array.ext'
    rw [Array.toList_map, ha, h1]
   unfold mayEnter at hm
   rw [nthG_eq, Array.getElem?_toList] at hm
   split at hm
   ·rename_i fn hfn
    simp only [Bool.and_eq_true, Bool.not_eq_true'] at hm
    obtain ⟨hm1, hm2⟩ := hm
    have hb : fn.body.isNone = false := by
     cases hbb : fn.body with
     | none => rw [hbb] at hm1; cases hm1
     | some _ => rfl
    have hm3 : ¬ fn.name = "runtime.NumGoroutine" := by simpa using hm2
    have hb2 : ¬ fn.body = none := fun e => by rw [e] at hb; cases hb
    unfold execOp
    rw [hop]
    simp [resolve, hc, h2, hr (.func f) _ rfl, Deferred.ofValue, invoke, callFunc, program, Sem.run, hfn, hm3, hb2, Result.andThen]
   cases hm
  trivial
 | len x =>
  rw [hpl] at hp
  obtain ⟨c, ty, hop, hc, ha, hat, hsl⟩ := hp
  show PlOk P _ (match t.ev? x with
   | some (.slice _ n _) => .val (.int .i64 (Int.ofNat n))
   | _ => .slow)
  split
  ·rename_i b n' cp hx
   intro w
   unfold isSlice at hsl
   rw [undL_eq] at hsl
   split at hsl
   ·rename_i e hu
    obtain ⟨c1, c2, c3⟩ := c
    simp only at hc ha hat
    have e2 : c2 = #[x] := by rw [← ha]
    have e3 : c3 = #[ty] := by rw [← hat]
    subst hc e2 e3
    unfold execOp
    rw [hop]
    simp [resolve, hr _ _ hx, invoke, builtin, Builtin.len_, run_underlying hu, goInt, Result.andThen]
   cases hsl
  trivial
 | box E x =>
  rw [hpl] at hp
  refine onVal_ok fun v hv => ?_
  intro w
  unfold execOp
  rw [show o.op = .box E x from hp]
  simp [hr _ _ hv, Instr.box, newVar, newRow, Result.andThen, ← cells_eq]
 | fresh E cs => rw [hpl] at hp; exact hp.elim
 | build z ps =>
  rw [hpl] at hp
  obtain ⟨ty, parts, f, hop, hb, hps⟩ := hp
  show PlOk P _ (match fillL t ps z with
   | some cs => .val (.agg ⟨cs⟩)
   | none => .slow)
  split
  ·rename_i cs hcs
   intro w
   have h1 := (fill_ok hr hps rfl hcs).1
   have h2 : P.built ty (parts.map fun p => (p.1, ρ p.2)).toList = some cs.toArray := by
    rw [Array.toList_map]
    unfold buildOf at hb
    simp only [undL_eq, infoL_eq] at hb
    unfold Program.built
    split at hb
    ·rename_i it n' e hi hu
     split at hb
     ·rename_i zz ie hz hie
      simp only [Option.some.injEq, Prod.mk.injEq] at hb
      obtain ⟨rfl, rfl⟩ := hb
      simp only [hi, hu, hz, hie]
      simpa using h1
     cases hb
    ·rename_i it fields hi hu
     split at hb
     ·rename_i zz places hz hpp
      simp only [Option.some.injEq, Prod.mk.injEq] at hb
      obtain ⟨rfl, rfl⟩ := hb
      rw [hi, hu]
      dsimp only
      rw [hz, hpp]
      simpa using h1
     cases hb
    cases hb
   have h3 := run_build (P := P) w ty _ _ h2
   unfold execOp
   rw [hop]
   simp [h3, Result.andThen]
  trivial
 | row E m z ps =>
  rw [hpl] at hp
  obtain ⟨ty, parts, sz, hop, hb, hps⟩ := hp
  show PlOk P _ (match fillL t ps z with
   | some cs => .newS E cs m
   | none => .slow)
  split
  ·rename_i cs hcs
   intro w
   have h1 := (fill_ok hr hps rfl hcs).1
   unfold rowE at hb
   simp only [undL_eq, infoL_eq] at hb
   split at hb
   ·rename_i e hu
    split at hb
    ·rename_i ie hie
     split at hb
     ·rename_i zz hz
      cases hbb : (Nat.ble (m * ie.size) 16777216 && Nat.ble 1 (m * ie.size)) with
      | false => rw [hbb] at hb; cases hb
      | true =>
       rw [hbb] at hb
       simp only [cond_true, Option.some.injEq, Prod.mk.injEq] at hb
       obtain ⟨rfl, rfl, rfl⟩ := hb
       simp only [Bool.and_eq_true] at hbb
       have g1 := Nat.le_of_ble_eq_true hbb.1
       have g2 := Nat.le_of_ble_eq_true hbb.2
       have h2 := run_buildSlice (P := P) w ty e m (parts.map fun p => (p.1, ρ p.2)) cs.toArray ie zz hu hie hz (by omega) (by omega) (by
        rw [Array.toList_map]
        have : ((Array.range (m * ie.size)).map (zz.cells[· % zz.cells.size]!)) = ((List.range (m * ie.size)).map fun j => zz.cells[j % zz.cells.size]!).toArray := by
         apply Array.ext'
         simp
        rw [this]
        exact h1)
       unfold execOp
       rw [hop]
       simp [h2, Result.andThen]
     cases hb
    cases hb
   cases hb
  trivial
theorem pl_noSel {P : Program} {t : Tr} {o : Oper} (h : plOf t (planOp P o) ≠ .slow) : noSel o.op = true := by
 have hp := plan_is P o
 cases hpl : planOp P o <;> rw [hpl] at hp h
 case slow => exact absurd rfl h
 case mov => rcases hp with e | e <;> rw [e] <;> rfl
 case bin => obtain ⟨_, _, e⟩ := hp; rw [e]; rfl
 case notB => obtain ⟨_, e⟩ := hp; rw [e]; rfl
 case loadC => obtain ⟨_, e, _⟩ := hp; rw [e]; rfl
 case loadA => obtain ⟨_, e, _⟩ := hp; rw [e]; rfl
 case storeC => obtain ⟨_, e, _⟩ := hp; rw [e]; rfl
 case storeA => obtain ⟨_, e, _⟩ := hp; rw [e]; rfl
 case part1 => obtain ⟨_, _, _, e, _⟩ := hp; rw [e]; rfl
 case partA => obtain ⟨_, _, _, e, _⟩ := hp; rw [e]; rfl
 case faddr => obtain ⟨_, _, _, _, e, _⟩ := hp; rw [e]; rfl
 case iaddr => obtain ⟨_, e, _⟩ := hp; rw [e]; rfl
 case extr => rw [show o.op = _ from hp]; rfl
 case call => obtain ⟨_, e, _⟩ := hp; rw [e]; rfl
 case len => obtain ⟨_, _, e, _⟩ := hp; rw [e]; rfl
 case box => rw [show o.op = _ from hp]; rfl
 case fresh => exact hp.elim
 case build => obtain ⟨_, _, _, e, _⟩ := hp; rw [e]; rfl
 case row => obtain ⟨_, _, _, e, _⟩ := hp; rw [e]; rfl
theorem onVal_some {x : Option Value} {k : Value → Pl} (h : onVal x k ≠ .slow) : x.isSome = true := by
 cases x with
 | none => exact absurd rfl h
 | some v => rfl
theorem onInt_some {x : Option Value} {k : IntKind → Int → Pl} (h : onInt x k ≠ .slow) : x.isSome = true ∧ ∃ a b, k a b ≠ .slow := by
 unfold onInt at h
 split at h
 ·exact ⟨rfl, _, _, h⟩
 exact absurd rfl h
theorem onBool_some {x : Option Value} {k : Bool → Pl} (h : onBool x k ≠ .slow) : x.isSome = true := by
 unfold onBool at h
 split at h
 ·rfl
 exact absurd rfl h
theorem onAddr_some {x : Option Value} {k : Nat → Nat → Pl} (h : onAddr x k ≠ .slow) : x.isSome = true ∧ ∃ a b, k a b ≠ .slow := by
 unfold onAddr at h
 split at h
 ·exact ⟨rfl, _, _, h⟩
 exact absurd rfl h
theorem onSlice_some {x : Option Value} {k : Nat → Nat → Nat → Pl} (h : onSlice x k ≠ .slow) : x.isSome = true ∧ ∃ a b c, k a b c ≠ .slow := by
 unfold onSlice at h
 split at h
 ·exact ⟨rfl, _, _, _, h⟩
 exact absurd rfl h
theorem onAgg_some {x : Option Value} {k : List Value → Pl} (h : onAgg x k ≠ .slow) : x.isSome = true ∧ ∃ l, k l ≠ .slow := by
 unfold onAgg at h
 split at h
 ·exact ⟨rfl, _, h⟩
 exact absurd rfl h
theorem fillL_known {t : Tr} {f : Nat → Option (Nat × Nat)} {m : Nat} : ∀ {parts : List (Nat × Operand)} {ps : List (Nat × Nat × Operand)} {z cs : List Value}, partsOf f m parts = some ps → fillL t ps z = some cs → ∀ p ∈ parts, (t.ev? p.2).isSome = true
 | [], ps, z, cs, h1, h2 => fun p hp => by cases hp
 | (i, x) :: parts, ps, z, cs, h1, h2 => by
  unfold partsOf at h1
  split at h1
  ·rename_i off sz r hf hr1
   cases hb : Nat.ble (off + sz) m with
   | false => rw [hb] at h1; cases h1
   | true =>
    rw [hb] at h1
    simp only [cond_true, Option.some.injEq] at h1
    subst h1
    have h3 : (match t.ev? x with
     | some v => @Bool.rec (fun _ => Option (List Value)) none (fillL t r (laid off (cellsL v) z)) (Nat.beq (lenL (cellsL v)) sz)
     | none => none) = some cs := h2
    split at h3
    ·rename_i v hv
     cases hc : Nat.beq (lenL (cellsL v)) sz with
     | false => rw [hc] at h3; cases h3
     | true =>
      rw [hc] at h3
      intro p hp
      rcases List.mem_cons.1 hp with rfl | hp
      ·simp [hv]
      exact fillL_known hr1 (show fillL t r (laid off (cellsL v) z) = some cs from h3) p hp
    cases h3
  cases h1
theorem pl_known {P : Program} {t : Tr} {o : Oper} (h : plOf t (planOp P o) ≠ .slow) : ∀ x ∈ o.op.operands.toList, (t.ev? x).isSome = true := by
 have hp := plan_is P o
 cases hpl : planOp P o <;> rw [hpl] at hp h
 case slow => exact absurd rfl h
 case mov x => rcases hp with e | e <;> rw [e] <;> simpa [Op.operands] using onVal_some h
 case bin op x y =>
  obtain ⟨_, _, e⟩ := hp
  rw [e]
  obtain ⟨h1, _, _, h2⟩ := onInt_some h
  simpa [Op.operands, h1] using (onInt_some h2).1
 case notB x => obtain ⟨_, e⟩ := hp; rw [e]; simpa [Op.operands] using onBool_some h
 case loadC x => obtain ⟨_, e, _⟩ := hp; rw [e]; simpa [Op.operands] using (onAddr_some h).1
 case loadA x => obtain ⟨_, e, _⟩ := hp; rw [e]; simpa [Op.operands] using (onAddr_some h).1
 case storeC x v =>
  obtain ⟨_, e, _⟩ := hp
  rw [e]
  obtain ⟨h1, _, _, h2⟩ := onAddr_some h
  simpa [Op.operands, h1] using onVal_some h2
 case storeA n x v =>
  obtain ⟨_, e, _⟩ := hp
  rw [e]
  obtain ⟨h1, _, _, h2⟩ := onAddr_some h
  simpa [Op.operands, h1] using (onAgg_some h2).1
 case part1 => obtain ⟨_, _, _, e, _⟩ := hp; rw [e]; simpa [Op.operands] using (onAgg_some h).1
 case partA => obtain ⟨_, _, _, e, _⟩ := hp; rw [e]; simpa [Op.operands] using (onAgg_some h).1
 case faddr => obtain ⟨_, _, _, _, e, _⟩ := hp; rw [e]; simpa [Op.operands] using (onAddr_some h).1
 case iaddr sz x i =>
  obtain ⟨_, e, _⟩ := hp
  rw [e]
  obtain ⟨h1, _, _, _, h2⟩ := onSlice_some h
  simpa [Op.operands, h1] using (onInt_some h2).1
 case extr i x =>
  rw [show o.op = .extract x i from hp]
  cases hx : t.ev? x with
  | none => exact absurd (show (match t.ev? x with
   | some (.tuple ⟨l⟩) => nthL l i
   | _ => .slow) = Pl.slow by rw [hx]) h
  | some v => simp [Op.operands, hx]
 case call f args =>
  obtain ⟨c, e, hc, _, ha⟩ := hp
  rw [e]
  cases hv : evAll t args with
  | none => exact absurd (show (match evAll t args with
   | some vs => .enter f vs
   | none => .slow) = Pl.slow by rw [hv]) h
  | some vs =>
   have h1 := evAll_some hv
   intro x hx
   simp only [Op.operands, Call.operands, hc, Array.toList_append, List.mem_append] at hx
   rcases hx with hx | hx
   ·simp at hx; subst hx; rfl
   rw [ha] at hx
   have h2 : t.ev? x ∈ vs.map some := h1 ▸ List.mem_map_of_mem hx
   obtain ⟨v, _, hv⟩ := List.mem_map.1 h2
   rw [← hv]; rfl
 case len x =>
  obtain ⟨c, ty, e, hc, ha, _⟩ := hp
  rw [e]
  cases hx : t.ev? x with
  | none => exact absurd (show (match t.ev? x with
   | some (.slice _ n _) => .val (.int .i64 (Int.ofNat n))
   | _ => .slow) = Pl.slow by rw [hx]) h
  | some v =>
   intro y hy
   simp only [Op.operands, Call.operands, hc, Array.toList_append, List.mem_append, ha] at hy
   simp at hy
   subst hy
   rw [hx]; rfl
 case box E x => rw [show o.op = .box E x from hp]; simpa [Op.operands] using onVal_some h
 case fresh => exact hp.elim
 case build z ps =>
  obtain ⟨ty, parts, f, e, _, hps⟩ := hp
  rw [e]
  cases hx : fillL t ps z with
  | none => exact absurd (show (match fillL t ps z with
   | some cs => .val (.agg ⟨cs⟩)
   | none => .slow) = Pl.slow by rw [hx]) h
  | some cs =>
   intro y hy
   simp only [Op.operands, List.mem_map] at hy
   obtain ⟨p, h1, rfl⟩ := hy
   exact fillL_known hps hx p h1
 case row E n z ps =>
  obtain ⟨ty, parts, sz, e, _, hps⟩ := hp
  rw [e]
  cases hx : fillL t ps z with
  | none => exact absurd (show (match fillL t ps z with
   | some cs => .newS E cs n
   | none => .slow) = Pl.slow by rw [hx]) h
  | some cs =>
   intro y hy
   simp only [Op.operands, List.mem_map] at hy
   obtain ⟨p, h1, rfl⟩ := hy
   exact fillL_known hps hx p h1
theorem pl_sem {P : Program} {t : Tr} {o : Oper} (h : plOf t (planOp P o) ≠ .slow) : opSem t o = some (execOp t.ev o) := by
 unfold opSem
 rw [pl_noSel h, show (o.op.operands.toList.all fun x => (t.ev? x).isSome) = true from List.all_eq_true.2 (pl_known h)]
 rfl
theorem pl_ev {P : Program} {t : Tr} (o : Oper) : PlOk P (execOp t.ev o) (plOf t (planOp P o)) := pl_ok (fun x v hv => by simp [Tr.ev, hv]) o
/-! ### over what is known -/
def MK.setMany (l : List Value) : MK → Nat → Option MK := @List.rec Value (fun _ => MK → Nat → Option MK) (fun k _ => some k) (fun v _ ih k off => match cellV v, k.setCell off v with
 | true, some k' => ih k' (Nat.succ off)
 | _, _ => none) l
structure Many (b : Nat) (w : World) (off : Nat) (vs : List Value) (k' : MK) : Prop where
 there : ∀ j, j < vs.length → (w.cell? ⟨b, off + j, none⟩).isSome = true
 free : ∀ j, j < vs.length → w.frozen? ⟨b, off + j, none⟩ = false
 one : ∀ v ∈ vs, cellV v = true
 ok : ∃ o', (w.setCells b off vs).heap[b]? = some o' ∧ k'.ok o'
 os : (w.setCells b off vs).os = w.os
 tape : (w.setCells b off vs).tape = w.tape
 output : (w.setCells b off vs).output = w.output
 size : (w.setCells b off vs).heap.size = w.heap.size
 other : ∀ q, q ≠ b → (w.setCells b off vs).heap[q]? = w.heap[q]?
theorem many_ok {b : Nat} : ∀ {vs : List Value} {k k' : MK} {off : Nat} {w : World} {o : Obj}, w.heap[b]? = some o → k.ok o → MK.setMany vs k off = some k' → Many b w off vs k'
 | [], k, k', off, w, o, ho, hk, h => by
  have h' : some k = some k' := h
  cases h'
  exact ⟨fun j hj => (by simp at hj), fun j hj => (by simp at hj), fun v hv => (by cases hv), ⟨o, ho, hk⟩, rfl, rfl, rfl, rfl, fun _ _ => rfl⟩
 | v :: vs, k, k', off, w, o, ho, hk, h => by
  have h' : (match cellV v, k.setCell off v with
   | true, some k' => MK.setMany vs k' (Nat.succ off)
   | _, _ => none) = some k' := h
  split at h'
  ·rename_i k1 hcv hst
   obtain ⟨⟨u, hu⟩, o1, ho1, hk1⟩ := MK.set_ok ho hk hst
   have ih := many_ok (b := b) ho1 hk1 h'
   have hc := MK.cell_ok ho hk hu
   have hfz := MK.frozen_ok ho hk hu
   refine ⟨fun j hj => ?_, fun j hj => ?_, fun x hx => ?_, ih.ok, ih.os, ih.tape, ih.output, ih.size.trans (by simp [World.setCell]), fun q hq => (ih.other q hq).trans ?_⟩
   ·cases j with
    | zero => rw [Nat.add_zero, hc]; rfl
    | succ j =>
     have := ih.there j (by simp at hj; omega)
     rw [World.cell?_setCell_other _ _ _ _ (by simp)] at this
     rwa [show off + (j + 1) = Nat.succ off + j by omega]
   ·cases j with
    | zero => rw [Nat.add_zero]; exact hfz
    | succ j =>
     have := ih.free j (by simp at hj; omega)
     rw [World.frozen?_setCell] at this
     rwa [show off + (j + 1) = Nat.succ off + j by omega]
   ·rcases List.mem_cons.1 hx with rfl | hx
    ·exact hcv
    exact ih.one x hx
   simp only [World.setCell, Array.getElem?_modify]
   rw [if_neg (fun e' => hq e'.symm)]
  cases h'
def fLoadC (fd : Bool) (b o : Nat) : M Value := (loc fd b).bind fun x => match x.2.k.cell? o with
 | some v => M.ret v
 | none => M.fail
def fLoadA (fd : Bool) (b o n : Nat) : M Value := (loc fd b).bind fun x => match x.2.k.at o n with
 | some l => M.ret (.agg ⟨l⟩)
 | none => M.fail
def fStore (fd : Bool) (b o : Nat) (vs : List Value) : M Value := (loc fd b).bind fun x => match x.2.own, MK.setMany vs x.2.k o with
 | true, some k' => (putE x.1 ⟨true, x.2.b, k'⟩).bind fun _ => M.ret undef
 | _, _ => M.fail
def fNewP (E : TypeId) (cs : List Value) : M Value := fresh.bind fun b => (pushE ⟨true, b, .cells (L.ofList cs) E⟩).bind fun _ => M.ret (.pointer (some ⟨b, 0, none⟩))
def fNewS (E : TypeId) (cs : List Value) (n : Nat) : M Value := fresh.bind fun b => (pushE ⟨true, b, .cells (L.ofList cs) E⟩).bind fun _ => M.ret (.slice (some ⟨b, 0, none⟩) n n)
theorem good_fLoadC (b o : Nat) : Good (fLoadC false b o) := by
 unfold fLoadC
 refine .bind (.locB _) fun x => ?_
 split
 ·exact .ret _
 exact .fail
theorem good_fLoadA (b o n : Nat) : Good (fLoadA false b o n) := by
 unfold fLoadA
 refine .bind (.locB _) fun x => ?_
 split
 ·exact .ret _
 exact .fail
theorem good_fStore (b o : Nat) (vs : List Value) : Good (fStore false b o vs) := by
 unfold fStore
 refine .bind (.locB _) fun x => ?_
 split
 ·exact .bind (.putE _ _) fun _ => .ret _
 exact .fail
theorem good_fNewP (E : TypeId) (cs : List Value) : Good (fNewP E cs) := .bind .fresh fun _b => .bind (.pushE _) fun _ => .ret _
theorem good_fNewS (E : TypeId) (cs : List Value) (n : Nat) : Good (fNewS E cs n) := .bind .fresh fun _b => .bind (.pushE _) fun _ => .ret _
section
variable {β : Type} {f : Value → M β} {pre : Nat → Nat} {m : Mem} {K : (Nat → Nat) → β → Mem → Prop} {w0 : Bse} {w : World}
theorem fLoadC_run {b o : Nat} (hf : ∀ a, Good (f a)) (h : Ends ((fLoadC false b o).bind f) pre m K) :
  ∃ v m', (∀ w, SatR w0 m.hp w → w.cell? ⟨b, o, none⟩ = some v) ∧ m'.hp = m.hp ∧ m'.n = m.n ∧ Ends (f v) pre m' K := by
 unfold fLoadC at h
 rw [M.bind_assoc] at h
 obtain ⟨j, e, m1, h1, h2, h3, h4, h5⟩ := h.loc fun x => .bind (by
  split
  ·exact .ret _
  exact .fail) hf
 dsimp only at h5
 split at h5
 ·rename_i v hv
  subst h2
  refine ⟨v, m1, fun w hw => ?_, h3, h4, h5⟩
  obtain ⟨o', ho, hk⟩ := hw.holds j e h1
  exact MK.cell_ok ho hk hv
 exact (h5.bind .fail hf).fail.elim
theorem fLoadA_run {b o n : Nat} (hf : ∀ a, Good (f a)) (h : Ends ((fLoadA false b o n).bind f) pre m K) :
  ∃ l m', l.length = n ∧ (∀ w, SatR w0 m.hp w → ∀ j v, l[j]? = some v → w.cell? ⟨b, o + j, none⟩ = some v) ∧ m'.hp = m.hp ∧ m'.n = m.n ∧ Ends (f (.agg ⟨l⟩)) pre m' K := by
 unfold fLoadA at h
 rw [M.bind_assoc] at h
 obtain ⟨j, e, m1, h1, h2, h3, h4, h5⟩ := h.loc fun x => .bind (by
  split
  ·exact .ret _
  exact .fail) hf
 dsimp only at h5
 split at h5
 ·rename_i l hl
  obtain ⟨q1, q2⟩ := MK.at_some hl
  subst h2
  refine ⟨l, m1, q1, fun w hw i v hv => ?_, h3, h4, h5⟩
  obtain ⟨o', ho, hk⟩ := hw.holds j e h1
  exact MK.cell_ok ho hk (q2 i v hv)
 exact (h5.bind .fail hf).fail.elim
theorem fStore_run {b o : Nat} {vs : List Value} (hw : SatR w0 m.hp w) (hf : ∀ a, Good (f a)) (h : Ends ((fStore false b o vs).bind f) pre m K) :
  ∃ k' m', Many b w o vs k' ∧ SatR w0 m'.hp (w.setCells b o vs) ∧ Ends (f undef) pre m' K := by
 unfold fStore at h
 rw [M.bind_assoc] at h
 obtain ⟨j, e, m1, h1, h2, h3, h4, h5⟩ := h.loc fun x => .bind (by
  split
  ·exact .bind (.putE _ _) fun _ => .ret _
  exact .fail) hf
 obtain ⟨o', ho, hk⟩ := hw.holds j e h1
 dsimp only at h5
 split at h5
 ·rename_i k' hown hs
  subst h2
  have hM := many_ok ho hk hs
  rw [M.bind_assoc] at h5
  have h6 := h5.putE
  obtain ⟨o1, ho1, hk1⟩ := hM.ok
  refine ⟨k', _, hM, ?_, h6⟩
  dsimp only
  rw [h3]
  exact hw.upd h1 hown k' hM.os hM.tape hM.output hM.size ho1 hk1 hM.other
 exact (h5.bind .fail hf).fail.elim
theorem fNew_run {E : TypeId} {cs : List Value} {g : Nat → Value} (hw : SatR w0 m.hp w) (h : Ends ((fresh.bind fun b => (pushE ⟨true, b, .cells (L.ofList cs) E⟩).bind fun _ => M.ret (g b)).bind f) pre m K) :
  ∃ pre' m', SatR w0 m'.hp (w.alloc (.cells cs.toArray E)) ∧ Ends (f (g w.heap.size)) pre' m' K := by
 rw [M.bind_assoc] at h
 have h1 := h.fresh w.heap.size
 rw [M.bind_assoc] at h1
 exact ⟨_, _, hw.new m.n (.cells (L.ofList cs) E) (by simp [MK.ok]), h1.pushE⟩
end
end Run
end
end Go.Proofs.Ytcncfmjfgdbfeab
