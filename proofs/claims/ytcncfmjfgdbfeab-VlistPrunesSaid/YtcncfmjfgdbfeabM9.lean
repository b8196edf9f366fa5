/- NodO Fast5 Fast6. -/
import Derived.Test.YtcncfmjfgdbfeabNodN
import Derived.Test.YtcncfmjfgdbfeabFast4
import Derived.Laws.AppendOwn
namespace Go.Proofs.Ytcncfmjfgdbfeab
open Go.RowKit
theorem empty_iff (t : ByteArray) : (t.toList == (ByteArray.mk #[]).toList) = true ↔ t = ByteArray.mk #[] := by
 constructor
 ·intro h
  rcases Decidable.em (t = ByteArray.mk #[]) with h1 | h1
  ·exact h1
  rw [ba_ne h1] at h; cases h
 rintro rfl; exact ba_eq _
theorem m1 (n : Nod) : rGlyph1 n = charB (kn 1 n) := by
 obtain ⟨k0, font, char, wd, ht, dp, shift, nat, str, shr, so, sho, sign, ord, num, den, pen, sub, text⟩ := n
 rw [Bool.eq_iff_iff]
 simp only [rGlyph1, charB, glyphB, onlyB, bareN, kn, noText, Nod.mk.injEq, Bool.and_eq_true, Bool.not_eq_true', decide_eq_true_eq, decide_eq_false_iff_not, empty_iff, true_and, and_true]
 constructor
 ·intro h; simp_all <;> omega
 intro h; simp_all <;> omega
theorem m2 (n : Nod) : rGlyph2 n = ligB (kn 2 n) := by
 obtain ⟨k0, font, char, wd, ht, dp, shift, nat, str, shr, so, sho, sign, ord, num, den, pen, sub, text⟩ := n
 rw [Bool.eq_iff_iff]
 simp only [rGlyph2, ligB, glyphB, onlyB, bareN, kn, Nod.mk.injEq, Bool.and_eq_true, Bool.not_eq_true', decide_eq_true_eq, decide_eq_false_iff_not, true_and, and_true]
 constructor
 ·intro h; simp_all <;> omega
 intro h; simp_all <;> omega
theorem m7 (n : Nod) : rSkip n = skipB (kn 7 n) := by
 obtain ⟨k0, font, char, wd, ht, dp, shift, nat, str, shr, so, sho, sign, ord, num, den, pen, sub, text⟩ := n
 have e : (errG (glueB nat str shr so sho) == 0) = glueB nat str shr so sho := by cases glueB nat str shr so sho <;> rfl
 rw [Bool.eq_iff_iff]
 simp only [rSkip, skipB, gluedB, onlyB, kn, e, Nod.mk.injEq, Bool.and_eq_true, decide_eq_true_eq, true_and]
theorem m8 (n : Nod) : rKern n = kernB (kn 8 n) := by
 obtain ⟨k0, font, char, wd, ht, dp, shift, nat, str, shr, so, sho, sign, ord, num, den, pen, sub, text⟩ := n
 rw [Bool.eq_iff_iff]
 simp only [rKern, kernB, onlyB, kn, Nod.mk.injEq, Bool.and_eq_true, decide_eq_true_eq, true_and]
theorem m9 (n : Nod) : rPen n = penB (kn 9 n) := by
 obtain ⟨k0, font, char, wd, ht, dp, shift, nat, str, shr, so, sho, sign, ord, num, den, pen, sub, text⟩ := n
 rw [Bool.eq_iff_iff]
 simp only [rPen, penB, pricedB, onlyB, kn, Nod.mk.injEq, Bool.and_eq_true, decide_eq_true_eq, true_and]
theorem mMsg (k : Int) (n : Nod) : rMsg k n = msgB (kn k n) := by
 obtain ⟨k0, font, char, wd, ht, dp, shift, nat, str, shr, so, sho, sign, ord, num, den, pen, sub, text⟩ := n
 rw [Bool.eq_iff_iff]
 simp only [rMsg, msgB, onlyB, kn, Nod.mk.injEq, Bool.and_eq_true, decide_eq_true_eq, true_and, and_true]
theorem mMath (k : Int) (n : Nod) : rMath k n = mathB (kn k n) := by
 obtain ⟨k0, font, char, wd, ht, dp, shift, nat, str, shr, so, sho, sign, ord, num, den, pen, sub, text⟩ := n
 rw [Bool.eq_iff_iff]
 simp only [rMath, mathB, onlyB, kn, Nod.mk.injEq, Bool.and_eq_true, decide_eq_true_eq, true_and]
theorem mBare (k : Int) (n : Nod) : rBare k n = bareB (kn k n) := by
 obtain ⟨k0, font, char, wd, ht, dp, shift, nat, str, shr, so, sho, sign, ord, num, den, pen, sub, text⟩ := n
 rw [Bool.eq_iff_iff]
 simp only [rBare, bareB, zeroN, onlyB, kn, Nod.mk.injEq, decide_eq_true_eq, true_and]
theorem m13 (n : Nod) : rIns n = insB (kn 13 n) := by
 obtain ⟨k0, font, char, wd, ht, dp, shift, nat, str, shr, so, sho, sign, ord, num, den, pen, sub, text⟩ := n
 have e : (errG (glueB nat str shr so sho) == 0) = glueB nat str shr so sho := by cases glueB nat str shr so sho <;> rfl
 rw [Bool.eq_iff_iff]
 simp only [rIns, insB, d2B, pricedB, gluedB, onlyB, kn, e, Nod.mk.injEq, Bool.and_eq_true, decide_eq_true_eq, true_and]
 constructor
 ·intro h; simp_all
 intro h; simp_all
theorem m3 (n : Nod) : rRule n = ruleB (kn 3 n) := by
 obtain ⟨k0, font, char, wd, ht, dp, shift, nat, str, shr, so, sho, sign, ord, num, den, pen, sub, text⟩ := n
 by_cases h : 0 ≤ sub ∧ sub ≤ 3
 ·obtain rfl | rfl | rfl | rfl : sub = 0 ∨ sub = 1 ∨ sub = 2 ∨ sub = 3 := by omega
  all_goals
   rw [Bool.eq_iff_iff]
   simp only [rRule, ruleB, kn]
   generalize d3B wd ht dp = D
   simp [ownN, onlyB, bareN, Nod.mk.injEq]
  all_goals first
   | done
   | (constructor <;> intro h <;> simp_all; done)
 have e1 : rRule ⟨k0, font, char, wd, ht, dp, shift, nat, str, shr, so, sho, sign, ord, num, den, pen, sub, text⟩ = false := by
  rw [← Bool.not_eq_true]
  simp only [rRule, Bool.and_eq_true, Bool.not_eq_true', decide_eq_false_iff_not]
  omega
 have e2 : ruleB (kn 3 ⟨k0, font, char, wd, ht, dp, shift, nat, str, shr, so, sho, sign, ord, num, den, pen, sub, text⟩) = false := by
  rw [← Bool.not_eq_true]
  simp only [ruleB, kn, Bool.and_eq_true, decide_eq_true_eq]
  omega
 rw [e1, e2]
theorem m4 (k : Int) (n : Nod) : rBox k n = boxB (kn k n) := by
 obtain ⟨k0, font, char, wd, ht, dp, shift, nat, str, shr, so, sho, sign, ord, num, den, pen, sub, text⟩ := n
 have e4 : d4B wd ht dp shift = (d3B wd ht dp && dimB shift) := rfl
 by_cases h0 : sign = 0
 ·subst h0
  rw [Bool.eq_iff_iff]
  simp [rBox, boxB, setB, onlyB, bareN, kn, e4, Nod.mk.injEq]
  constructor <;> intro h <;> simp_all
 by_cases h1 : sign = 1
 ·subst h1
  rw [Bool.eq_iff_iff]
  simp [rBox, boxB, setB, onlyB, bareN, kn, e4, Nod.mk.injEq]
  constructor <;> intro h <;> simp_all <;> omega
 by_cases h2 : sign = 2
 ·subst h2
  rw [Bool.eq_iff_iff]
  simp [rBox, boxB, setB, onlyB, bareN, kn, e4, Nod.mk.injEq]
  constructor <;> intro h <;> simp_all <;> omega
 rw [Bool.eq_iff_iff]
 simp [rBox, boxB, setB, kn, h0, h1, h2]
theorem goodk (n : Nod) (w : World) (k : Int) (r : Bool) (hr : r = rightB (kn k n)) (hk : n.kind = k) (h : Calls Try.prog 70 #[nodV (kn k n)] w fun e w' => e = .returned (.bool r) ∧ Kept w w') :
  Calls Try.prog 70 #[nodV n] w fun e w' => e = .returned (.bool (rightB n)) ∧ Kept w w' := by
 have e : kn k n = n := by
  obtain ⟨k0, font, char, wd, ht, dp, shift, nat, str, shr, so, sho, sign, ord, num, den, pen, sub, text⟩ := n
  simp only at hk
  rw [hk]
 rw [e] at hr h
 rw [← hr]
 exact h
theorem good_any (n : Nod) (w : World) :
  Calls Try.prog 70 #[nodV n] w fun e w' => e = .returned (.bool (rightB n)) ∧ Kept w w' := by
 by_cases hk : n.kind < 1 ∨ 17 < n.kind
 ·rw [rightB_no n hk]; exact good_no n w hk
 by_cases h1 : n.kind = 1
 ·exact goodk n w 1 _ ((m1 n).trans rfl) h1 (good1 n w)
 by_cases h2 : n.kind = 2
 ·exact goodk n w 2 _ ((m2 n).trans rfl) h2 (good2 n w)
 by_cases h3 : n.kind = 3
 ·exact goodk n w 3 _ ((m3 n).trans rfl) h3 (good3 n w)
 by_cases h4 : n.kind = 4
 ·exact goodk n w 4 _ ((m4 4 n).trans rfl) h4 (good4 n w)
 by_cases h5 : n.kind = 5
 ·exact goodk n w 5 _ ((m4 5 n).trans rfl) h5 (good5 n w)
 by_cases h6 : n.kind = 6
 ·exact goodk n w 6 _ ((mBare 6 n).trans rfl) h6 (good6 n w)
 by_cases h7 : n.kind = 7
 ·exact goodk n w 7 _ ((m7 n).trans rfl) h7 (good7 n w)
 by_cases h8 : n.kind = 8
 ·exact goodk n w 8 _ ((m8 n).trans rfl) h8 (good8 n w)
 by_cases h9 : n.kind = 9
 ·exact goodk n w 9 _ ((m9 n).trans rfl) h9 (good9 n w)
 by_cases h10 : n.kind = 10
 ·exact goodk n w 10 _ ((mBare 10 n).trans rfl) h10 (good10 n w)
 by_cases h11 : n.kind = 11
 ·exact goodk n w 11 _ ((mBare 11 n).trans rfl) h11 (good11 n w)
 by_cases h12 : n.kind = 12
 ·exact goodk n w 12 _ ((mMsg 12 n).trans rfl) h12 (good12 n w)
 by_cases h13 : n.kind = 13
 ·exact goodk n w 13 _ ((m13 n).trans rfl) h13 (good13 n w)
 by_cases h14 : n.kind = 14
 ·exact goodk n w 14 _ ((mMsg 14 n).trans rfl) h14 (good14 n w)
 by_cases h15 : n.kind = 15
 ·exact goodk n w 15 _ ((mMath 15 n).trans rfl) h15 (good15 n w)
 by_cases h16 : n.kind = 16
 ·exact goodk n w 16 _ ((mMath 16 n).trans rfl) h16 (good16 n w)
 by_cases h17 : n.kind = 17
 ·exact goodk n w 17 _ ((mBare 17 n).trans rfl) h17 (good17 n w)
 omega
end Go.Proofs.Ytcncfmjfgdbfeab
namespace Go.Proofs.Ytcncfmjfgdbfeab
open Go.RowKit
noncomputable section
section
variable {P : Program}
def idxSem (T : TypeId) (x i : Value) : Sem Next := do
 let v ← Instr.indexAt T x i
 pure (.value v)
theorem idx_run {T E : TypeId} {b o n c k sz : Nat} {kk : IntKind} (w : World) (hT : P.underlying T = some (.slice E)) (hs : cellsN P E = some sz) (hk : k < n) :
  (idxSem T (.slice (some ⟨b, o, none⟩) n c) (.int kk k)).run P w = .ok (.value (.pointer (some ⟨b, o + k * sz, none⟩))) w := by
 have hu : (underlying T).run P w = .ok (.slice E) w := by simp [underlying, program, hT, Sem.run, Result.andThen]
 obtain ⟨i, hi, hsz⟩ := Option.map_eq_some_iff.1 hs
 have hz : (sizeOf E).run P w = .ok sz w := by simp [sizeOf, typeInfo, program, hi, hsz, Sem.run, Result.andThen]
 have h0 : (0 : Int) ≤ k ∧ (k : Int) < n := by omega
 have ha : Addr.add ⟨b, o, none⟩ (k * sz) = ⟨b, o + k * sz, none⟩ := by
  unfold Addr.add
  by_cases e : k * sz = 0
  ·rw [if_pos e, e, Nat.add_zero]
  rw [if_neg e]
 simp [idxSem, Instr.indexAt, asIntOf, hu, hz, h0, hk, ha, Result.andThen]
def loadSem (T : TypeId) (p : Value) : Sem Next := do
 let v ← Instr.loadAt T p
 pure (.value v)
theorem load1_run {T : TypeId} {a : Addr} {v : Value} {w : World} (hT : runQ P (isAgg T) = some false) (hc : w.cell? a = some v) : (loadSem T (.pointer (some a))).run P w = .ok (.value v) w := by
 have h1 := runQ_run hT w
 simp [loadSem, Instr.loadAt, Instr.sureAddr, loadVar, h1, load, Sem.run, Result.andThen, hc]
theorem loadCells_run {a : Addr} {w : World} : ∀ (vs : List Value) (i : Nat) (acc : Array Value), (∀ j v, vs[j]? = some v → w.cell? (a.add (i + j)) = some v) →
  (loadCellsFrom a i vs.length acc).run P w = .ok (acc ++ vs.toArray) w
 | [], i, acc, _ => by simp [loadCellsFrom]
 | v :: vs, i, acc, h => by
  have h0 := h 0 v rfl
  rw [Nat.add_zero] at h0
  have ih := loadCells_run (a := a) (w := w) vs (i + 1) (acc.push v) (fun j u hu => by
   have := h (j + 1) u (by simpa using hu)
   rwa [show i + (j + 1) = i + 1 + j by omega] at this)
  simp only [List.length_cons, loadCellsFrom, load, Sem.run_bind, Sem.run, h0, Result.andThen, ih]
  simp
theorem loadN_run {T : TypeId} {a : Addr} {vs : List Value} {n : Nat} {w : World} (hT : runQ P (isAgg T) = some true) (hn : cellsN P T = some n) (hl : vs.length = n) (hc : ∀ j v, vs[j]? = some v → w.cell? (a.add j) = some v) :
  (loadSem T (.pointer (some a))).run P w = .ok (.value (.agg vs.toArray)) w := by
 have h1 := runQ_run hT w
 obtain ⟨i, hi, hsz⟩ := Option.map_eq_some_iff.1 hn
 have hz : (sizeOf T).run P w = .ok n w := by simp [sizeOf, typeInfo, program, hi, hsz, Sem.run, Result.andThen]
 have h2 := loadCells_run (P := P) (a := a) (w := w) vs 0 #[] (fun j v hv => by rw [Nat.zero_add]; exact hc j v hv)
 rw [hl] at h2
 simp [loadSem, Instr.loadAt, Instr.sureAddr, loadVar, loadCells, h1, hz, h2, Result.andThen]
theorem Sat.rowcell {w0 w : World} {bs : List Nat} {hp : List HE} {i b off sz n k j : Nat} {f : Nat → List Value} {v : Value} (h : Sat w0 bs hp w) (hi : hp[i]? = some (.row b off sz n f)) (hk : k < n) (hj : (f k)[j]? = some v) :
  w.cell? ⟨b, off + k * sz + j, none⟩ = some v :=
 ((h.holds _ (List.mem_of_getElem? hi)) (Nat.lt_of_le_of_lt (Nat.zero_le _) hk)).2 k hk j v hj
theorem add_addr (b o j : Nat) : Addr.add ⟨b, o, none⟩ j = ⟨b, o + j, none⟩ := by
 unfold Addr.add
 by_cases e : j = 0
 ·rw [if_pos e, e, Nat.add_zero]
 rw [if_neg e]
theorem Sat.rowload {T : TypeId} {w0 w : World} {bs : List Nat} {hp : List HE} {i b off sz n k : Nat} {f : Nat → List Value} (h : Sat w0 bs hp w) (hi : hp[i]? = some (.row b off sz n f)) (hk : k < n)
  (hT : runQ P (isAgg T) = some true) (hn : cellsN P T = some sz) (hl : (f k).length = sz) : (loadSem T (.pointer (some ⟨b, off + k * sz, none⟩))).run P w = .ok (.value (.agg (f k).toArray)) w :=
 loadN_run hT hn hl (fun j v hv => by rw [add_addr]; exact h.rowcell hi hk hv)
theorem Sat.rowload1 {T : TypeId} {w0 w : World} {bs : List Nat} {hp : List HE} {i b off sz n k j : Nat} {f : Nat → List Value} {v : Value} (h : Sat w0 bs hp w) (hi : hp[i]? = some (.row b off sz n f)) (hk : k < n)
  (hT : runQ P (isAgg T) = some false) (hj : (f k)[j]? = some v) : (loadSem T (.pointer (some ⟨b, off + k * sz + j, none⟩))).run P w = .ok (.value v) w :=
 load1_run hT (h.rowcell hi hk hj)
theorem Sat.objload1 {T T' : TypeId} {w0 w : World} {bs : List Nat} {hp : List HE} {i b k : Nat} {own : Bool} {cs : List Value} {v : Value} (h : Sat w0 bs hp w) (hi : hp[i]? = some (.obj own b cs T')) (hv : cs[k]? = some v)
  (hT : runQ P (isAgg T) = some false) : (loadSem T (.pointer (some ⟨b, k, none⟩))).run P w = .ok (.value v) w :=
 load1_run hT (cell_obj (h.obj hi) hv)
end
section
variable {F : Fence} {mm : Nat} {P : Program} {fin : Fin} {w0 : World} {bs : List Nat} {st : St}
def storeOf (st : St) : Option (TypeId × Value × Value) :=
 match st.l with
 | [] => none
 | o :: _ => match wanted? st.ops st.t o with
  | some true => bif (o.op.operands.toList.all fun x => (st.t.ev? x).isSome) then (match o.op with
   | .store T a x => some (T, st.t.ev a, st.t.ev x)
   | _ => none) else none
  | _ => none
theorem g_store1 (i : Nat) (T T' : TypeId) (b k : Nat) (cs : List Value) (v : Value) (h : storeOf st = some (T, .pointer (some ⟨b, k, none⟩), v)) (hi : st.hp[i]? = some (.obj true b cs T')) (hk : k < cs.length) (hv : cellV v = true) (hT : cellsN P T = some 1)
  (g : Goal F mm P fin w0 bs (retSt st undef (st.hp.set i (.obj true b (cs.set k v) T')))) : Goal F mm P fin w0 bs st := by
 refine ⟨fun hF a w hr hw => ?_⟩
 have hg := g.out hF
 obtain ⟨n, ds, ops, l, kk, t, hp⟩ := st
 unfold storeOf at h
 unfold retSt at hg
 simp only at h hr hw hi hg ⊢
 cases l with
 | nil => cases h
 | cons o rest =>
  simp only at h
  split at h
  ·rename_i hwn
   cases hall : (o.op.operands.toList.all fun x => (t.ev? x).isSome) with
   | false => rw [hall] at h; cases h
   | true =>
    rw [hall, cond_true] at h
    split at h
    ·rename_i T2 x y hop
     simp only [Option.some.injEq, Prod.mk.injEq] at h
     obtain ⟨rfl, hx, hy⟩ := h
     have hsem : opSem t o = some (execOp t.ev o) := by
      unfold opSem
      rw [hall]
      simp [noSel, hop]
     have hc : w.cell? ⟨b, k, none⟩ = some (cs[k]'hk) := cell_obj (hw.obj hi) (by simp [hk])
     have hf : w.frozen? ⟨b, k, none⟩ = false := by simp [World.frozen?, hw.obj hi]
     have hst := hw.store (off := k) hi v
     obtain ⟨ti, hti, hsz⟩ := Option.map_eq_some_iff.1 hT
     have hz : (sizeOf T2).run P w = .ok 1 w := by simp [sizeOf, typeInfo, program, hti, hsz, Sem.run, Result.andThen]
     have hcells : v.cells = #[v] := by cases v <;> first | rfl | (simp [cellV] at hv; done)
     have ha : Addr.add ⟨b, k, none⟩ 0 = ⟨b, k, none⟩ := rfl
     have hrun : (execOp t.ev o).run P w = .ok .skip (w.setCell ⟨b, k, none⟩ v) := by
      unfold execOp
      simp only [hop, hx, hy]
      have hst1 : (storeCells ⟨b, k, none⟩ [v] 0).run P w = .ok () (w.setCell ⟨b, k, none⟩ v) := by
       cases v <;> first | (simp [cellV] at hv; done) | simp [storeCells, store, ha, Sem.run, hc, hf]
      simp [Instr.storeAt, Instr.sureAddr, storeVar, hcells, hz, hst1, Result.andThen]
     unfold wpListIn
     rw [hr.wanted hwn, if_pos rfl]
     refine ⟨fun f _ => hF.fn f, ?_⟩
     rw [Oper.semAt_eq _ _ _ (noDefer (opSem_noSel hsem)), hr.opSem hsem, hrun]
     exact hg _ _ (hr.put _ _) hst
    cases h
  cases h
end
attribute [irreducible] storeOf
end
end Go.Proofs.Ytcncfmjfgdbfeab
namespace Go.Proofs.Ytcncfmjfgdbfeab
open Go.RowKit
noncomputable section
theorem Sat.setObj {w0 w w' : World} {bs : List Nat} {hp : List HE} {i b : Nat} {cs cs' : List Value} {T : TypeId} (h : Sat w0 bs hp w) (hi : hp[i]? = some (.obj true b cs T))
  (h1 : w'.os = w.os) (h2 : w'.tape = w.tape) (h3 : w'.output = w.output) (hsz : w'.heap.size = w.heap.size) (hb : w'.heap[b]? = some (.cells cs'.toArray T (0, 0))) (hne : ∀ k, k ≠ b → w'.heap[k]? = w.heap[k]?) :
  Sat w0 bs (hp.set i (.obj true b cs' T)) w' := by
 have hown := (h.holds _ (List.mem_of_getElem? hi)).2 rfl
 refine ⟨⟨h1.trans h.kept.os, h2.trans h.kept.tape, h3.trans h.kept.output, by rw [hsz]; exact h.kept.size, fun k hk hn => ?_⟩, fun e he => ?_, fun j l e e' hjl hj hl hoe hle => ?_⟩
 ·rw [hne k (fun e => by
   subst e
   rcases hown with h1 | h1
   ·omega
   exact hn h1)]
  exact h.kept.block k hk hn
 ·obtain ⟨j, hj⟩ := List.mem_iff_getElem?.1 he
  rw [List.getElem?_set] at hj
  by_cases e1 : i = j
  ·rw [if_pos e1] at hj
   by_cases h2 : i < hp.length
   ·rw [if_pos h2] at hj
    obtain rfl := Option.some.inj hj
    exact ⟨hb, fun _ => hown⟩
   rw [if_neg h2] at hj; cases hj
  rw [if_neg e1] at hj
  exact HE.holds_of_block (h.holds e (List.mem_of_getElem? hj)) (by rw [hsz]; exact Nat.le_refl _) (fun hlv => hne _ (fun e2 => h.apart i j _ e e1 hi hj rfl hlv e2.symm))
 rw [List.getElem?_set] at hj hl
 by_cases e1 : i = j <;> by_cases e2 : i = l
 ·omega
 ·rw [if_pos e1] at hj; rw [if_neg e2] at hl
  by_cases h2 : i < hp.length
  ·rw [if_pos h2] at hj
   obtain rfl := Option.some.inj hj
   have := h.apart i l (.obj true b cs T) e' e2 hi hl rfl hle
   exact this
  rw [if_neg h2] at hj; cases hj
 ·rw [if_neg e1] at hj; rw [if_pos e2] at hl
  by_cases h2 : i < hp.length
  ·rw [if_pos h2] at hl
   obtain rfl := Option.some.inj hl
   have := h.apart j i e (.obj true b cs T) (fun e => e1 e.symm) hj hi hoe trivial
   exact this
  rw [if_neg h2] at hl; cases hl
 rw [if_neg e1] at hj; rw [if_neg e2] at hl
 exact h.apart j l e e' hjl hj hl hoe hle
theorem Sat.swap {w0 w : World} {bs : List Nat} {hp : List HE} (h : Sat w0 bs hp w) (i : Nat) (cs : List Value) (T : TypeId) : Sat w0 bs (hp.set i (.obj true w.heap.size cs T)) (w.drew.alloc (.cells cs.toArray T (0, 0))) := by
 have h0 : Sat w0 bs hp w.drew := h.draw _
 have h' := h0.alloc cs T
 have hw : ({ w.drew with heap := w.drew.heap.push (.cells cs.toArray T (0, 0)) } : World) = w.drew.alloc (.cells cs.toArray T (0, 0)) := rfl
 rw [hw] at h'
 have hs : w.drew.heap.size = w.heap.size := rfl
 rw [hs] at h'
 have hnew : (hp ++ [HE.obj true w.heap.size cs T])[hp.length]? = some (.obj true w.heap.size cs T) := by simp
 have pick : ∀ j e, (hp.set i (.obj true w.heap.size cs T))[j]? = some e → (j ≠ i ∧ (hp ++ [HE.obj true w.heap.size cs T])[j]? = some e ∧ j < hp.length) ∨ (j = i ∧ e = .obj true w.heap.size cs T) := fun j e hj => by
  have hlt : j < hp.length := by
   rcases Nat.lt_or_ge j hp.length with h1 | h1
   ·exact h1
   rw [List.getElem?_eq_none (by simpa using h1)] at hj; cases hj
  rw [List.getElem?_set] at hj
  by_cases e1 : i = j
  ·rw [if_pos e1, if_pos (by omega)] at hj
   exact .inr ⟨e1.symm, (Option.some.inj hj).symm⟩
  rw [if_neg e1] at hj
  exact .inl ⟨fun e2 => e1 e2.symm, by rw [List.getElem?_append_left hlt]; exact hj, hlt⟩
 refine ⟨h'.kept, fun e he => ?_, fun j l e e' hjl hj hl hoe hle => ?_⟩
 ·obtain ⟨j, hj⟩ := List.mem_iff_getElem?.1 he
  rcases pick j e hj with ⟨_, h1, _⟩ | ⟨_, rfl⟩
  ·exact h'.holds e (List.mem_of_getElem? h1)
  exact h'.holds _ (List.mem_of_getElem? hnew)
 rcases pick j e hj with ⟨_, h1, j1⟩ | ⟨j1, rfl⟩ <;> rcases pick l e' hl with ⟨_, h2, l1⟩ | ⟨l1, rfl⟩
 ·exact h'.apart j l e e' hjl h1 h2 hoe hle
 ·exact h'.apart j hp.length e _ (by omega) h1 hnew hoe hle
 ·exact h'.apart hp.length l _ e' (by omega) hnew h2 hoe hle
 omega
def RowAt (hp : List HE) (i : Nat) (base : Option Addr) (len cap sz : Nat) (cs : List Value) (E : TypeId) : Prop :=
 i < hp.length ∧ ((base = none ∧ len = 0 ∧ cap = 0) ∨ (∃ b, base = some ⟨b, 0, none⟩ ∧ hp[i]? = some (.obj true b cs E) ∧ cs.length = cap * sz ∧ len ≤ cap))
section
variable {F : Fence} {mm : Nat} {P : Program} {fin : Fin} {w0 : World} {bs : List Nat} {st : St}
def appendOf (st : St) : Option (TypeId × TypeId × Value × Value) :=
 match st.l with
 | [] => none
 | o :: _ => match wanted? st.ops st.t o with
  | some true => bif (o.op.operands.toList.all fun x => (st.t.ev? x).isSome) then (match o.op with
   | .call cc => (match cc.callee, cc.args.toList, cc.argTypes.toList with
    | .builtin .append, [s, x], [t, u] => some (t, u, st.t.ev s, st.t.ev x)
    | _, _, _ => none)
   | _ => none) else none
  | _ => none
theorem g_append (i j : Nat) (t E E' : TypeId) (base : Option Addr) (len cap sz m c bx by_ : Nat) (cs news : List Value) (o' : Bool) (h : appendOf st = some (t, t, .slice base len cap, .slice (some ⟨bx, 0, none⟩) m c))
  (ht : P.underlying t = some (.slice E)) (hsz : cellsN P E = some sz) (hz : ∃ ti z, P.info? E = some ti ∧ ti.zero = some z ∧ ti.size = sz ∧ ti.bytes = by_ ∧ z.cells.size = sz)
  (hr0 : RowAt st.hp i base len cap sz cs E) (hj : st.hp[j]? = some (.obj o' bx news E')) (hnl : news.length = m * sz) (hn1 : ∀ u ∈ news, u.oneCell' = true) (hm : 0 < m)
  (hbig : len + m ≤ 9223372036854775807) (hbytes : (len + m) * by_ ≤ 140737488355328)
  (g : ∀ b' cap' cs', w0.heap.size ≤ b' ∨ b' ∈ bs → len + m ≤ cap' → cs'.length = cap' * sz → cs'.take ((len + m) * sz) = cs.take (len * sz) ++ news →
   Goal F mm P fin w0 bs (retSt st (.slice (some ⟨b', 0, none⟩) (len + m) cap') (st.hp.set i (.obj true b' cs' E)))) : Goal F mm P fin w0 bs st := by
 refine ⟨fun hF a w hr hw => ?_⟩
 obtain ⟨n, ds, ops, l, kk, tt, hp⟩ := st
 unfold appendOf at h
 unfold retSt at g
 simp only at h hr hw hr0 hj g ⊢
 obtain ⟨ti, z, hti, hzero, hsize, hby, hzs⟩ := hz
 subst hsize
 subst hby
 cases l with
 | nil => cases h
 | cons o rest =>
  simp only at h
  split at h
  ·rename_i hwn
   cases hall : (o.op.operands.toList.all fun x => (tt.ev? x).isSome) with
   | false => rw [hall] at h; cases h
   | true =>
    rw [hall, cond_true] at h
    split at h
    ·rename_i cc hop0
     split at h
     case h_2 => cases h
     rename_i s x t1 u1 hcc ha1 ha2
     simp only [Option.some.injEq, Prod.mk.injEq] at h
     obtain ⟨h1, h2, hs, hx⟩ := h
     replace h1 := h1.symm
     replace h2 := h2.symm
     subst h1
     subst h2
     have hop : o.op = .call { callee := .builtin .append, args := #[s, x], argTypes := #[t, t] } := by
      rw [hop0]
      obtain ⟨c1, c2, c3⟩ := cc
      simp only at hcc ha1 ha2
      have e2 : c2 = #[s, x] := by rw [← ha1]
      have e3 : c3 = #[t, t] := by rw [← ha2]
      rw [hcc, e2, e3]
     have hsem : opSem tt o = some (execOp tt.ev o) := by
      unfold opSem
      rw [hall]
      simp [noSel, hop]
     have hexec : execOp tt.ev o = (do let v ← Builtin.append_ #[t, t] o.type #[.slice base len cap, .slice (some ⟨bx, 0, none⟩) m c]; pure (.value v)) := by
      unfold execOp
      simp [hop, resolve, invoke, builtin, hs, hx]
     have hnews : ∀ k v, news[k]? = some v → w.cell? (Addr.add ⟨bx, 0, none⟩ k) = some v := fun k v hv => by
      rw [add_addr, Nat.zero_add]; exact cell_obj (hw.obj hj) hv
     have fin1 : ∀ (v : Value) (w' : World), (Builtin.append_ #[t, t] o.type #[.slice base len cap, .slice (some ⟨bx, 0, none⟩) m c]).run P w = .ok v w' →
       (∃ b' cap' cs', v = .slice (some ⟨b', 0, none⟩) (len + m) cap' ∧ (w0.heap.size ≤ b' ∨ b' ∈ bs) ∧ len + m ≤ cap' ∧ cs'.length = cap' * ti.size ∧ cs'.take ((len + m) * ti.size) = cs.take (len * ti.size) ++ news ∧ Sat w0 bs (hp.set i (.obj true b' cs' E)) w') →
       wpListIn F mm P ops (den F mm P fin kk) (o :: rest) a w := fun v w' hrun ⟨b', cap', cs', hv, h1, h2, h3, h4, h5⟩ => by
      subst hv
      have hg := (g b' cap' cs' h1 h2 h3 h4).out hF
      unfold wpListIn
      rw [hr.wanted hwn, if_pos rfl]
      refine ⟨fun f _ => hF.fn f, ?_⟩
      rw [Oper.semAt_eq _ _ _ (noDefer (opSem_noSel hsem)), hr.opSem hsem, hexec]
      have : (do let v ← Builtin.append_ #[t, t] o.type #[.slice base len cap, .slice (some ⟨bx, 0, none⟩) m c]; pure (.value v) : Sem Next).run P w = .ok (.value (.slice (some ⟨b', 0, none⟩) (len + m) cap')) w' := by
       simp [hrun, Result.andThen]
      rw [this]
      exact hg _ _ (hr.put _ _) h5
     obtain ⟨hil, hrow⟩ := hr0
     have hzc : ∀ k, (Builtin.zeroCells z.cells k).size = k * ti.size := fun k => by simp [Builtin.zeroCells, hzs]
     rcases hrow with ⟨rfl, rfl, rfl⟩ | ⟨b, rfl, hb, hlen, hle⟩
     ·-- out of nothing
      have hrun := run_append_nil (P := P) (w := w) t o.type E ti z ht hti hzero ⟨bx, 0, none⟩ m c news hnl hnews hm (by omega) (by rw [Nat.zero_add] at hbytes; omega)
      have hge := grownCap_ge w m 0 E
      refine fin1 _ _ hrun ⟨w.heap.size, grownCap w m 0 E, news ++ (Builtin.zeroCells z.cells (grownCap w m 0 E - m)).toList, by simp, .inl hw.kept.size, by omega, ?_, ?_, ?_⟩
      ·simp only [List.length_append, hnl, Array.length_toList, hzc]
       rw [← Nat.add_mul]
       congr 1
       omega
      ·rw [Nat.zero_mul, List.take_zero, List.nil_append, Nat.zero_add, ← hnl, List.take_left']
       rfl
      have := hw.swap i (news ++ (Builtin.zeroCells z.cells (grownCap w m 0 E - m)).toList) E
      have e : (news ++ (Builtin.zeroCells z.cells (grownCap w m 0 E - m)).toList).toArray = news.toArray ++ Builtin.zeroCells z.cells (grownCap w m 0 E - m) := by simp
      rw [e] at this
      exact this
     by_cases hroom : len + m ≤ cap
     ·-- room
      have hrun := run_append_room (P := P) (w := w) t o.type E ti ht hti b len cap cs.toArray (hw.obj hb) ⟨bx, 0, none⟩ m c news hnl hnews hn1 hroom (by
       have := Nat.mul_le_mul_right ti.size hroom
       rw [Nat.add_mul] at this
       simp only [List.size_toArray, hnl, hlen]
       omega)
      have hroom2 : len * ti.size + m * ti.size ≤ cap * ti.size := by rw [← Nat.add_mul]; exact Nat.mul_le_mul_right _ hroom
      have htl : (cs.take (len * ti.size)).length = len * ti.size := by rw [List.length_take, hlen]; omega
      refine fin1 _ _ hrun ⟨b, cap, cs.take (len * ti.size) ++ news ++ cs.drop (len * ti.size + news.length), rfl, (hw.holds _ (List.mem_of_getElem? hb)).2 rfl, hroom, ?_, ?_, ?_⟩
      ·simp only [List.length_append, htl, List.length_drop, hnl, hlen]
       omega
      ·rw [Nat.add_mul, ← hnl, ← htl, ← List.length_append, List.take_left']
       rw [htl]
      refine hw.setObj hb rfl rfl rfl (by simp [World.setRow]) ?_ (fun k hk => ?_)
      ·exact setRow_heap w b cs.toArray _ E (0, 0) (hw.obj hb)
      simp only [World.setRow, Array.getElem?_modify]
      rw [if_neg (fun e => hk e.symm)]
     -- a greater row
     have holds : ∀ k v, (cs.take (len * ti.size))[k]? = some v → w.cell? (Addr.add ⟨b, 0, none⟩ k) = some v := fun k v hv => by
      rw [add_addr, Nat.zero_add]
      refine cell_obj (hw.obj hb) ?_
      rw [List.getElem?_take] at hv
      by_cases hk : k < len * ti.size
      ·rw [if_pos hk] at hv; exact hv
      rw [if_neg hk] at hv; cases hv
     have hlo : (cs.take (len * ti.size)).length = len * ti.size := by
      rw [List.length_take, hlen]
      exact Nat.min_eq_left (Nat.mul_le_mul_right _ hle)
     have hrun := run_append_grow (P := P) (w := w) t o.type E ti z ht hti hzero ⟨b, 0, none⟩ len cap _ hlo holds ⟨bx, 0, none⟩ m c news hnl hnews (by omega) (by omega) (growslice_fits (by omega) hbytes)
     have hge := grownCap_ge w (len + m) cap E
     refine fin1 _ _ hrun ⟨w.heap.size, grownCap w (len + m) cap E, cs.take (len * ti.size) ++ news ++ (Builtin.zeroCells z.cells (grownCap w (len + m) cap E - (len + m))).toList, rfl, .inl hw.kept.size, hge, ?_, ?_, ?_⟩
     ·simp only [List.length_append, hlo, hnl, Array.length_toList, hzc]
      rw [← Nat.add_mul, ← Nat.add_mul]
      congr 1
      omega
     ·rw [Nat.add_mul, ← hnl, ← hlo, ← List.length_append, List.take_left']
      rw [hlo]
     have := hw.swap i (cs.take (len * ti.size) ++ news ++ (Builtin.zeroCells z.cells (grownCap w (len + m) cap E - (len + m))).toList) E
     have e : (cs.take (len * ti.size) ++ news ++ (Builtin.zeroCells z.cells (grownCap w (len + m) cap E - (len + m))).toList).toArray = (cs.take (len * ti.size)).toArray ++ news.toArray ++ Builtin.zeroCells z.cells (grownCap w (len + m) cap E - (len + m)) := by simp
     rw [e] at this
     exact this
    cases h
  cases h
end
attribute [irreducible] appendOf
end
end Go.Proofs.Ytcncfmjfgdbfeab
