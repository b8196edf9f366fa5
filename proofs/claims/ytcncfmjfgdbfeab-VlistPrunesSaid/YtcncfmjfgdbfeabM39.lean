/- Fast20 VSz VIl. -/
import Derived.Test.YtcncfmjfgdbfeabM38
import Derived.Test.YtcncfmjfgdbfeabFast18
import Derived.Test.YtcncfmjfgdbfeabM3
namespace Go.Proofs.Ytcncfmjfgdbfeab
open Go.RowKit
noncomputable section
def bodyPostN (P : Program) (fn : Func) (R : Ending → World → Prop) : Exit → Act → World → Prop
 | .panic _, _, _ => False
 | e, a, w => bodyPostM Fence.wide 0 P fn R e a w
theorem bodyPostN_imp {P : Program} {fn : Func} {R : Ending → World → Prop} : ∀ e a w, bodyPostN P fn R e a w → bodyPostM Fence.wide 0 P fn R e a w
 | .normal, _, _, h => h
 | .ret, _, _, h => h
 | .outgrown, _, _, h => h
 | .exit _, _, _, h => h
 | .goto _, _, _, h => h
 | .panic _, _, _, h => h.elim
theorem noPan_N {P : Program} {fn : Func} {R : Ending → World → Prop} : ∀ ch a w, bodyPostN P fn R (.panic ch) a w → False := fun _ _ _ h => h
theorem g_enterN {P : Program} {f : FuncId} {fn : Func} {c : Code} {args : List Value} {n : Nat} {w : World} {R : Ending → World → Prop} (bs : List Nat) (hp : List HE)
  (hf : P.funcs[f]? = some fn) (hb : fn.body = some c) (hn : fn.ntmps = n) (hle : args.length ≤ n) {W : World} (hs : Sat W bs hp w)
  (g : Goal Fence.wide 0 P (bodyPostN P fn R) W bs (enterSt n c args hp)) : Calls P f args.toArray w R := by
 refine callsIn_wide (n := 0).1 (callsIn_of_wp_marks hf hb trivial ?_)
 rw [hn]
 have hrep := enter_rep hle c hp
 unfold enterSt at g hrep
 exact wpIn_mono (g.out (.inl rfl) _ w hrep hs) bodyPostN_imp
section
variable {F : Fence} {mm : Nat} {P : Program} {fn : Func} {R : Ending → World → Prop} {w0 : World} {bs : List Nat} {st : St}
theorem g_retN (hs : List Nat) (v : Value) (h : (resRun P fn hs st).map Prod.fst = some v) (he : (resRun P fn hs st).map (fun x => x.2.map Prod.fst) = (resRun P fn hs st).map (fun x => x.2.map Prod.snd))
  (ds : List Nat) (hds : st.ds = ds.map Run.markOf) {W0 : World} {bs0 : List Nat} (hx : Ext W0 bs0 w0 bs) (hm : ∀ D ∈ ds, W0.heap.size ≤ D ∧ w0.heap[D]? = some (.deferred (some [])) ∧ D ∉ bs) (hnd : ds.Nodup)
  (hR : ∀ w, Sat W0 bs0 st.hp w → R (.returned v) w) : Goal F mm P (bodyPostN P fn R) w0 bs st := by
 refine ⟨fun hF a w hr hw => ?_⟩
 obtain ⟨h1, h2, h3⟩ := resRun_ok h he
 rw [h1]
 have hq : LeavesInM Fence.wide 0 P fn a.tmps R a.defers .returning w := by
  rw [hr.defers, hds]
  refine marks_leave (W0 := W0) (bs0 := bs0) (hp := st.hp) (fun w' hw' => h3 _ a _ _ w' hr hw') hR ds w (fun D hD => (hm D hD).1) (fun D hD => ?_) hnd (hx.sat hw)
  obtain ⟨_, q2, q3⟩ := hm D hD
  exact (hw.kept.block D (Array.getElem?_eq_some_iff.1 q2).1 q3).trans q2
 exact den_end h2 hq hq
end
section
variable {P : Program} {w0 : World} {bs : List Nat} {st : St}
def storeAt (st : St) (i : Nat) (T : Tr) : Option (TypeId × Value × Value) := match opAt st i with
 | some (ops, o) => match wanted? ops T o with
  | some true => bif noSel o.op && o.op.operands.toList.all (fun x => (T.ev? x).isSome) then (match o.op with
   | .store E x y => some (E, T.ev x, T.ev y)
   | _ => none) else none
  | _ => none
 | none => none
theorem setRow_same {w : World} {b : Nat} {cs : List Value} {T : TypeId} {k : Nat × Nat} (h : w.heap[b]? = some (.cells cs.toArray T k)) : w.setRow b cs.toArray = w := by
 have e : (w.setRow b cs.toArray).heap = w.heap := by
  apply Array.ext_getElem?
  intro j
  simp only [World.setRow, Array.getElem?_modify]
  split
  ·rename_i e
   subst e
   rw [h]; rfl
  rfl
 cases w with
 | mk => simp only [World.setRow] at e ⊢; rw [e]
theorem run_store_at {P : Program} {t : Tr} {o : Oper} {T2 T' : TypeId} {x y : Operand} {b k : Nat} {cs vs : List Value} {v : Value} {w : World} (hop : o.op = .store T2 x y) (hx : t.ev x = .pointer (some ⟨b, k, none⟩)) (hy : t.ev y = v)
  (hobj : w.heap[b]? = some (.cells cs.toArray T' (0, 0))) (hv : v.cells = vs.toArray) (hk : k + vs.length ≤ cs.length) (h1 : ∀ u ∈ vs, u.oneCell' = true) (hT : cellsN P T2 = some vs.length) :
  (execOp t.ev o).run P w = .ok .skip (w.setRow b (cs.take k ++ vs ++ cs.drop (k + vs.length)).toArray) := by
 have hst := run_storeCells_at (P := P) b k T' vs 0 cs.toArray w hobj (by simpa using hk) h1
 obtain ⟨ti, hti, hsz⟩ := Option.map_eq_some_iff.1 hT
 have hz : (sizeOf T2).run P w = .ok vs.length w := by simp [sizeOf, typeInfo, program, hti, hsz, Sem.run, Result.andThen]
 unfold execOp
 simp only [hop, hx, hy]
 rw [Nat.add_zero] at hst
 simp [Instr.storeAt, Instr.sureAddr, storeVar, hv, hz, hst, Result.andThen]
theorem aSame {h i : Nat} {W : VP} (sl : List (Nat × Option Value)) (j b : Nat) (v : Value) (T' : TypeId) (hdst : dstAt st i = none) (h1 : slotsOk st h i sl = true) (h2 : slotsEq st sl = slotsVal sl)
  (hj : st.hp[j]? = some (.obj true b [v] T')) (hv : v.cells = #[v]) (hv1 : v.oneCell' = true)
  (hk : ∀ w, Sat w0 bs st.hp w → AllL W w sl (fun T => ∃ E, storeAt st i T = some (E, .pointer (some ⟨b, 0, none⟩), v) ∧ cellsN P E = some 1) .nil) : AAt P w0 bs st h W i := by
 refine ⟨fun ops o ho => ?_⟩
 simp only [slotsOk, Bool.and_eq_true, decide_eq_true_eq] at h1
 have hsl : slotsAt st i = slotsOf ops o := by unfold slotsAt; rw [ho]
 have hda : dstAt st i = o.dst := by unfold dstAt; rw [ho]; rfl
 refine AOp.of (sl.map Prod.fst) (hsl.symm.trans h1.1) fun w hC => ?_
 have hmono : ∀ (l : List (Nat × Option Value)) (T : Tr), AllL W w l (fun T => ∃ E, storeAt st i T = some (E, .pointer (some ⟨b, 0, none⟩), v) ∧ cellsN P E = some 1) T → AllL W w l (ADo P ops (Sat w0 bs st.hp) (knownV st.t (outsA st h) W) o w) T := by
  intro l
  induction l with
  | nil =>
   rintro T ⟨E, he, hT⟩
   unfold storeAt at he
   rw [ho] at he
   simp only at he
   split at he
   ·rename_i hwn
    cases hall : (noSel o.op && o.op.operands.toList.all fun x => (T.ev? x).isSome) with
    | false => rw [hall] at he; cases he
    | true =>
     rw [hall, cond_true] at he
     split at he
     ·rename_i T2 x y hop
      simp only [Option.some.injEq, Prod.mk.injEq] at he
      obtain ⟨rfl, hx, hy⟩ := he
      have hsem : opSem T o = some (execOp T.ev o) := by
       unfold opSem
       rw [hall]; rfl
      have hobj := hC.obj hj
      have hrun := run_store_at (P := P) (t := T) (k := 0) hop hx hy hobj (vs := [v]) (by simpa using hv) (by simp) (by simpa using hv1) hT
      have e0 : (([v] : List Value).take 0 ++ [v] ++ ([v] : List Value).drop (0 + [v].length)).toArray = [v].toArray := rfl
      rw [e0] at hrun
      rw [setRow_same hobj] at hrun
      refine .inr ⟨hwn, _, hsem, .inl ⟨undef, w, .inr ⟨hrun, rfl⟩, hC, Kept.refl w, fun d' hdd => ?_⟩⟩
      rw [← hda, hdst] at hdd
      cases hdd
     cases he
   cases he
  | cons p l ih =>
   obtain ⟨s, u⟩ := p
   cases u with
   | some u => exact fun T hl => ih _ hl
   | none => exact fun T hl v hv => ih _ (hl v hv)
 exact allL_allV h1.2 h2 (hmono sl .nil (hk w hC))
end
end
end Go.Proofs.Ytcncfmjfgdbfeab
namespace Go.Proofs.Ytcncfmjfgdbfeab
set_option maxRecDepth 100000
set_option maxHeartbeats 4000000
open Go.RowKit
theorem szdims1 (b : Nat) (x : Int) (w : World) (h : w.heap[b]? = some (.cells #[.int .i64 x] 3 (0, 0))) :
  Calls Try.prog 34 #[.slice (some ⟨b, 0, none⟩) 1 1] w fun e w' => e = .returned (.bool (dimB x)) ∧ Kept w w' := by
 refine g_enter (args := [.slice (some ⟨b, 0, none⟩) 1 1]) [] [.obj false b [.int .i64 x] 3] Try.func34 rfl Try.ntmps34 kL (sat1 h) ?_
 refine g0 ?_
 refine g_unroll 3 kR ?_
 refine gA ([0]) 1 ?_
 refine g_dec 13 (decide (x < -1073741823)) kR (fun h13 => ?_) (fun h13 => ?_)
 ·refine gA [] 3 ?_
  refine gR (Value.bool false) fun w' hs => ?_
  exact ⟨ret_bool (by clear hs; simp only [decide_eq_true_eq] at *; rw [Bool.eq_iff_iff]; simp [dimB]; omega), hs.kk⟩
 refine gA [] 2 ?_
 refine g_dec 16 (decide (x > 1073741823)) kR (fun h16 => ?_) (fun h16 => ?_)
 ·refine gA [] 1 ?_
  refine gR (Value.bool false) fun w' hs => ?_
  exact ⟨ret_bool (by clear hs; simp only [decide_eq_true_eq, decide_eq_false_iff_not] at *; rw [Bool.eq_iff_iff]; simp [dimB]; omega), hs.kk⟩
 refine gA [] 2 ?_
 refine gR (Value.bool true) fun w' hs => ?_
 exact ⟨ret_bool (by clear hs; simp only [decide_eq_false_iff_not] at *; rw [Bool.eq_iff_iff]; simp [dimB]; omega), hs.kk⟩
theorem szdims2 (b : Nat) (x y : Int) (w : World) (h : w.heap[b]? = some (.cells #[.int .i64 x, .int .i64 y] 3 (0, 0))) :
  Calls Try.prog 34 #[.slice (some ⟨b, 0, none⟩) 2 2] w fun e w' => e = .returned (.bool (d2B x y)) ∧ Kept w w' := by
 refine g_enter (args := [.slice (some ⟨b, 0, none⟩) 2 2]) [] [.obj false b [.int .i64 x, .int .i64 y] 3] Try.func34 rfl Try.ntmps34 kL (sat1 h) ?_
 refine g0 ?_
 refine g_unroll 4 kR ?_
 refine gA ([0]) 1 ?_
 refine g_dec 13 (decide (x < -1073741823)) kR (fun h13 => ?_) (fun h13 => ?_)
 ·refine gA [] 3 ?_
  refine gR (Value.bool false) fun w' hs => ?_
  exact ⟨ret_bool (by clear hs; simp only [decide_eq_true_eq] at *; rw [Bool.eq_iff_iff]; simp [d2B, dimB]; omega), hs.kk⟩
 refine gA [] 2 ?_
 refine g_dec 16 (decide (x > 1073741823)) kR (fun h16 => ?_) (fun h16 => ?_)
 ·refine gA [] 1 ?_
  refine gR (Value.bool false) fun w' hs => ?_
  exact ⟨ret_bool (by clear hs; simp only [decide_eq_true_eq, decide_eq_false_iff_not] at *; rw [Bool.eq_iff_iff]; simp [d2B, dimB]; omega), hs.kk⟩
 refine gA ([0]) 2 ?_
 refine g_dec 13 (decide (y < -1073741823)) kR (fun h13 => ?_) (fun h13 => ?_)
 ·refine gA [] 3 ?_
  refine gR (Value.bool false) fun w' hs => ?_
  exact ⟨ret_bool (by clear hs; simp only [decide_eq_true_eq, decide_eq_false_iff_not] at *; rw [Bool.eq_iff_iff]; simp [d2B, dimB]; omega), hs.kk⟩
 refine gA [] 2 ?_
 refine g_dec 16 (decide (y > 1073741823)) kR (fun h16 => ?_) (fun h16 => ?_)
 ·refine gA [] 1 ?_
  refine gR (Value.bool false) fun w' hs => ?_
  exact ⟨ret_bool (by clear hs; simp only [decide_eq_true_eq, decide_eq_false_iff_not] at *; rw [Bool.eq_iff_iff]; simp [d2B, dimB]; omega), hs.kk⟩
 refine gA [] 2 ?_
 refine gR (Value.bool true) fun w' hs => ?_
 exact ⟨ret_bool (by clear hs; simp only [decide_eq_false_iff_not] at *; rw [Bool.eq_iff_iff]; simp [d2B, dimB]; omega), hs.kk⟩
end Go.Proofs.Ytcncfmjfgdbfeab
namespace Go.Proofs.Ytcncfmjfgdbfeab
set_option maxRecDepth 100000
set_option maxHeartbeats 4000000
open Go.RowKit
theorem szdims1v (b : Nat) (x : Int) (v : Bool) (hv : dimB x = v) (w : World) (h : w.heap[b]? = some (.cells #[.int .i64 x] 3 (0, 0))) :
  Calls Try.prog 34 #[.slice (some ⟨b, 0, none⟩) 1 1] w fun e w' => e = .returned (.bool v) ∧ Kept w w' := hv ▸ szdims1 b x w h
theorem szdims2v (b : Nat) (x y : Int) (v : Bool) (hv : d2B x y = v) (w : World) (h : w.heap[b]? = some (.cells #[.int .i64 x, .int .i64 y] 3 (0, 0))) :
  Calls Try.prog 34 #[.slice (some ⟨b, 0, none⟩) 2 2] w fun e w' => e = .returned (.bool v) ∧ Kept w w' := hv ▸ szdims2 b x y w h
structure OneX (w0 : World) where
 b : Nat
 new : w0.heap.size ≤ b
theorem inter_line (bef h a0 a1 a2 a3 a4 c0 c1 c2 c3 c4 lim y x : Int) (hb : -65536000 < bef) (hy : IntKind.i64.wrap (a0 - bef) = y) (hx : IntKind.i64.wrap (y - h) = x) (hd : dimB x = true) (hl : x < lim) (w : World) :
  Calls Try.prog 42 #[.int .i64 bef, .int .i64 h, .agg #[.int .i64 a0, .int .i64 a1, .int .i64 a2, .int .i64 a3, .int .i64 a4], .agg #[.int .i64 c0, .int .i64 c1, .int .i64 c2, .int .i64 c3, .int .i64 c4], .int .i64 lim] w fun e w' => ∃ q : OneX w, e = .returned (.tuple #[.slice (some ⟨q.b, 0, none⟩) 1 1, .int .i64 0]) ∧ Sat w [] [.obj true q.b (nodC (⟨7, 0, 0, 0, 0, 0, 0, c0, c1, c2, c3, c4, 0, 0, 0, 0, 0, 1, ⟨#[]⟩⟩ : Nod)) 55] w' := by
 refine g_enter (args := [.int .i64 bef, .int .i64 h, .agg #[.int .i64 a0, .int .i64 a1, .int .i64 a2, .int .i64 a3, .int .i64 a4], .agg #[.int .i64 c0, .int .i64 c1, .int .i64 c2, .int .i64 c3, .int .i64 c4], .int .i64 lim]) [] [] Try.func42 rfl Try.ntmps42 kL (sat0 w) ?_
 refine g0 ?_
 refine gN fun b0 hb0 => ?_
 refine gN fun b1 hb1 => ?_
 refine g0 ?_
 refine g_dec 14 (decide (bef ≤ -65536000)) kR (fun h14 => ?_) (fun h14 => ?_)
 ·exact absurd h14 (by intro hx; simp at hx; omega)
 refine gU 18 ([0]) 1 ?_
 refine g_val _ _ ?_ (fun w _hs => bin_run (P := Try.prog) (op := .sub) (t := 3) (x := .tmp 16) (y := .tmp 17) (a := .int .i64 a0) (b := .int .i64 bef) (v := .int .i64 (IntKind.i64.wrap (a0 - bef))) (v' := .int .i64 y) (w := w) kR (by rw [hy])) ?_
 ·kernel_rfl
 refine gU 20 [] 0 ?_
 refine g_val _ _ ?_ (fun w _hs => bin_run (P := Try.prog) (op := .sub) (t := 3) (x := .tmp 18) (y := .tmp 19) (a := .int .i64 y) (b := .int .i64 h) (v := .int .i64 (IntKind.i64.wrap (y - h))) (v' := .int .i64 x) (w := w) kR (by rw [hx])) ?_
 ·kernel_rfl
 refine g0 ?_
 refine gN fun b2 hb2 => ?_
 refine g_callq _ _ _ ?_ (fun w hs => szdims1v b2 x true hd w (hs.obj (o := true) (i := 2) kR)) ?_
 ·kernel_rfl
 refine gA [] 1 ?_
 refine g_dec 27 (decide (x < lim)) kR (fun h27 => ?_) (fun h27 => ?_)
 ·refine gA (List.replicate 5 1) 1 ?_
  refine gN fun b3 hb3 => ?_
  refine g0 ?_
  refine gR (Value.tuple (Array.mk [Value.slice (some (Addr.mk b3 0 none)) 1 1, Value.int IntKind.i64 0])) fun w' hs => ?_
  exact ⟨⟨b3, hb3⟩, rfl, hs.pick [3] (by decide) kR⟩
 exact absurd h27 (by intro hx; simp at hx; omega)
theorem inter_base (bef h a0 a1 a2 a3 a4 c0 c1 c2 c3 c4 lim y x : Int) (hb : -65536000 < bef) (hy : IntKind.i64.wrap (a0 - bef) = y) (hx : IntKind.i64.wrap (y - h) = x) (hd : dimB x = true) (hl : ¬ x < lim) (w : World) :
  Calls Try.prog 42 #[.int .i64 bef, .int .i64 h, .agg #[.int .i64 a0, .int .i64 a1, .int .i64 a2, .int .i64 a3, .int .i64 a4], .agg #[.int .i64 c0, .int .i64 c1, .int .i64 c2, .int .i64 c3, .int .i64 c4], .int .i64 lim] w fun e w' => ∃ q : OneX w, e = .returned (.tuple #[.slice (some ⟨q.b, 0, none⟩) 1 1, .int .i64 0]) ∧ Sat w [] [.obj true q.b (nodC (⟨7, 0, 0, 0, 0, 0, 0, x, a1, a2, a3, a4, 0, 0, 0, 0, 0, 2, ⟨#[]⟩⟩ : Nod)) 55] w' := by
 refine g_enter (args := [.int .i64 bef, .int .i64 h, .agg #[.int .i64 a0, .int .i64 a1, .int .i64 a2, .int .i64 a3, .int .i64 a4], .agg #[.int .i64 c0, .int .i64 c1, .int .i64 c2, .int .i64 c3, .int .i64 c4], .int .i64 lim]) [] [] Try.func42 rfl Try.ntmps42 kL (sat0 w) ?_
 refine g0 ?_
 refine gN fun b0 hb0 => ?_
 refine gN fun b1 hb1 => ?_
 refine g0 ?_
 refine g_dec 14 (decide (bef ≤ -65536000)) kR (fun h14 => ?_) (fun h14 => ?_)
 ·exact absurd h14 (by intro hx; simp at hx; omega)
 refine gU 18 ([0]) 1 ?_
 refine g_val _ _ ?_ (fun w _hs => bin_run (P := Try.prog) (op := .sub) (t := 3) (x := .tmp 16) (y := .tmp 17) (a := .int .i64 a0) (b := .int .i64 bef) (v := .int .i64 (IntKind.i64.wrap (a0 - bef))) (v' := .int .i64 y) (w := w) kR (by rw [hy])) ?_
 ·kernel_rfl
 refine gU 20 [] 0 ?_
 refine g_val _ _ ?_ (fun w _hs => bin_run (P := Try.prog) (op := .sub) (t := 3) (x := .tmp 18) (y := .tmp 19) (a := .int .i64 y) (b := .int .i64 h) (v := .int .i64 (IntKind.i64.wrap (y - h))) (v' := .int .i64 x) (w := w) kR (by rw [hx])) ?_
 ·kernel_rfl
 refine g0 ?_
 refine gN fun b2 hb2 => ?_
 refine g_callq _ _ _ ?_ (fun w hs => szdims1v b2 x true hd w (hs.obj (o := true) (i := 2) kR)) ?_
 ·kernel_rfl
 refine gA [] 1 ?_
 refine g_dec 27 (decide (x < lim)) kR (fun h27 => ?_) (fun h27 => ?_)
 ·exact absurd h27 (by intro hx; simp at hx; omega)
 refine gA (List.replicate 6 0) 1 ?_
 refine gN fun b3 hb3 => ?_
 refine g0 ?_
 refine gR (Value.tuple (Array.mk [Value.slice (some (Addr.mk b3 0 none)) 1 1, Value.int IntKind.i64 0])) fun w' hs => ?_
 exact ⟨⟨b3, hb3⟩, rfl, hs.pick [3] (by decide) kR⟩
end Go.Proofs.Ytcncfmjfgdbfeab
