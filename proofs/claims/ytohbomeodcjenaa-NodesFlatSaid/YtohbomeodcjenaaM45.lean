/- Fast15 NodFl. -/
import Derived.Test.YtohbomeodcjenaaFast11
import Derived.Test.YtohbomeodcjenaaM16
import Derived.Test.YtohbomeodcjenaaNodIt
import Derived.Test.YtohbomeodcjenaaNodLst
namespace Go.Proofs.Ytohbomeodcjenaa
open Go.RowKit
noncomputable section

section
variable {P : Program}
theorem rowsL_eq {f g : Nat → List Value} {s t m : Nat} (h : ∀ q, q < m → f (s + q) = g (t + q)) : rowsL f s m = rowsL g t m := by
  induction m with
  | zero => simp [rowsL]
  | succ m ih => rw [rowsL_succ, rowsL_succ, ih (fun q hq => h q (by omega)), h m (by omega)]
theorem rowsL_two (f : Nat → List Value) (s m n : Nat) : rowsL f s (m + n) = rowsL f s m ++ rowsL f (s + m) n := by
  induction n with
  | zero => simp [rowsL]
  | succ n ih => rw [← Nat.add_assoc, rowsL_succ, ih, rowsL_succ, List.append_assoc, Nat.add_assoc]
theorem seg_run {T E : TypeId} {b o n c s e sz : Nat} {kk kl : IntKind} (w : World) (hT : P.underlying T = some (.slice E)) (hs : cellsN P E = some sz) (hse : s ≤ e) (hn : e ≤ c) :
    (sliceSem T (.slice (some ⟨b, o, none⟩) n c) (some (.int kk s)) (some (.int kl e)) none).run P w = .ok (.value (.slice (some (tailA b o s sz c)) (e - s) (c - s))) w := by
  have hu : (underlying T).run P w = .ok (.slice E) w := by simp [underlying, program, hT, Sem.run, Result.andThen]
  obtain ⟨i, hi, hsz⟩ := Option.map_eq_some_iff.1 hs
  have hz : (sizeOf E).run P w = .ok sz w := by simp [sizeOf, typeInfo, program, hi, hsz, Sem.run, Result.andThen]
  have hb : (Instr.sliceBounds true n c (some (.int kk s)) (some (.int kl e)) none).run P w = .ok (s, e, c) w := by
    have h0 : (0 : Int) ≤ s ∧ (s : Int) ≤ e := by omega
    have h1 : (0 : Int) ≤ e ∧ (e : Int) ≤ c := by omega
    simp [Instr.sliceBounds, Instr.sliceBound, asIntOf, h0, h1, hse, hn]
  unfold tailA
  by_cases he : c = s
  · subst he
    simp [sliceSem, Instr.sliceAt, Instr.slice, hu, hz, hb, Result.andThen]
  · simp [sliceSem, Instr.sliceAt, Instr.slice, hu, hz, hb, Result.andThen, he, add_addr]
theorem run_append_none {t ty e : TypeId} {i : TypeInfo} {w : World} (ht : P.underlying t = some (.slice e)) (hi : P.info? e = some i) (x : Option Addr) (c : Nat) :
    (Builtin.append_ #[t, t] ty #[.slice none 0 0, .slice x 0 c]).run P w = .ok (.slice none 0 0) w := by
  cases x with
  | none => simp [Builtin.append_, run_underlying ht, sizeOf, typeInfo, hi, Builtin.lenOf, Builtin.firstCells]
  | some a => simp [Builtin.append_, run_underlying ht, sizeOf, typeInfo, hi, Builtin.lenOf, Builtin.firstCells, loadCells, loadCellsFrom]
end

section
variable {F : Fence} {mm : Nat} {P : Program} {fin : Fin} {w0 : World} {bs : List Nat} {st : St}
/-- an operation that may make memory; what it gives is told by x -/
theorem g_anyW {X : Type} (s : Sem Next) (val : X → Value) (hp' : X → List HE) (h : headSem st = some s)
    (C : ∀ w, Sat w0 bs st.hp w → ∃ x w', s.run P w = .ok (.value (val x)) w' ∧ Sat w0 bs (hp' x) w')
    (g : ∀ x, Goal F mm P fin w0 bs (retSt st (val x) (hp' x))) : Goal F mm P fin w0 bs st := by
  refine ⟨fun hF a w hr hw => ?_⟩
  obtain ⟨x, w', hx, hs⟩ := C w hw
  have hg := g x
  obtain ⟨n, ds, ops, l, k, t, hp⟩ := st
  unfold headSem at h
  unfold retSt at hg
  simp only at h hr hw hg ⊢
  cases l with
  | nil => cases h
  | cons o rest =>
    simp only at h hg
    split at h
    · rename_i hwn
      unfold wpListIn
      rw [hr.wanted hwn, if_pos rfl]
      refine ⟨fun f _ => hF.fn f, ?_⟩
      rw [Oper.semAt_eq _ _ _ (noDefer (opSem_noSel h)), hr.opSem h, hx]
      exact hg.out hF _ _ (hr.put _ _) hs
    · cases h
/-- append, as an operation -/
def appSem (t ty : TypeId) (x y : Value) : Sem Next := do
  let v ← Builtin.append_ #[t, t] ty #[x, y]
  pure (.value v)
theorem app_of {t ty : TypeId} {x y v : Value} {w w' : World} (h : (Builtin.append_ #[t, t] ty #[x, y]).run P w = .ok v w') : (appSem t ty x y).run P w = .ok (.value v) w' := by
  simp [appSem, h, Result.andThen]
/-- what a copy of m elements is -/
structure CopyX (w0 : World) (f : Nat → List Value) (s m sz : Nat) where
  b : Nat
  cap : Nat
  cs : List Value
  new : w0.heap.size ≤ b
  le : m ≤ cap
  len : cs.length = cap * sz
  row : cs.take (m * sz) = rowsL f s m
/-- APPEND of a piece of a row to nothing -/
theorem appN_run {t ty E : TypeId} {sz m c s bx off n by_ j : Nat} {ax : Option Addr} {f : Nat → List Value} {hp : List HE} {w : World} (hw : Sat w0 bs hp w)
    (ht : P.underlying t = some (.slice E)) (hz : ∃ ti z, P.info? E = some ti ∧ ti.zero = some z ∧ ti.size = sz ∧ ti.bytes = by_ ∧ z.cells.size = sz)
    (hj : hp[j]? = some (.row bx off sz n f)) (hf : ∀ k, (f k).length = sz) (hsm : s + m ≤ n) (hm : 0 < m) (hax : ax = some ⟨bx, off + s * sz, none⟩) (hbig : m ≤ 9223372036854775807) (hbytes : m * by_ ≤ 140737488355328) :
    ∃ (x : CopyX w0 f s m sz) (w' : World), (appSem t ty (.slice none 0 0) (.slice ax m c)).run P w = .ok (.value (.slice (some ⟨x.b, 0, none⟩) m x.cap)) w' ∧ Sat w0 bs (hp ++ [.obj true x.b x.cs E]) w' := by
  obtain ⟨ti, z, hti, hzero, hsize, hby, hzs⟩ := hz
  subst hsize
  subst hby
  subst hax
  have hzc : ∀ k, (Builtin.zeroCells z.cells k).size = k * ti.size := fun k => by simp [Builtin.zeroCells, hzs]
  have hnl := rowsL_length hf s m
  have hnews : ∀ k v, (rowsL f s m)[k]? = some v → w.cell? (Addr.add ⟨bx, off + s * ti.size, none⟩ k) = some v := fun k v hv => by
    obtain ⟨q, r, h1, h2, h3⟩ := rowsL_get hf s m k v hv
    have := hw.rowcell hj (k := s + q) (by omega) h3
    rw [add_addr, h2]
    rw [show off + s * ti.size + (q * ti.size + r) = off + (s + q) * ti.size + r by rw [Nat.add_mul]; omega]
    exact this
  have hrun := run_append_nil (P := P) (w := w) t ty E ti z ht hti hzero ⟨bx, off + s * ti.size, none⟩ m c (rowsL f s m) hnl hnews hm (by omega) (by omega)
  have hge := grownCap_ge w m 0 E
  refine ⟨⟨w.heap.size, grownCap w m 0 E, rowsL f s m ++ (Builtin.zeroCells z.cells (grownCap w m 0 E - m)).toList, hw.kept.size, hge, ?_, ?_⟩, _, app_of hrun, ?_⟩
  · simp only [List.length_append, hnl, Array.length_toList, hzc]
    rw [← Nat.add_mul]
    congr 1
    omega
  · rw [← hnl, List.take_left']
    rfl
  · have h0 : Sat w0 bs hp w.drew := hw.draw _
    have := h0.alloc (rowsL f s m ++ (Builtin.zeroCells z.cells (grownCap w m 0 E - m)).toList) E
    have e : (rowsL f s m ++ (Builtin.zeroCells z.cells (grownCap w m 0 E - m)).toList).toArray = (rowsL f s m).toArray ++ Builtin.zeroCells z.cells (grownCap w m 0 E - m) := by simp
    rw [e] at this
    exact this
theorem app0_run {t ty E : TypeId} {ti : TypeInfo} {ax : Option Addr} {c : Nat} {w : World} (ht : P.underlying t = some (.slice E)) (hi : P.info? E = some ti) :
    (appSem t ty (.slice none 0 0) (.slice ax 0 c)).run P w = .ok (.value (.slice none 0 0)) w := by
  simp [appSem, run_append_none ht hi, Result.andThen]
/-- make, as an operation -/
def makeSem (t : TypeId) (x y : Value) : Sem Next := do
  let v ← Instr.makeSlice t x y
  pure (.value v)
theorem make_of {t : TypeId} {x y v : Value} {w w' : World} (h : (Instr.makeSlice t x y).run P w = .ok v w') : (makeSem t x y).run P w = .ok (.value v) w' := by
  simp [makeSem, h, Result.andThen]
theorem make_run {t E : TypeId} {ti : TypeInfo} {z : Value} {l n : Nat} {hp : List HE} {w : World} (hw : Sat w0 bs hp w) (ht : P.underlying t = some (.slice E)) (hti : P.info? E = some ti) (hzero : ti.zero = some z) (hl : l ≤ n)
    (hb : ti.bytes * n ≤ 281474976710656) (hn : n ≤ 9223372036854775807) :
    ∃ (x : { b : Nat // w0.heap.size ≤ b }) (w' : World), (makeSem t (.int .i64 (l : Int)) (.int .i64 (n : Int))).run P w = .ok (.value (.slice (some ⟨x.1, 0, none⟩) l n)) w' ∧ Sat w0 bs (hp ++ [.obj true x.1 (madeCells z.cells (n * ti.size)).toList E]) w' := by
  have hm := run_make (P := P) w t E ti z ht hti hzero .i64 .i64 l n (by omega) (by omega) (by
    have h4 : ((ti.bytes * n : Nat) : Int) ≤ 281474976710656 := by omega
    rwa [Int.natCast_mul] at h4) (by omega)
  rw [Int.toNat_natCast, Int.toNat_natCast] at hm
  exact ⟨⟨w.heap.size, hw.kept.size⟩, _, make_of hm, hw.alloc (madeCells z.cells (n * ti.size)).toList E⟩
/-- a row made with room -/
structure MadeX (w0 : World) (n sz : Nat) where
  b : Nat
  cs : List Value
  new : w0.heap.size ≤ b
  len : cs.length = n * sz
theorem makeX_run {t E : TypeId} {l n sz by_ : Nat} {hp : List HE} {w : World} (hw : Sat w0 bs hp w) (ht : P.underlying t = some (.slice E)) (hz : ∃ ti z, P.info? E = some ti ∧ ti.zero = some z ∧ ti.size = sz ∧ ti.bytes = by_ ∧ z.cells.size = sz) (hl : l ≤ n)
    (hb : by_ * n ≤ 281474976710656) (hn : n ≤ 9223372036854775807) :
    ∃ (x : MadeX w0 n sz) (w' : World), (makeSem t (.int .i64 (l : Int)) (.int .i64 (n : Int))).run P w = .ok (.value (.slice (some ⟨x.b, 0, none⟩) l n)) w' ∧ Sat w0 bs (hp ++ [.obj true x.b x.cs E]) w' := by
  obtain ⟨ti, z, hti, hzero, hsize, hby, _⟩ := hz
  subst hsize
  subst hby
  obtain ⟨x, w', h1, h2⟩ := make_run hw ht hti hzero hl hb hn
  exact ⟨⟨x.1, _, x.2, by rw [Array.length_toList, size_madeCells]⟩, w', h1, h2⟩
theorem rowAt_own {hp : List HE} {i b len cap sz : Nat} {cs : List Value} {E : TypeId} (h : hp[i]? = some (.obj true b cs E)) (hc : cs.length = cap * sz) (hl : len ≤ cap) : RowAt hp i (some ⟨b, 0, none⟩) len cap sz cs E :=
  ⟨(List.getElem?_eq_some_iff.1 h).1, .inr ⟨b, rfl, h, hc, hl⟩⟩
/-- a row that a call has made -/
theorem Sat.moreRow {w w' : World} {hp : List HE} {b o sz n : Nat} {f : Nat → List Value} (h : Sat w0 bs hp w) (k : Sat w [] [.row b o sz n f] w') (hn : 0 < n → w.heap.size ≤ b) : Sat w0 bs (hp ++ [.row b o sz n f]) w' := by
  have h' := h.of_kept k.kept.kept
  refine ⟨h'.kept, fun e he => ?_, fun i j e e' hij hi hj ho hl => ?_⟩
  · rcases List.mem_append.1 he with he | he
    · exact h'.holds e he
    · rw [List.mem_singleton.1 he]
      exact k.holds _ (List.mem_singleton.2 rfl)
  · rcases Nat.lt_or_ge i hp.length with q | q
    · rw [List.getElem?_append_left q] at hi
      rcases Nat.lt_or_ge j hp.length with q' | q'
      · rw [List.getElem?_append_left q'] at hj
        exact h'.apart i j e e' hij hi hj ho hl
      · rw [List.getElem?_append_right q'] at hj
        have e1 := List.mem_singleton.1 (List.mem_of_getElem? hj)
        subst e1
        have hlive : e.live := by
          cases e with
          | obj => trivial
          | row => cases ho
        have h1 := HE.holds_lt (h.holds e (List.mem_of_getElem? hi)) hlive
        have h2 := hn hl
        show e.blk ≠ b
        omega
    · rw [List.getElem?_append_right q] at hi
      have e1 := List.mem_singleton.1 (List.mem_of_getElem? hi)
      subst e1
      cases ho
theorem Sat.oneRow {w w' : World} {b o sz n : Nat} {f : Nat → List Value} (k : Kept w w') (h : Sat w' [] [.row b o sz n f] w') : Sat w [] [.row b o sz n f] w' :=
  ⟨.of_kept k, fun e he => by
    have h1 := h.holds (.row b o sz n f) (List.mem_singleton.2 rfl)
    rw [List.mem_singleton.1 he]
    exact h1, h.apart⟩
end
end
end Go.Proofs.Ytohbomeodcjenaa
namespace Go.Proofs.Ytohbomeodcjenaa
open Go.RowKit

set_option maxRecDepth 100000 in
set_option maxHeartbeats 4000000 in
theorem nopens_any (n : Nod) (w : World) :
    Calls Try.prog 67 #[nodV n] w fun e w' => e = .returned (.bool (enters n.kind)) ∧ Kept w w' := by
  refine g_enter (args := [nodV n]) [] [] Try.func67 rfl Try.ntmps67 (Nat.le_of_ble_eq_true (by kernel_rfl)) (sat0 w) ?_
  refine g_run 9999 [] 0 (by kernel_rfl) ?_
  refine g_new (fun b => by kernel_rfl) fun b0 hb0 => ?_
  refine g_run 9999 ([0]) 0 (by kernel_rfl) ?_
  refine g_dec 5 (n.kind == 4) (by kernel_rfl) (fun h5 => ?_) (fun h5 => ?_)
  · refine g_run 9999 [] 2 (by kernel_rfl) ?_
    refine g_ret [] (Value.bool true) (by kernel_rfl) (by kernel_rfl) (by kernel_rfl) fun w' hs => ?_
    exact ⟨ret_bool (by clear hs; (try simp at *); first | (simp [enters, *]; done) | (rw [Bool.eq_iff_iff]; simp [enters, *]; done) | omega), hs.kept.kept⟩
  · refine g_run 9999 [] 1 (by kernel_rfl) ?_
    refine g_dec 5 (n.kind == 5) (by kernel_rfl) (fun h5 => ?_) (fun h5 => ?_)
    · refine g_run 9999 [] 2 (by kernel_rfl) ?_
      refine g_ret [] (Value.bool true) (by kernel_rfl) (by kernel_rfl) (by kernel_rfl) fun w' hs => ?_
      exact ⟨ret_bool (by clear hs; (try simp at *); first | (simp [enters, *]; done) | (rw [Bool.eq_iff_iff]; simp [enters, *]; done) | omega), hs.kept.kept⟩
    · refine g_run 9999 [] 1 (by kernel_rfl) ?_
      refine g_dec 5 (n.kind == 10) (by kernel_rfl) (fun h5 => ?_) (fun h5 => ?_)
      · refine g_run 9999 [] 2 (by kernel_rfl) ?_
        refine g_ret [] (Value.bool true) (by kernel_rfl) (by kernel_rfl) (by kernel_rfl) fun w' hs => ?_
        exact ⟨ret_bool (by clear hs; (try simp at *); first | (simp [enters, *]; done) | (rw [Bool.eq_iff_iff]; simp [enters, *]; done) | omega), hs.kept.kept⟩
      · refine g_run 9999 [] 1 (by kernel_rfl) ?_
        refine g_dec 5 (n.kind == 13) (by kernel_rfl) (fun h5 => ?_) (fun h5 => ?_)
        · refine g_run 9999 [] 2 (by kernel_rfl) ?_
          refine g_ret [] (Value.bool true) (by kernel_rfl) (by kernel_rfl) (by kernel_rfl) fun w' hs => ?_
          exact ⟨ret_bool (by clear hs; (try simp at *); first | (simp [enters, *]; done) | (rw [Bool.eq_iff_iff]; simp [enters, *]; done) | omega), hs.kept.kept⟩
        · refine g_run 9999 [] 1 (by kernel_rfl) ?_
          refine g_dec 5 (n.kind == 17) (by kernel_rfl) (fun h5 => ?_) (fun h5 => ?_)
          · refine g_run 9999 [] 1 (by kernel_rfl) ?_
            refine g_ret [] (Value.bool true) (by kernel_rfl) (by kernel_rfl) (by kernel_rfl) fun w' hs => ?_
            exact ⟨ret_bool (by clear hs; (try simp at *); first | (simp [enters, *]; done) | (rw [Bool.eq_iff_iff]; simp [enters, *]; done) | omega), hs.kept.kept⟩
          · refine g_run 9999 [] 1 (by kernel_rfl) ?_
            refine g_ret [] (Value.bool false) (by kernel_rfl) (by kernel_rfl) (by kernel_rfl) fun w' hs => ?_
            exact ⟨ret_bool (by clear hs; (try simp at *); first | (simp [enters, *]; done) | (rw [Bool.eq_iff_iff]; simp [enters, *]; done) | omega), hs.kept.kept⟩
set_option maxRecDepth 100000 in
set_option maxHeartbeats 4000000 in
theorem begins_yes (beh : List Nat) (bb : Nat) (nb : Option Addr) (nn nc n at_ : Nat) (hn : beh.length = n) (ha : at_ < n) (h0 : beh.getD at_ 0 ≠ 0) (w : World) (hb : w.heap[bb]? = some (.cells (behC beh).toArray 3 (0, 0))) :
    Calls Try.prog 66 #[.agg #[.slice nb nn nc, .slice (some ⟨bb, 0, none⟩) n n], .int .i64 (at_ : Int)] w fun e w' => e = .returned (.bool true) ∧ Kept w w' := by
  refine g_enter (args := [.agg #[.slice nb nn nc, .slice (some ⟨bb, 0, none⟩) n n], .int .i64 (at_ : Int)]) [] [.obj false bb (behC beh) 3] Try.func66 rfl Try.ntmps66 (Nat.le_of_ble_eq_true (by kernel_rfl)) (sat1 hb) ?_
  refine g_run 9999 [] 0 (by kernel_rfl) ?_
  refine g_new (fun b => by kernel_rfl) fun b1 hb1 => ?_
  refine g_run 9999 ([1]) 5 (by kernel_rfl) ?_
  refine g_dec 14 (decide ((↑at_ : Int) < (↑n : Int))) (by kernel_rfl) (fun h14 => ?_) (fun h14 => ?_)
  · refine g_run 18 ([1]) 3 (by kernel_rfl) ?_
    refine g_val _ _ ?_ (fun w _hs => idx_run (P := Try.prog) (T := 25) (E := 3) (b := bb) (o := 0) (n := n) (c := n) (k := at_) (sz := 1) (kk := .i64) w (by kernel_rfl) (by kernel_rfl) ha) ?_
    · kernel_rfl
    refine g_val _ _ ?_ (fun w _hs => Sat.objload1 (T := 3) (T' := 3) (i := 0) (b := bb) (k := 0 + at_ * 1) (own := false) (cs := behC beh) (v := .int .i64 ((beh.getD at_ 0 : Nat) : Int)) _hs (by kernel_rfl) (behC_get (by omega)) (by kernel_rfl)) ?_
    · kernel_rfl
    refine g_run 9999 [] 1 (by kernel_rfl) ?_
    refine g_ret [] (Value.bool ((↑(beh.getD at_ 0) : Int) != 0)) (by kernel_rfl) (by kernel_rfl) (by kernel_rfl) fun w' hs => ?_
    exact ⟨ret_bool (bne_iff_ne.2 (by clear hs; omega)), hs.kept.kept⟩
  · exact absurd h14 (by clear hb; intro hx; simp at hx; omega)
set_option maxRecDepth 100000 in
set_option maxHeartbeats 4000000 in
theorem inside_span (beh : List Nat) (bb : Nat) (nb : Option Addr) (nn nc n at_ e : Nat) (hn : beh.length = n) (ha : at_ < n) (he : beh.getD at_ 0 = e) (h0 : 0 < e) (hs : e ≤ 2000) (hn2 : n ≤ 2000) (w : World) (hb : w.heap[bb]? = some (.cells (behC beh).toArray 3 (0, 0))) :
    Calls Try.prog 69 #[.agg #[.slice nb nn nc, .slice (some ⟨bb, 0, none⟩) n n], .int .i64 (at_ : Int)] w fun e' w' => e' = .returned (.agg #[.int .i64 ((at_ + 1 : Nat) : Int), .int .i64 ((e - 1 : Nat) : Int)]) ∧ Kept w w' := by
  refine g_enter (args := [.agg #[.slice nb nn nc, .slice (some ⟨bb, 0, none⟩) n n], .int .i64 (at_ : Int)]) [] [.obj false bb (behC beh) 3] Try.func69 rfl Try.ntmps69 (Nat.le_of_ble_eq_true (by kernel_rfl)) (sat1 hb) ?_
  refine g_run 9999 [] 0 (by kernel_rfl) ?_
  refine g_new (fun b => by kernel_rfl) fun b1 hb1 => ?_
  refine g_new (fun b => by kernel_rfl) fun b2 hb2 => ?_
  refine g_run 6 [] 0 (by kernel_rfl) ?_
  refine g_val _ _ ?_ (fun w _hs => nat_succ (P := Try.prog) (t := 3) (x := .tmp 5) (y := .const (.int .i64 1)) (m := at_) (w := w) (by kernel_rfl) (by omega)) ?_
  · kernel_rfl
  refine g_run 10 ([1]) 0 (by kernel_rfl) ?_
  refine g_val _ _ ?_ (fun w _hs => idx_run (P := Try.prog) (T := 25) (E := 3) (b := bb) (o := 0) (n := n) (c := n) (k := at_) (sz := 1) (kk := .i64) w (by kernel_rfl) (by kernel_rfl) ha) ?_
  · kernel_rfl
  refine g_val _ _ ?_ (fun w _hs => Sat.objload1 (T := 3) (T' := 3) (i := 0) (b := bb) (k := 0 + at_ * 1) (own := false) (cs := behC beh) (v := .int .i64 (e : Int)) _hs (by kernel_rfl) (he ▸ behC_get (by omega)) (by kernel_rfl)) ?_
  · kernel_rfl
  refine g_val _ _ ?_ (fun w _hs => bin_run (P := Try.prog) (op := .sub) (t := 3) (x := .tmp 11) (y := .const (.int .i64 1)) (a := .int .i64 (e : Int)) (b := .int .i64 1) (v := .int .i64 (IntKind.wrap .i64 ((e : Int) - 1))) (v' := .int .i64 ((e - 1 : Nat) : Int)) (w := w) (by kernel_rfl) (by rw [wrap_i64 (by omega) (by omega), show (e : Int) - 1 = ((e - 1 : Nat) : Int) by omega])) ?_
  · kernel_rfl
  refine g_run 9999 ([2, 2]) 0 (by kernel_rfl) ?_
  refine g_ret ([2, 2]) (Value.agg (Array.mk [Value.int IntKind.i64 (↑(at_ + 1) : Int), Value.int IntKind.i64 (↑(e - 1) : Int)])) (by kernel_rfl) (by kernel_rfl) (by kernel_rfl) fun w' hs => ?_
  exact ⟨rfl, hs.kept.kept⟩
set_option maxRecDepth 100000 in
set_option maxHeartbeats 4000000 in
theorem item_any (l : List Nod) (bl ol cl : Nat) (W : Wk) (hG : Good l W) (at_ e : Nat) (ha : at_ < l.length) (he : W.beh.getD at_ 0 = e) (h0 : e ≠ 0) (w : World) (hq : Sat w [] [.row bl ol 19 l.length (rowOf l)] w) :
    Calls Try.prog 48 #[.slice (some ⟨bl, ol, none⟩) l.length cl, .int .i64 (at_ : Int)] w fun e' w' => e' = .returned (.tuple #[.int .i64 (e : Int), .int .i64 0]) ∧ Kept w w' := by
  have hlen := (good_ch hG.walk hG.os).2
  refine g_enter (args := [.slice (some ⟨bl, ol, none⟩) l.length cl, .int .i64 (at_ : Int)]) [] [.row bl ol 19 l.length (rowOf l)] Try.func48 rfl Try.ntmps48 (Nat.le_of_ble_eq_true (by kernel_rfl)) hq ?_
  refine g_run 9999 [] 0 (by kernel_rfl) ?_
  refine g_call (X := Nat) _ _ ?_ (fun bb => .tuple #[.agg #[.slice (some ⟨bl, ol, none⟩) l.length cl, .slice (some ⟨bb, 0, none⟩) l.length l.length], .int .i64 0]) (fun bb => [.row bl ol 19 l.length (rowOf l)] ++ [.obj true bb (behC W.beh) 3])
    (fun w1 hs => (outline_ok l bl ol cl w1 (hs.read [0] [.row bl ol 19 l.length (rowOf l)] (by kernel_rfl)) W hG.le hG.whole hG.walk hG.d).mono fun e w2 ⟨bb, h1, h2, h3, h4⟩ => ⟨bb, h1, (Sat.at hs (by kernel_rfl)).more (Sat.one h4 h2 h3) (by simp [HE.own])⟩) (fun bb => ?_)
  · kernel_rfl
  refine g_run 9999 [] 0 (by kernel_rfl) ?_
  refine g_new (fun b => by kernel_rfl) fun b2 hb2 => ?_
  refine g_run 9999 (List.replicate 4 2) 1 (by kernel_rfl) ?_
  refine g_callq _ _ _ ?_ (fun w hs => begins_yes W.beh bb (some ⟨bl, ol, none⟩) l.length cl l.length at_ hlen ha (he ▸ h0) w (hs.obj (o := true) (i := 1) (by kernel_rfl))) ?_
  · kernel_rfl
  refine g_run 23 ([2]) 1 (by kernel_rfl) ?_
  refine g_val _ _ ?_ (fun w _hs => idx_run (P := Try.prog) (T := 25) (E := 3) (b := bb) (o := 0) (n := l.length) (c := l.length) (k := at_) (sz := 1) (kk := .i64) w (by kernel_rfl) (by kernel_rfl) ha) ?_
  · kernel_rfl
  refine g_val _ _ ?_ (fun w _hs => Sat.objload1 (T := 3) (T' := 3) (i := 1) (b := bb) (k := 0 + at_ * 1) (own := true) (cs := behC W.beh) (v := .int .i64 (e : Int)) _hs (by kernel_rfl) (he ▸ behC_get (by omega)) (by kernel_rfl)) ?_
  · kernel_rfl
  refine g_run 9999 [] 0 (by kernel_rfl) ?_
  refine g_ret [] (Value.tuple (Array.mk [Value.int IntKind.i64 (↑e : Int), Value.int IntKind.i64 0])) (by kernel_rfl) (by kernel_rfl) (by kernel_rfl) fun w' hs => ?_
  exact ⟨rfl, hs.kept.kept⟩
end Go.Proofs.Ytohbomeodcjenaa
