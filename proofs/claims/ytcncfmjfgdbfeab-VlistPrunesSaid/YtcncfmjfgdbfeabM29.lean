/- Fast15 REn. -/
import Derived.Test.YtcncfmjfgdbfeabFast11
import Derived.Test.YtcncfmjfgdbfeabM12
import Derived.Test.YtcncfmjfgdbfeabM28
import Derived.Test.YtcncfmjfgdbfeabFast13
namespace Go.Proofs.Ytcncfmjfgdbfeab
open Go.RowKit
noncomputable section
section
variable {P : Program}
theorem rowsL_eq {f g : Nat → List Value} {s t m : Nat} (h : ∀ q, q < m → f (s + q) = g (t + q)) : rowsL f s m = rowsL g t m := by
 induction m with
 | zero => simp [rowsL]
 | succ m ih => rw [rowsL_succ, rowsL_succ, ih (fun q hq => h q (by omega)), h m (by omega)]
theorem rowsL_two (f : Nat → List Value) (s m n : Nat) : rowsL f s (m + n) = rowsL f s m ++ rowsL f (s + m) n := by
 induction n with
 | zero => simp [rowsL]
 | succ n ih => rw [← Nat.add_assoc, rowsL_succ, ih, rowsL_succ, List.append_assoc, Nat.add_assoc]
theorem seg_run {T E : TypeId} {b o n c s e sz : Nat} {kk kl : IntKind} (w : World) (hT : P.underlying T = some (.slice E)) (hs : cellsN P E = some sz) (hse : s ≤ e) (hn : e ≤ c) :
  (sliceSem T (.slice (some ⟨b, o, none⟩) n c) (some (.int kk s)) (some (.int kl e)) none).run P w = .ok (.value (.slice (some (tailA b o s sz c)) (e - s) (c - s))) w := by
 have hu : (underlying T).run P w = .ok (.slice E) w := by simp [underlying, program, hT, Sem.run, Result.andThen]
 obtain ⟨i, hi, hsz⟩ := Option.map_eq_some_iff.1 hs
 have hz : (sizeOf E).run P w = .ok sz w := by simp [sizeOf, typeInfo, program, hi, hsz, Sem.run, Result.andThen]
 have hb : (Instr.sliceBounds true n c (some (.int kk s)) (some (.int kl e)) none).run P w = .ok (s, e, c) w := by
  have h0 : (0 : Int) ≤ s ∧ (s : Int) ≤ e := by omega
  have h1 : (0 : Int) ≤ e ∧ (e : Int) ≤ c := by omega
  simp [Instr.sliceBounds, Instr.sliceBound, asIntOf, h0, h1, hse, hn]
 unfold tailA
 by_cases he : c = s
 ·subst he
  simp [sliceSem, Instr.sliceAt, Instr.slice, hu, hz, hb, Result.andThen]
 simp [sliceSem, Instr.sliceAt, Instr.slice, hu, hz, hb, Result.andThen, he, add_addr]
theorem run_append_none {t ty e : TypeId} {i : TypeInfo} {w : World} (ht : P.underlying t = some (.slice e)) (hi : P.info? e = some i) (x : Option Addr) (c : Nat) :
  (Builtin.append_ #[t, t] ty #[.slice none 0 0, .slice x 0 c]).run P w = .ok (.slice none 0 0) w := by
 cases x with
 | none => simp [Builtin.append_, run_underlying ht, sizeOf, typeInfo, hi, Builtin.lenOf, Builtin.firstCells]
 | some a => simp [Builtin.append_, run_underlying ht, sizeOf, typeInfo, hi, Builtin.lenOf, Builtin.firstCells, loadCells, loadCellsFrom]
end
section
variable {F : Fence} {mm : Nat} {P : Program} {fin : Fin} {w0 : World} {bs : List Nat} {st : St}
theorem g_anyW {X : Type} (s : Sem Next) (val : X → Value) (hp' : X → List HE) (h : headSem st = some s)
  (C : ∀ w, Sat w0 bs st.hp w → ∃ x w', s.run P w = .ok (.value (val x)) w' ∧ Sat w0 bs (hp' x) w')
  (g : ∀ x, Goal F mm P fin w0 bs (retSt st (val x) (hp' x))) : Goal F mm P fin w0 bs st := by
 refine ⟨fun hF a w hr hw => ?_⟩
 obtain ⟨x, w', hx, hs⟩ := C w hw
 have hg := g x
 obtain ⟨n, ds, ops, l, k, t, hp⟩ := st
 unfold headSem at h
 unfold retSt at hg
 simp only at h hr hw hg ⊢
 cases l with
 | nil => cases h
 | cons o rest =>
  simp only at h hg
  split at h
  ·rename_i hwn
   unfold wpListIn
   rw [hr.wanted hwn, if_pos rfl]
   refine ⟨fun f _ => hF.fn f, ?_⟩
   rw [Oper.semAt_eq _ _ _ (noDefer (opSem_noSel h)), hr.opSem h, hx]
   exact hg.out hF _ _ (hr.put _ _) hs
  cases h
def appSem (t ty : TypeId) (x y : Value) : Sem Next := do
 let v ← Builtin.append_ #[t, t] ty #[x, y]
 pure (.value v)
theorem app_of {t ty : TypeId} {x y v : Value} {w w' : World} (h : (Builtin.append_ #[t, t] ty #[x, y]).run P w = .ok v w') : (appSem t ty x y).run P w = .ok (.value v) w' := by
 simp [appSem, h, Result.andThen]
structure CopyX (w0 : World) (f : Nat → List Value) (s m sz : Nat) where
 b : Nat
 cap : Nat
 cs : List Value
 new : w0.heap.size ≤ b
 le : m ≤ cap
 len : cs.length = cap * sz
 row : cs.take (m * sz) = rowsL f s m
theorem appN_run {t ty E : TypeId} {sz m c s bx off n by_ j : Nat} {ax : Option Addr} {f : Nat → List Value} {hp : List HE} {w : World} (hw : Sat w0 bs hp w)
  (ht : P.underlying t = some (.slice E)) (hz : ∃ ti z, P.info? E = some ti ∧ ti.zero = some z ∧ ti.size = sz ∧ ti.bytes = by_ ∧ z.cells.size = sz)
  (hj : hp[j]? = some (.row bx off sz n f)) (hf : ∀ k, (f k).length = sz) (hsm : s + m ≤ n) (hm : 0 < m) (hax : ax = some ⟨bx, off + s * sz, none⟩) (hbig : m ≤ 9223372036854775807) (hbytes : m * by_ ≤ 140737488355328) :
  ∃ (x : CopyX w0 f s m sz) (w' : World), (appSem t ty (.slice none 0 0) (.slice ax m c)).run P w = .ok (.value (.slice (some ⟨x.b, 0, none⟩) m x.cap)) w' ∧ Sat w0 bs (hp ++ [.obj true x.b x.cs E]) w' := by
 obtain ⟨ti, z, hti, hzero, hsize, hby, hzs⟩ := hz
 subst hsize
 subst hby
 subst hax
 have hzc : ∀ k, (Builtin.zeroCells z.cells k).size = k * ti.size := fun k => by simp [Builtin.zeroCells, hzs]
 have hnl := rowsL_length hf s m
 have hnews : ∀ k v, (rowsL f s m)[k]? = some v → w.cell? (Addr.add ⟨bx, off + s * ti.size, none⟩ k) = some v := fun k v hv => by
  obtain ⟨q, r, h1, h2, h3⟩ := rowsL_get hf s m k v hv
  have := hw.rowcell hj (k := s + q) (by omega) h3
  rw [add_addr, h2]
  rw [show off + s * ti.size + (q * ti.size + r) = off + (s + q) * ti.size + r by rw [Nat.add_mul]; omega]
  exact this
 have hrun := run_append_nil (P := P) (w := w) t ty E ti z ht hti hzero ⟨bx, off + s * ti.size, none⟩ m c (rowsL f s m) hnl hnews hm (by omega) (by omega)
 have hge := grownCap_ge w m 0 E
 refine ⟨⟨w.heap.size, grownCap w m 0 E, rowsL f s m ++ (Builtin.zeroCells z.cells (grownCap w m 0 E - m)).toList, hw.kept.size, hge, ?_, ?_⟩, _, app_of hrun, ?_⟩
 ·simp only [List.length_append, hnl, Array.length_toList, hzc]
  rw [← Nat.add_mul]
  congr 1
  omega
 ·rw [← hnl, List.take_left']
  rfl
 have h0 : Sat w0 bs hp w.drew := hw.draw _
 have := h0.alloc (rowsL f s m ++ (Builtin.zeroCells z.cells (grownCap w m 0 E - m)).toList) E
 have e : (rowsL f s m ++ (Builtin.zeroCells z.cells (grownCap w m 0 E - m)).toList).toArray = (rowsL f s m).toArray ++ Builtin.zeroCells z.cells (grownCap w m 0 E - m) := by simp
 rw [e] at this
 exact this
structure GrowX (w0 : World) (bs : List Nat) (f : Nat → List Value) (s m sz len : Nat) (cs : List Value) where
 b : Nat
 cap : Nat
 cs' : List Value
 new : w0.heap.size ≤ b ∨ b ∈ bs
 le : len + m ≤ cap
 len' : cs'.length = cap * sz
 row : cs'.take ((len + m) * sz) = cs.take (len * sz) ++ rowsL f s m
theorem appRow_run {t ty E : TypeId} {base : Option Addr} {i len cap sz m c s bx off n by_ j : Nat} {ax : Option Addr} {f : Nat → List Value} {cs : List Value} {hp : List HE} {w : World} (hw : Sat w0 bs hp w)
  (ht : P.underlying t = some (.slice E)) (hz : ∃ ti z, P.info? E = some ti ∧ ti.zero = some z ∧ ti.size = sz ∧ ti.bytes = by_ ∧ z.cells.size = sz) (hr : RowAt hp i base len cap sz cs E)
  (hj : hp[j]? = some (.row bx off sz n f)) (hf : ∀ k, (f k).length = sz) (hn1 : ∀ k, ∀ u ∈ f k, u.oneCell' = true) (hsm : s + m ≤ n) (hm : 0 < m) (hax : ax = some ⟨bx, off + s * sz, none⟩) (hbig : len + m ≤ 9223372036854775807) (hbytes : (len + m) * by_ ≤ 140737488355328) :
  ∃ (x : GrowX w0 bs f s m sz len cs) (w' : World), (appSem t ty (.slice base len cap) (.slice ax m c)).run P w = .ok (.value (.slice (some ⟨x.b, 0, none⟩) (len + m) x.cap)) w' ∧ Sat w0 bs (hp.set i (.obj true x.b x.cs' E)) w' := by
 obtain ⟨ti, z, hti, hzero, hsize, hby, hzs⟩ := hz
 subst hsize
 subst hby
 subst hax
 have hzc : ∀ k, (Builtin.zeroCells z.cells k).size = k * ti.size := fun k => by simp [Builtin.zeroCells, hzs]
 have hnl := rowsL_length hf s m
 have hnews : ∀ k v, (rowsL f s m)[k]? = some v → w.cell? (Addr.add ⟨bx, off + s * ti.size, none⟩ k) = some v := fun k v hv => by
  obtain ⟨q, r, h1, h2, h3⟩ := rowsL_get hf s m k v hv
  have := hw.rowcell hj (k := s + q) (by omega) h3
  rw [add_addr, h2]
  rw [show off + s * ti.size + (q * ti.size + r) = off + (s + q) * ti.size + r by rw [Nat.add_mul]; omega]
  exact this
 have hnone : ∀ u ∈ rowsL f s m, u.oneCell' = true := fun u hu => by
  obtain ⟨k, hk⟩ := List.mem_iff_getElem?.1 hu
  obtain ⟨q, r, _, _, h3⟩ := rowsL_get hf s m k u hk
  exact hn1 _ u (List.mem_of_getElem? h3)
 obtain ⟨hil, hrow⟩ := hr
 rcases hrow with ⟨rfl, rfl, rfl⟩ | ⟨b, rfl, hb, hlen, hle⟩
 ·have hrun := run_append_nil (P := P) (w := w) t ty E ti z ht hti hzero ⟨bx, off + s * ti.size, none⟩ m c (rowsL f s m) hnl hnews hm (by omega) (by rw [Nat.zero_add] at hbytes; omega)
  have hge := grownCap_ge w m 0 E
  refine ⟨⟨w.heap.size, grownCap w m 0 E, rowsL f s m ++ (Builtin.zeroCells z.cells (grownCap w m 0 E - m)).toList, .inl hw.kept.size, by omega, ?_, ?_⟩, _, (app_of hrun).trans (congrArg (fun q => Result.ok (Next.value (Value.slice (some ⟨w.heap.size, 0, none⟩) q (grownCap w m 0 E))) _) (Nat.zero_add m).symm), ?_⟩
  ·simp only [List.length_append, hnl, Array.length_toList, hzc]
   rw [← Nat.add_mul]
   congr 1
   omega
  ·rw [Nat.zero_mul, List.take_zero, List.nil_append, Nat.zero_add, ← hnl, List.take_left']
   rfl
  have := hw.swap i (rowsL f s m ++ (Builtin.zeroCells z.cells (grownCap w m 0 E - m)).toList) E
  have e : (rowsL f s m ++ (Builtin.zeroCells z.cells (grownCap w m 0 E - m)).toList).toArray = (rowsL f s m).toArray ++ Builtin.zeroCells z.cells (grownCap w m 0 E - m) := by simp
  rw [e] at this
  exact this
 by_cases hroom : len + m ≤ cap
 ·have hrun := run_append_room (P := P) (w := w) t ty E ti ht hti b len cap cs.toArray (hw.obj hb) ⟨bx, off + s * ti.size, none⟩ m c (rowsL f s m) hnl hnews hnone hroom (by
   have := Nat.mul_le_mul_right ti.size hroom
   rw [Nat.add_mul] at this
   simp only [List.size_toArray, hnl, hlen]
   omega)
  have hroom2 : len * ti.size + m * ti.size ≤ cap * ti.size := by rw [← Nat.add_mul]; exact Nat.mul_le_mul_right _ hroom
  have htl : (cs.take (len * ti.size)).length = len * ti.size := by rw [List.length_take, hlen]; omega
  refine ⟨⟨b, cap, cs.take (len * ti.size) ++ rowsL f s m ++ cs.drop (len * ti.size + (rowsL f s m).length), (hw.holds _ (List.mem_of_getElem? hb)).2 rfl, hroom, ?_, ?_⟩, _, app_of hrun, ?_⟩
  ·simp only [List.length_append, htl, List.length_drop, hnl, hlen]
   omega
  ·rw [Nat.add_mul, ← hnl, ← htl, ← List.length_append, List.take_left']
   rw [htl]
  refine hw.setObj hb rfl rfl rfl (by simp [World.setRow]) ?_ (fun k hk => ?_)
  ·exact setRow_heap w b cs.toArray _ E (0, 0) (hw.obj hb)
  simp only [World.setRow, Array.getElem?_modify]
  rw [if_neg (fun e => hk e.symm)]
 have holds : ∀ k v, (cs.take (len * ti.size))[k]? = some v → w.cell? (Addr.add ⟨b, 0, none⟩ k) = some v := fun k v hv => by
  rw [add_addr, Nat.zero_add]
  refine cell_obj (hw.obj hb) ?_
  rw [List.getElem?_take] at hv
  by_cases hk : k < len * ti.size
  ·rw [if_pos hk] at hv; exact hv
  rw [if_neg hk] at hv; cases hv
 have hlo : (cs.take (len * ti.size)).length = len * ti.size := by
  rw [List.length_take, hlen]
  exact Nat.min_eq_left (Nat.mul_le_mul_right _ hle)
 have hrun := run_append_grow (P := P) (w := w) t ty E ti z ht hti hzero ⟨b, 0, none⟩ len cap _ hlo holds ⟨bx, off + s * ti.size, none⟩ m c (rowsL f s m) hnl hnews (by omega) (by omega) (growslice_fits (by omega) hbytes)
 have hge := grownCap_ge w (len + m) cap E
 refine ⟨⟨w.heap.size, grownCap w (len + m) cap E, cs.take (len * ti.size) ++ rowsL f s m ++ (Builtin.zeroCells z.cells (grownCap w (len + m) cap E - (len + m))).toList, .inl hw.kept.size, hge, ?_, ?_⟩, _, app_of hrun, ?_⟩
 ·simp only [List.length_append, hlo, hnl, Array.length_toList, hzc]
  rw [← Nat.add_mul, ← Nat.add_mul]
  congr 1
  omega
 ·rw [Nat.add_mul, ← hnl, ← hlo, ← List.length_append, List.take_left']
  rw [hlo]
 have := hw.swap i (cs.take (len * ti.size) ++ rowsL f s m ++ (Builtin.zeroCells z.cells (grownCap w (len + m) cap E - (len + m))).toList) E
 have e : (cs.take (len * ti.size) ++ rowsL f s m ++ (Builtin.zeroCells z.cells (grownCap w (len + m) cap E - (len + m))).toList).toArray = (cs.take (len * ti.size)).toArray ++ (rowsL f s m).toArray ++ Builtin.zeroCells z.cells (grownCap w (len + m) cap E - (len + m)) := by simp
 rw [e] at this
 exact this
theorem app0_run {t ty E : TypeId} {ti : TypeInfo} {ax : Option Addr} {c : Nat} {w : World} (ht : P.underlying t = some (.slice E)) (hi : P.info? E = some ti) :
  (appSem t ty (.slice none 0 0) (.slice ax 0 c)).run P w = .ok (.value (.slice none 0 0)) w := by
 simp [appSem, run_append_none ht hi, Result.andThen]
def makeSem (t : TypeId) (x y : Value) : Sem Next := do
 let v ← Instr.makeSlice t x y
 pure (.value v)
theorem make_of {t : TypeId} {x y v : Value} {w w' : World} (h : (Instr.makeSlice t x y).run P w = .ok v w') : (makeSem t x y).run P w = .ok (.value v) w' := by
 simp [makeSem, h, Result.andThen]
theorem make_run {t E : TypeId} {ti : TypeInfo} {z : Value} {l n : Nat} {hp : List HE} {w : World} (hw : Sat w0 bs hp w) (ht : P.underlying t = some (.slice E)) (hti : P.info? E = some ti) (hzero : ti.zero = some z) (hl : l ≤ n)
  (hb : ti.bytes * n ≤ 281474976710656) (hn : n ≤ 9223372036854775807) :
  ∃ (x : { b : Nat // w0.heap.size ≤ b }) (w' : World), (makeSem t (.int .i64 (l : Int)) (.int .i64 (n : Int))).run P w = .ok (.value (.slice (some ⟨x.1, 0, none⟩) l n)) w' ∧ Sat w0 bs (hp ++ [.obj true x.1 (madeCells z.cells (n * ti.size)).toList E]) w' := by
 have hm := run_make (P := P) w t E ti z ht hti hzero .i64 .i64 l n (by omega) (by omega) (by
  have h4 : ((ti.bytes * n : Nat) : Int) ≤ 281474976710656 := by omega
  rwa [Int.natCast_mul] at h4) (by omega)
 rw [Int.toNat_natCast, Int.toNat_natCast] at hm
 exact ⟨⟨w.heap.size, hw.kept.size⟩, _, make_of hm, hw.alloc (madeCells z.cells (n * ti.size)).toList E⟩
structure MadeX (w0 : World) (n sz : Nat) where
 b : Nat
 cs : List Value
 new : w0.heap.size ≤ b
 len : cs.length = n * sz
theorem makeX_run {t E : TypeId} {l n sz by_ : Nat} {hp : List HE} {w : World} (hw : Sat w0 bs hp w) (ht : P.underlying t = some (.slice E)) (hz : ∃ ti z, P.info? E = some ti ∧ ti.zero = some z ∧ ti.size = sz ∧ ti.bytes = by_ ∧ z.cells.size = sz) (hl : l ≤ n)
  (hb : by_ * n ≤ 281474976710656) (hn : n ≤ 9223372036854775807) :
  ∃ (x : MadeX w0 n sz) (w' : World), (makeSem t (.int .i64 (l : Int)) (.int .i64 (n : Int))).run P w = .ok (.value (.slice (some ⟨x.b, 0, none⟩) l n)) w' ∧ Sat w0 bs (hp ++ [.obj true x.b x.cs E]) w' := by
 obtain ⟨ti, z, hti, hzero, hsize, hby, _⟩ := hz
 subst hsize
 subst hby
 obtain ⟨x, w', h1, h2⟩ := make_run hw ht hti hzero hl hb hn
 exact ⟨⟨x.1, _, x.2, by rw [Array.length_toList, size_madeCells]⟩, w', h1, h2⟩
theorem rowAt_own {hp : List HE} {i b len cap sz : Nat} {cs : List Value} {E : TypeId} (h : hp[i]? = some (.obj true b cs E)) (hc : cs.length = cap * sz) (hl : len ≤ cap) : RowAt hp i (some ⟨b, 0, none⟩) len cap sz cs E :=
 ⟨(List.getElem?_eq_some_iff.1 h).1, .inr ⟨b, rfl, h, hc, hl⟩⟩
theorem Sat.moreRow {w w' : World} {hp : List HE} {b o sz n : Nat} {f : Nat → List Value} (h : Sat w0 bs hp w) (k : Sat w [] [.row b o sz n f] w') (hn : 0 < n → w.heap.size ≤ b) : Sat w0 bs (hp ++ [.row b o sz n f]) w' := by
 have h' := h.of_kept k.kept.kept
 refine ⟨h'.kept, fun e he => ?_, fun i j e e' hij hi hj ho hl => ?_⟩
 ·rcases List.mem_append.1 he with he | he
  ·exact h'.holds e he
  rw [List.mem_singleton.1 he]
  exact k.holds _ (List.mem_singleton.2 rfl)
 rcases Nat.lt_or_ge i hp.length with q | q
 ·rw [List.getElem?_append_left q] at hi
  rcases Nat.lt_or_ge j hp.length with q' | q'
  ·rw [List.getElem?_append_left q'] at hj
   exact h'.apart i j e e' hij hi hj ho hl
  rw [List.getElem?_append_right q'] at hj
  have e1 := List.mem_singleton.1 (List.mem_of_getElem? hj)
  subst e1
  have hlive : e.live := by
   cases e with
   | obj => trivial
   | row => cases ho
  have h1 := HE.holds_lt (h.holds e (List.mem_of_getElem? hi)) hlive
  have h2 := hn hl
  show e.blk ≠ b
  omega
 rw [List.getElem?_append_right q] at hi
 have e1 := List.mem_singleton.1 (List.mem_of_getElem? hi)
 subst e1
 cases ho
theorem Sat.oneRow {w w' : World} {b o sz n : Nat} {f : Nat → List Value} (k : Kept w w') (h : Sat w' [] [.row b o sz n f] w') : Sat w [] [.row b o sz n f] w' :=
 ⟨.of_kept k, fun e he => by
  have h1 := h.holds (.row b o sz n f) (List.mem_singleton.2 rfl)
  rw [List.mem_singleton.1 he]
  exact h1, h.apart⟩
end
end
end Go.Proofs.Ytcncfmjfgdbfeab
namespace Go.Proofs.Ytcncfmjfgdbfeab
set_option maxRecDepth 100000
set_option maxHeartbeats 4000000
open Go.RowKit
theorem ropensv_any (n : Nod) (w : World) (b : Bool) (e : enters n.kind = b) : Calls Try.prog 72 #[nodV n] w fun e w' => e = .returned (.bool b) ∧ Kept w w' := by
 rw [← e]; exact ropens_any n w
theorem nodeLoad {l : List Nod} {bl ol k j : Nat} {w0 w : World} {bs : List Nat} {hp : List HE} (hw : Sat w0 bs hp w) (hj : hp[j]? = some (.row bl ol 19 l.length (rowOf l))) (hk : k < l.length) :
  (loadSem 55 (.pointer (some ⟨bl, ol + k * 19, none⟩))).run Try.prog w = .ok (.value (nodV (nth l k))) w :=
 Sat.rowload (T := 55) (i := j) (b := bl) (off := ol) (sz := 19) (n := l.length) (f := rowOf l) hw hj hk kR kR rfl
theorem kindLoad {l : List Nod} {bl ol k j : Nat} {w0 w : World} {bs : List Nat} {hp : List HE} (hw : Sat w0 bs hp w) (hj : hp[j]? = some (.row bl ol 19 l.length (rowOf l))) (hk : k < l.length) :
  (loadSem 3 (.pointer (some ⟨bl, ol + k * 19, none⟩))).run Try.prog w = .ok (.value (.int .i64 (nth l k).kind)) w :=
 Sat.rowload1 (T := 3) (i := j) (b := bl) (off := ol) (sz := 19) (n := l.length) (f := rowOf l) (j := 0) hw hj hk kR rfl
theorem of_end {k : Int} (h : (k == 6) = true) : k = 6 := by simpa using h
theorem not_end {k : Int} (h : (k == 6) = false) : k ≠ 6 := by simpa using h
theorem ret_nat {a b : Nat} (h : a = b) : Ending.returned (.int .i64 ((a : Nat) : Int)) = Ending.returned (.int .i64 (b : Int)) := by rw [h]
theorem down1 {i e : Nat} (h : i < e) : e - (i + 1) < e - i := by omega
theorem n_small {n : Nat} (h : n ≤ 2000) : n < 9223372036854775807 := by omega
theorem sub_one {n : Nat} (h : n ≤ 2000) (h1 : 1 ≤ n) (w : World) : (binSem .sub 3 (.tmp 31) (.const (.int .i64 1)) (.int .i64 (n : Int)) (.int .i64 1)).run Try.prog w = .ok (.value (.int .i64 ((n - 1 : Nat) : Int))) w :=
 bin_run (v := .int .i64 (IntKind.wrap .i64 ((n : Int) - 1))) kR (by rw [wrap_i64 (by omega) (by omega), show (n : Int) - 1 = ((n - 1 : Nat) : Int) by omega])
theorem one_of {n : Nat} (h : (((n - 1 : Nat) : Int) == 0) = true) (h1 : 1 ≤ n) : n = 1 := by simp at h; omega
theorem two_of {n : Nat} (h : (((n - 1 : Nat) : Int) == 0) = false) : 1 < n := by simp at h; omega
theorem rends_one (l : List Nod) (bl ol cl p : Nat) (hp : p < l.length) (hl : l.length ≤ 2000) (hen : enters (nth l p).kind = false) (w : World) (hq : Sat w [] [.row bl ol 19 l.length (rowOf l)] w) :
  Calls Try.prog 55 #[.slice (some ⟨bl, ol, none⟩) l.length cl, .int .i64 (p : Int)] w fun e' w' => e' = .returned (.int .i64 ((p + 1 : Nat) : Int)) ∧ Kept w w' := by
 refine g_enter (args := [.slice (some ⟨bl, ol, none⟩) l.length cl, .int .i64 (p : Int)]) [] [.row bl ol 19 l.length (rowOf l)] Try.func55 rfl Try.ntmps55 kL hq ?_
 refine gU 9 [] 0 ?_
 refine g_val _ _ ?_ (fun w _hs => idx_run (P := Try.prog) (T := 22) (E := 55) (b := bl) (o := ol) (n := l.length) (c := cl) (k := p) (sz := 19) (kk := .i64) w kR kR hp) ?_
 ·kernel_rfl
 refine g_val _ _ ?_ (fun w _hs => nodeLoad (l := l) (bl := bl) (ol := ol) (k := p) (j := 0) _hs kR hp) ?_
 ·kernel_rfl
 refine g_callq _ _ _ ?_ (fun w hs => ropensv_any (nth l p) w false hen) ?_
 ·kernel_rfl
 refine gU 14 [] 1 ?_
 refine g_val _ _ ?_ (fun w _hs => nat_succ (P := Try.prog) (t := 3) (x := .tmp 13) (y := .const (.int .i64 1)) (m := p) (w := w) kR (by omega)) ?_
 ·kernel_rfl
 refine g0 ?_
 refine gR (Value.int IntKind.i64 (↑(p + 1) : Int)) fun w' hs => ?_
 exact ⟨rfl, hs.kk⟩
theorem rends_open (l : List Nod) (bl ol cl p e : Nat) (I : Itm l p e) (hp : p < l.length) (hl : l.length ≤ 2000) (hen : enters (nth l p).kind = true) (w : World) (hq : Sat w [] [.row bl ol 19 l.length (rowOf l)] w) :
  Calls Try.prog 55 #[.slice (some ⟨bl, ol, none⟩) l.length cl, .int .i64 (p : Int)] w fun e' w' => e' = .returned (.int .i64 (e : Int)) ∧ Kept w w' := by
 refine g_enter (args := [.slice (some ⟨bl, ol, none⟩) l.length cl, .int .i64 (p : Int)]) [] [.row bl ol 19 l.length (rowOf l)] Try.func55 rfl Try.ntmps55 kL hq ?_
 refine gU 9 [] 0 ?_
 refine g_val _ _ ?_ (fun w _hs => idx_run (P := Try.prog) (T := 22) (E := 55) (b := bl) (o := ol) (n := l.length) (c := cl) (k := p) (sz := 19) (kk := .i64) w kR kR hp) ?_
 ·kernel_rfl
 refine g_val _ _ ?_ (fun w _hs => nodeLoad (l := l) (bl := bl) (ol := ol) (k := p) (j := 0) _hs kR hp) ?_
 ·kernel_rfl
 refine g_callq _ _ _ ?_ (fun w hs => ropensv_any (nth l p) w true hen) ?_
 ·kernel_rfl
 refine gA [] 1 ?_
 refine g_loopN (X := EX l p e) (fun x => [(5, .int .i64 (x.n : Int)), (6, .int .i64 (x.i : Int))]) (fun _ => [.row bl ol 19 l.length (rowOf l)]) (fun x => e - x.i) ⟨p, 0, Nat.le_refl _, I.lt, balS_same⟩ kR (by unfold Known; kernel_rfl) kR fun x N hN => ?_
 have hlt := x.lt
 have hx : x.i < l.length := Nat.lt_of_lt_of_le x.lt I.le
 have hn := x.small I hl
 refine gU 20 [] 0 ?_
 refine g_val _ _ ?_ (fun w _hs => idx_run (P := Try.prog) (T := 22) (E := 55) (b := bl) (o := ol) (n := l.length) (c := cl) (k := x.i) (sz := 19) (kk := .i64) w kR kR hx) ?_
 ·kernel_rfl
 refine g_val _ _ ?_ (fun w _hs => nodeLoad (l := l) (bl := bl) (ol := ol) (k := x.i) (j := 0) _hs kR hx) ?_
 ·kernel_rfl
 refine g_callq _ _ _ ?_ (fun w hs => ropens_any (nth l x.i) w) ?_
 ·kernel_rfl
 refine g_dec 22 (enters (nth l x.i).kind) kR (fun h22 => ?_) (fun h22 => ?_)
 ·refine gU 24 [] 1 ?_
  refine g_val _ _ ?_ (fun w _hs => nat_succ (P := Try.prog) (t := 3) (x := .tmp 23) (y := .const (.int .i64 1)) (m := x.n) (w := w) kR (n_small hn)) ?_
  ·kernel_rfl
  refine gU 27 [] 0 ?_
  refine g_val _ _ ?_ (fun w _hs => idx_run (P := Try.prog) (T := 22) (E := 55) (b := bl) (o := ol) (n := l.length) (c := cl) (k := x.i) (sz := 19) (kk := .i64) w kR kR hx) ?_
  ·kernel_rfl
  refine gU 29 [] 0 ?_
  refine g_val _ _ ?_ (fun w _hs => kindLoad (l := l) (bl := bl) (ol := ol) (k := x.i) (j := 0) _hs kR hx) ?_
  ·kernel_rfl
  refine g0 ?_
  refine g_dec 30 ((nth l x.i).kind == 6) kR (fun h30 => ?_) (fun h30 => ?_)
  ·exact absurd h30 (by clear hN hq; intro hx; exact (enters_no h22).1 (by simpa using hx))
  refine gU 17 [] 1 ?_
  refine g_val _ _ ?_ (fun w _hs => nat_succ (P := Try.prog) (t := 3) (x := .tmp 16) (y := .const (.int .i64 1)) (m := x.i) (w := w) kR (n_small (Nat.le_trans (Nat.le_of_lt hx) hl))) ?_
  ·kernel_rfl
  refine g0 ?_
  refine g_hook (hN (x.up I h22) (down1 hlt)) kR kR kR (by unfold Known; kernel_rfl) kR kR
 refine gU 27 [] 1 ?_
 refine g_val _ _ ?_ (fun w _hs => idx_run (P := Try.prog) (T := 22) (E := 55) (b := bl) (o := ol) (n := l.length) (c := cl) (k := x.i) (sz := 19) (kk := .i64) w kR kR hx) ?_
 ·kernel_rfl
 refine gU 29 [] 0 ?_
 refine g_val _ _ ?_ (fun w _hs => kindLoad (l := l) (bl := bl) (ol := ol) (k := x.i) (j := 0) _hs kR hx) ?_
 ·kernel_rfl
 refine g0 ?_
 refine g_dec 30 ((nth l x.i).kind == 6) kR (fun h30 => ?_) (fun h30 => ?_)
 ·refine gU 32 [] 1 ?_
  refine g_val _ _ ?_ (fun w _hs => sub_one hn (x.one I hen (of_end h30)) w) ?_
  ·kernel_rfl
  refine g0 ?_
  refine g_dec 34 ((↑(x.n - 1) : Int) == 0) kR (fun h34 => ?_) (fun h34 => ?_)
  ·refine gU 36 [] 1 ?_
   refine g_val _ _ ?_ (fun w _hs => nat_succ (P := Try.prog) (t := 3) (x := .tmp 35) (y := .const (.int .i64 1)) (m := x.i) (w := w) kR (n_small (Nat.le_trans (Nat.le_of_lt hx) hl))) ?_
   ·kernel_rfl
   refine g0 ?_
   refine gR (Value.int IntKind.i64 (↑(x.i + 1) : Int)) fun w' hs => ?_
   exact ⟨ret_nat (x.end_ I (of_end h30) (one_of h34 (x.one I hen (of_end h30)))), hs.kk⟩
  refine gU 17 [] 1 ?_
  refine g_val _ _ ?_ (fun w _hs => nat_succ (P := Try.prog) (t := 3) (x := .tmp 16) (y := .const (.int .i64 1)) (m := x.i) (w := w) kR (n_small (Nat.le_trans (Nat.le_of_lt hx) hl))) ?_
  ·kernel_rfl
  refine g0 ?_
  refine g_hook (hN (x.down I (of_end h30) (two_of h34)) (down1 hlt)) kR kR kR (by unfold Known; kernel_rfl) kR kR
 refine gU 17 [] 1 ?_
 refine g_val _ _ ?_ (fun w _hs => nat_succ (P := Try.prog) (t := 3) (x := .tmp 16) (y := .const (.int .i64 1)) (m := x.i) (w := w) kR (n_small (Nat.le_trans (Nat.le_of_lt hx) hl))) ?_
 ·kernel_rfl
 refine g0 ?_
 refine g_hook (hN (x.same I hen h22 (not_end h30)) (down1 hlt)) kR kR kR (by unfold Known; kernel_rfl) kR kR
end Go.Proofs.Ytcncfmjfgdbfeab
