/- keep.Apart, of one list. -/
import Derived.Test.YtcncfmjfgdbfeabM46
import Derived.Test.YtcncfmjfgdbfeabM12
namespace Go.Proofs.Ytcncfmjfgdbfeab
open Go.RowKit
def Marked (cs : List Value) (m : Nod) (a k : Nat) : Prop := ∀ q, a ≤ q → q < k → ∀ j v, (nodC m)[j]? = some v → cs[0 + q * 19 + j]? = some v
theorem putC_get {cs : List Value} {k : Nat} {m : Nod} (h : 0 + k * 19 + (nodC m).length ≤ cs.length) : (∀ j v, (nodC m)[j]? = some v → (putC cs k m)[0 + k * 19 + j]? = some v) ∧ ∀ i, i < 0 + k * 19 → (putC cs k m)[i]? = cs[i]? := by
 have h1 : (cs.take (0 + k * 19)).length = 0 + k * 19 := by rw [List.length_take]; omega
 refine ⟨fun j v hv => ?_, fun i hi => ?_⟩
 ·have hj := (List.getElem?_eq_some_iff.1 hv).1
  unfold putC
  rw [List.append_assoc, List.getElem?_append_right (by omega), h1, List.getElem?_append_left (by omega), show 0 + k * 19 + j - (0 + k * 19) = j by omega]
  exact hv
 unfold putC
 rw [List.append_assoc, List.getElem?_append_left (by omega), List.getElem?_take, if_pos hi]
theorem put_marked {cs : List Value} {m m2 : Nod} {a k : Nat} (h : Marked cs m a k) (hf : 0 + k * 19 + (nodC m2).length ≤ cs.length) : Marked (putC cs k m2) m a k := fun q ha hq j v hv => by
 rw [(putC_get hf).2 _ (by have hj := (List.getElem?_eq_some_iff.1 hv).1; have : (nodC m).length = 19 := rfl; omega)]
 exact h q ha hq j v hv
theorem put_more {cs : List Value} {m : Nod} {a k : Nat} (h : Marked cs m a k) (hf : 0 + k * 19 + (nodC m).length ≤ cs.length) : Marked (putC cs k m) m a (k + 1) := fun q ha hq j v hv => by
 rcases Nat.lt_or_ge q k with h1 | h1
 ·exact put_marked h hf q ha h1 j v hv
 have : q = k := by omega
 subst this
 exact (putC_get hf).1 j v hv
structure MkX (cap n : Nat) where
 k : Nat
 cs : List Value
 len : cs.length = cap * 19
 le : k ≤ n
 mkd : Marked cs (kN 1000) 0 k
def MkX.next {cap n : Nat} (x : MkX cap n) (hn : n ≤ cap) (h : x.k < n) : MkX cap n := ⟨x.k + 1, putC x.cs x.k (kN 1000), (putC_len (put_fits x.len hn h _)).trans x.len, h, put_more x.mkd (put_fits x.len hn h _)⟩
structure GX (w0 : World) (bs : List Nat) (b n : Nat) where
 k : Nat
 b' : Nat
 cap : Nat
 cs : List Value
 mv : Nat
 len : cs.length = cap * 19
 le : n + k ≤ cap
 old : Marked cs (kN 1000) 0 n
 new : Marked cs (kN 2000) n (n + k)
 own : w0.heap.size ≤ b' ∨ b' ∈ bs
 at_ : (b' = b ∧ mv = 0) ∨ mv = n
 hk : k ≤ 40
def rowMk : Nat → List Value := fun _ => nodC (kN 1000)
theorem take_marked {cs cs' : List Value} {m : Nod} {a k n : Nat} (h : Marked cs m a k) (hk : k ≤ n) (e : ∀ i, i < n * 19 → cs'[i]? = cs[i]?) : Marked cs' m a k := fun q ha hq j v hv => by
 have hj := (List.getElem?_eq_some_iff.1 hv).1
 have h1 : (nodC m).length = 19 := rfl
 rw [e _ (by have := Nat.mul_le_mul_right 19 (show q + 1 ≤ n by omega); omega)]
 exact h q ha hq j v hv
theorem left_behind {w0 w' : World} {bs : List Nat} {eS e3 : HE} {b b' mv mv' : Nat} {cs' : List Value} {T : TypeId} {f : Nat → List Value} (h : Sat w0 bs [eS, .row b 0 19 mv f, .obj true b' cs' T, e3] w') (hn : 0 < mv' → b < w'.heap.size ∧ ∀ k, k < mv' → ∀ j v, (f k)[j]? = some v → w'.cell? ⟨b, 0 + k * 19 + j, none⟩ = some v)
  (hne : 0 < mv' → b ≠ b' ∧ ∀ e ∈ [eS, e3], e.own = true → e.blk ≠ b) : Sat w0 bs [eS, .row b 0 19 mv' f, .obj true b' cs' T, e3] w' := by
 have hmem : ∀ e ∈ [eS, HE.row b 0 19 mv' f, .obj true b' cs' T, e3], e = .row b 0 19 mv' f ∨ e ∈ [eS, HE.row b 0 19 mv f, .obj true b' cs' T, e3] := fun e he => by
  simp only [List.mem_cons, List.not_mem_nil, or_false] at he ⊢
  rcases he with h | h | h | h
  ·exact .inr (.inl h)
  ·exact .inl h
  ·exact .inr (.inr (.inr (.inl h)))
  exact .inr (.inr (.inr (.inr h)))
 refine ⟨h.kept, fun e he => ?_, fun i j e e' hij hi hj ho hl => ?_⟩
 ·rcases hmem e he with rfl | he
  ·exact fun q => hn q
  exact h.holds e he
 match i, j, hi, hj, hij with
 | 1, _, hi, _, _ => simp at hi; subst hi; cases ho
 | 0, 1, hi, hj, _ => simp at hi hj; subst hi; subst hj; exact (hne hl).2 _ (by simp) ho
 | 2, 1, hi, hj, _ => simp at hi hj; subst hi; subst hj; exact fun e => (hne hl).1 e.symm
 | 3, 1, hi, hj, _ => simp at hi hj; subst hi; subst hj; exact (hne hl).2 _ (by simp) ho
 | 0, 0, _, _, hij => exact absurd rfl hij
 | 2, 2, _, _, hij => exact absurd rfl hij
 | 3, 3, _, _, hij => exact absurd rfl hij
 | 0, 2, hi, hj, _ => exact h.apart 0 2 e e' (by omega) hi hj ho hl
 | 0, 3, hi, hj, _ => exact h.apart 0 3 e e' (by omega) hi hj ho hl
 | 2, 0, hi, hj, _ => exact h.apart 2 0 e e' (by omega) hi hj ho hl
 | 2, 3, hi, hj, _ => exact h.apart 2 3 e e' (by omega) hi hj ho hl
 | 3, 0, hi, hj, _ => exact h.apart 3 0 e e' (by omega) hi hj ho hl
 | 3, 2, hi, hj, _ => exact h.apart 3 2 e e' (by omega) hi hj ho hl
 | i + 4, _, hi, _, _ => simp at hi
 | 0, j + 4, _, hj, _ => simp at hj
 | 2, j + 4, _, hj, _ => simp at hj
 | 3, j + 4, _, hj, _ => simp at hj
theorem grow_run {w0 w : World} {bs : List Nat} {b n bt bS : Nat} {csS : List Value} {TS : TypeId} (hn : n ≤ 1000000000) (x : GX w0 bs b n) (hk : x.k < 40) (hw : Sat w0 bs [.obj false bS csS TS, .row b 0 19 x.mv rowMk, .obj true x.b' x.cs 55, .obj true bt (nodC (kN 2000)) 55] w) :
  ∃ (y : GX w0 bs b n) (w' : World), y.k = x.k + 1 ∧ (appSem 22 22 (.slice (some ⟨x.b', 0, none⟩) (n + x.k) x.cap) (.slice (some ⟨bt, 0, none⟩) 1 1)).run Try.prog w = .ok (.value (.slice (some ⟨y.b', 0, none⟩) (n + y.k) y.cap)) w' ∧ Sat w0 bs [.obj false bS csS TS, .row b 0 19 y.mv rowMk, .obj true y.b' y.cs 55, .obj true bt (nodC (kN 2000)) 55] w' := by
 have ht : Try.prog.underlying 22 = some (.slice 55) := by kernel_rfl
 obtain ⟨ti, z, hti, hzero, hsize, hby, hzs⟩ : ∃ ti z, Try.prog.info? 55 = some ti ∧ ti.zero = some z ∧ ti.size = 19 ∧ ti.bytes = 160 ∧ z.cells.size = 19 := info_of kR
 have hzc : ∀ k, (Builtin.zeroCells z.cells k).size = k * 19 := fun k => by simp [Builtin.zeroCells, hzs]
 have hl : (nodC (kN 2000)).length = 19 := rfl
 have hob := hw.obj (o := true) (b := x.b') (cs := x.cs) (T := 55) (i := 2) rfl
 have hot := hw.obj (o := true) (b := bt) (cs := nodC (kN 2000)) (T := 55) (i := 3) rfl
 have hnews : ∀ k v, (nodC (kN 2000))[k]? = some v → w.cell? (Addr.add ⟨bt, 0, none⟩ k) = some v := fun k v hv => by
  rw [add_addr, Nat.zero_add]
  exact cell_obj hot hv
 have hle := x.le
 have hlen := x.len
 by_cases hroom : n + x.k + 1 ≤ x.cap
 ·have hfit : 0 + (n + x.k) * 19 + (nodC (kN 2000)).length ≤ x.cs.length := by rw [hl, hlen]; have := Nat.mul_le_mul_right 19 hroom; omega
  have hrun := run_append_room (P := Try.prog) (w := w) 22 22 55 ti ht hti x.b' (n + x.k) x.cap x.cs.toArray hob ⟨bt, 0, none⟩ 1 1 (nodC (kN 2000)) (by rw [hsize, hl]) hnews (nodC_one1 _) hroom (by
   simp only [List.size_toArray, hl, hsize, hlen]
   have := Nat.mul_le_mul_right 19 hroom
   omega)
  refine ⟨⟨x.k + 1, x.b', x.cap, putC x.cs (n + x.k) (kN 2000), x.mv, (putC_len hfit).trans hlen, hroom, ?_, ?_, x.own, x.at_, hk⟩, _, rfl, app_of hrun, ?_⟩
  ·exact take_marked (n := n + x.k) x.old (by omega) fun i hi => (putC_get hfit).2 i (by omega)
  ·exact put_more x.new hfit
  have hset : x.cs.take ((n + x.k) * ti.size) ++ nodC (kN 2000) ++ x.cs.drop ((n + x.k) * ti.size + (nodC (kN 2000)).length) = putC x.cs (n + x.k) (kN 2000) := by
   unfold putC
   rw [hsize, Nat.zero_add]
  show Sat w0 bs [.obj false bS csS TS, .row b 0 19 x.mv rowMk, .obj true x.b' (putC x.cs (n + x.k) (kN 2000)) 55, .obj true bt (nodC (kN 2000)) 55] _
  refine hw.setObj (i := 2) (b := x.b') (cs := x.cs) (cs' := putC x.cs (n + x.k) (kN 2000)) (T := 55) rfl rfl rfl rfl (by simp [World.setRow]) ?_ (fun k hk => ?_)
  ·rw [← hset]
   exact setRow_heap w x.b' x.cs.toArray _ 55 (0, 0) hob
  simp only [World.setRow, Array.getElem?_modify]
  rw [if_neg (fun e => hk e.symm)]
 have hcap : x.cap = n + x.k := by omega
 have hlo : x.cs.length = (n + x.k) * ti.size := by rw [hsize, hlen, hcap]
 have holds : ∀ k v, x.cs[k]? = some v → w.cell? (Addr.add ⟨x.b', 0, none⟩ k) = some v := fun k v hv => by
  rw [add_addr, Nat.zero_add]
  exact cell_obj hob hv
 have hrun := run_append_grow (P := Try.prog) (w := w) 22 22 55 ti z ht hti hzero ⟨x.b', 0, none⟩ (n + x.k) x.cap x.cs hlo holds ⟨bt, 0, none⟩ 1 1 (nodC (kN 2000)) (by rw [hsize, hl]) hnews (by omega) (by omega) (growslice_fits (by omega) (by rw [hby]; omega))
 have hge := grownCap_ge w (n + x.k + 1) x.cap 55
 have hpre : ∀ i, i < (n + x.k) * 19 → (x.cs ++ nodC (kN 2000) ++ (Builtin.zeroCells z.cells (grownCap w (n + x.k + 1) x.cap 55 - (n + x.k + 1))).toList)[i]? = x.cs[i]? := fun i hi => by
  rw [List.append_assoc, List.getElem?_append_left (by rw [hlo, hsize]; exact hi)]
 refine ⟨⟨x.k + 1, w.heap.size, grownCap w (n + x.k + 1) x.cap 55, x.cs ++ nodC (kN 2000) ++ (Builtin.zeroCells z.cells (grownCap w (n + x.k + 1) x.cap 55 - (n + x.k + 1))).toList, n, ?_, by omega, take_marked (n := n + x.k) x.old (by omega) hpre, ?_, .inl hw.kept.size, .inr rfl, hk⟩, _, rfl, app_of hrun, ?_⟩
 ·simp only [List.length_append, hlo, hl, Array.length_toList, hzc, hsize]
  omega
 ·intro q ha hq j v hv
  rcases Nat.lt_or_ge q (n + x.k) with h1 | h1
  ·exact take_marked (n := n + x.k) x.new (Nat.le_refl _) hpre q ha h1 j v hv
  have : q = n + x.k := by omega
  subst this
  have hj := (List.getElem?_eq_some_iff.1 hv).1
  rw [hl] at hj
  rw [List.append_assoc, List.getElem?_append_right (by rw [hlo, hsize]; omega), List.getElem?_append_left (by rw [hlo, hsize, hl]; omega), show 0 + (n + x.k) * 19 + j - x.cs.length = j by rw [hlo, hsize]; omega]
  exact hv
 have hsw := hw.swap 2 (x.cs ++ nodC (kN 2000) ++ (Builtin.zeroCells z.cells (grownCap w (n + x.k + 1) x.cap 55 - (n + x.k + 1))).toList) 55
 have e : (x.cs ++ nodC (kN 2000) ++ (Builtin.zeroCells z.cells (grownCap w (n + x.k + 1) x.cap 55 - (n + x.k + 1))).toList).toArray = x.cs.toArray ++ (nodC (kN 2000)).toArray ++ Builtin.zeroCells z.cells (grownCap w (n + x.k + 1) x.cap 55 - (n + x.k + 1)) := by simp
 rw [e] at hsw
 have hbl : 0 < n → x.mv = 0 → x.b' = b := fun h1 h2 => by
  rcases x.at_ with h | h
  ·exact h.1
  omega
 have hsz : w.heap.size ≤ (w.drew.alloc (.cells (x.cs.toArray ++ (nodC (kN 2000)).toArray ++ Builtin.zeroCells z.cells (grownCap w (n + x.k + 1) x.cap 55 - (n + x.k + 1))) 55)).heap.size := by simp
 have hkp : ∀ i, i < w.heap.size → (w.drew.alloc (.cells (x.cs.toArray ++ (nodC (kN 2000)).toArray ++ Builtin.zeroCells z.cells (grownCap w (n + x.k + 1) x.cap 55 - (n + x.k + 1))) 55)).heap[i]? = w.heap[i]? := fun i hi => by
  have := Below.heap_alloc w.drew (.cells (x.cs.toArray ++ (nodC (kN 2000)).toArray ++ Builtin.zeroCells z.cells (grownCap w (n + x.k + 1) x.cap 55 - (n + x.k + 1))) 55) i (by simpa using hi)
  exact this
 have hrow : 0 < n → b < w.heap.size ∧ ∀ k, k < n → ∀ j v, (rowMk k)[j]? = some v → w.cell? ⟨b, 0 + k * 19 + j, none⟩ = some v := fun h0 => by
  rcases x.at_ with ⟨h, h'⟩ | h
  ·rw [← h]
   exact ⟨(Array.getElem?_eq_some_iff.1 hob).1, fun k hk j v hv => cell_obj hob (x.old k (Nat.zero_le _) hk j v hv)⟩
  have h1 := hw.holds (.row b 0 19 x.mv rowMk) (by simp)
  rw [h] at h1
  exact h1 h0
 refine left_behind hsw (fun h0 => ?_) (fun h0 => ?_)
 ·obtain ⟨h1, h2⟩ := hrow h0
  refine ⟨Nat.lt_of_lt_of_le h1 hsz, fun k hk j v hv => ?_⟩
  rw [World.cell?_of_block (hkp b h1)]
  exact h2 k hk j v hv
 obtain ⟨h1, _⟩ := hrow h0
 refine ⟨by show b ≠ w.heap.size; omega, fun e he ho => ?_⟩
 simp only [List.mem_cons, List.not_mem_nil, or_false] at he
 rcases he with rfl | rfl
 ·cases ho
 show bt ≠ b
 rcases x.at_ with ⟨h, h'⟩ | h
 ·rw [← h]
  exact hw.apart 3 2 _ _ (by omega) rfl rfl rfl trivial
 have := hw.apart 3 1 _ _ (by omega) rfl rfl rfl (show 0 < x.mv by rw [h]; exact h0)
 exact this
theorem old_read {w0 w : World} {bs : List Nat} {b n k : Nat} {e0 : HE} {r : List HE} (x : GX w0 bs b n) (hk : k < n) (hw : Sat w0 bs (e0 :: .row b 0 19 x.mv rowMk :: .obj true x.b' x.cs 55 :: r) w) :
  (loadSem 3 (.pointer (some ⟨b, 0 + k * 19, none⟩))).run Try.prog w = .ok (.value (.int .i64 1000)) w := by
 rcases x.at_ with ⟨h, h'⟩ | h
 ·rw [← h]
  exact hw.objload1 (T := 3) (i := 2) (b := x.b') (k := 0 + k * 19) (own := true) (cs := x.cs) (v := .int .i64 1000) rfl (x.old k (Nat.zero_le _) hk 0 _ rfl) kR
 have h1 := hw.rowload1 (P := Try.prog) (T := 3) (i := 1) (b := b) (off := 0) (sz := 19) (n := x.mv) (k := k) (j := 0) (f := rowMk) (v := .int .i64 1000) rfl (by omega) kR rfl
 exact h1
theorem new_read {w0 w : World} {bs : List Nat} {b n k : Nat} {e0 : HE} {r : List HE} (x : GX w0 bs b n) (hk : k < n + x.k) (v : Int) (hv : v = if k < n then 1000 else 2000) (hw : Sat w0 bs (e0 :: .row b 0 19 x.mv rowMk :: .obj true x.b' x.cs 55 :: r) w) :
  (loadSem 3 (.pointer (some ⟨x.b', 0 + k * 19, none⟩))).run Try.prog w = .ok (.value (.int .i64 v)) w := by
 refine hw.objload1 (T := 3) (i := 2) (b := x.b') (k := 0 + k * 19) (own := true) (cs := x.cs) (v := .int .i64 v) rfl ?_ kR
 by_cases h : k < n
 ·rw [if_pos h] at hv
  subst hv
  exact x.old k (Nat.zero_le _) h 0 _ rfl
 rw [if_neg h] at hv
 subst hv
 exact x.new k (by omega) hk 0 _ rfl
theorem cons_of {cs v : List Value} {u : Value} (h : cs.take ((0 + 1) * 1) = ([] : List Value).take (0 * 1) ++ [u]) : ∃ rest, cs = u :: rest := by
 cases cs with
 | nil => simp at h
 | cons a r => simp at h; exact ⟨r, by rw [h]⟩
set_option maxRecDepth 100000 in
set_option maxHeartbeats 8000000 in
theorem apart1 (n b cap bS : Nat) (cs : List Value) (hc : cs.length = cap * 19) (hn : n ≤ cap) (hb : n ≤ 1000000000) (w : World) (hq : Sat w [b] [.obj false bS [.slice (some ⟨b, 0, none⟩) n cap] 22, .row b 0 19 0 rowMk, .obj true b cs 55] w) :
  Calls Try.prog 16 #[.slice (some ⟨bS, 0, none⟩) 1 1] w fun e w' => e = .returned (.bool true) ∧ KeptBut [b] w w' := by
 refine g_enter (args := [.slice (some ⟨bS, 0, none⟩) 1 1]) [b] [.obj false bS [.slice (some ⟨b, 0, none⟩) n cap] 22, .row b 0 19 0 rowMk, .obj true b cs 55] Try.func16 rfl Try.ntmps16 kL hq ?_
 refine g0 ?_
 refine g_unroll 2 kR ?_
 refine gA [] 1 ?_
 refine g_loopN (X := MkX cap n) (fun x => [(5, .int .i64 ((x.k : Nat) : Int))]) (fun x => [.obj false bS [.slice (some ⟨b, 0, none⟩) n cap] 22, .row b 0 19 0 rowMk, .obj true b x.cs 55]) (fun x => n - x.k) ⟨0, cs, hc, Nat.zero_le _, fun q _ h => absurd h (Nat.not_lt_zero q)⟩ kR (by unfold Known; kernel_rfl) kR fun x N hN => ?_
 refine gA [0] 0 ?_
 refine g_dec 23 (decide ((x.k : Int) < (n : Int))) kR (fun h23 => ?_) (fun h23 => ?_)
 ·have hlt : x.k < n := by clear hN; simpa using h23
  refine gU 34 ([0]) 1 ?_
  refine g_val _ _ ?_ (fun w _hs => idx_run (P := Try.prog) (T := 22) (E := 55) (b := b) (o := 0) (n := n) (c := cap) (k := x.k) (sz := 19) (kk := .i64) w kR kR hlt) ?_
  ·kernel_rfl
  refine g_storeN 2 55 55 b (0 + x.k * 19) x.cs (nodC (kN 1000)) (nodV (kN 1000)) kR kR kR (put_fits x.len hn hlt _) (nodC_one1 _) kR ?_
  refine gU 25 [] 0 ?_
  refine g_val _ _ ?_ (fun w _hs => nat_succ (P := Try.prog) (t := 3) (x := .tmp 24) (y := .const (.int .i64 1)) (m := x.k) (w := w) kR (by omega)) ?_
  ·kernel_rfl
  refine g0 ?_
  refine g_hook (hN (x.next hn hlt) (by show n - (x.k + 1) < n - x.k; omega)) kR kR kR (by unfold Known; kernel_rfl) kR kR
 have hxk : x.k = n := by have := x.le; clear hN; simp at h23; omega
 have hmk : Marked x.cs (kN 1000) 0 n := by have h := x.mkd; rw [hxk] at h; exact h
 clear hN
 refine gA [] 2 ?_
 refine g_unroll 2 kR ?_
 refine gA [0] 1 ?_
 refine g_loopN (X := GX w [b] b n) (fun y => [(8, .int .i64 ((y.k : Nat) : Int)), (7, .slice (some ⟨y.b', 0, none⟩) (n + y.k) y.cap)]) (fun y => [.obj false bS [.slice (some ⟨b, 0, none⟩) n cap] 22, .row b 0 19 y.mv rowMk, .obj true y.b' y.cs 55]) (fun y => 40 - y.k) ⟨0, b, cap, x.cs, 0, x.len, hn, hmk, fun q h1 h2 => absurd h2 (by omega), .inr (by simp), .inl ⟨rfl, rfl⟩, by omega⟩ kR (by unfold Known; kernel_rfl) kR fun y N hN => ?_
 refine g0 ?_
 refine g_dec 46 (decide ((y.k : Int) < 40)) kR (fun h46 => ?_) (fun h46 => ?_)
 ·have hlt : y.k < 40 := by clear hN; simp at h46; omega
  refine gA [] 1 ?_
  refine gN fun b3 hb3 => ?_
  refine g_anyW (X := { z : GX w [b] b n // z.k = y.k + 1 }) (appSem 22 22 (.slice (some ⟨y.b', 0, none⟩) (n + y.k) y.cap) (.slice (some ⟨b3, 0, none⟩) 1 1)) (fun z => .slice (some ⟨z.1.b', 0, none⟩) (n + z.1.k) z.1.cap) (fun z => [.obj false bS [.slice (some ⟨b, 0, none⟩) n cap] 22, .row b 0 19 z.1.mv rowMk, .obj true z.1.b' z.1.cs 55, .obj true b3 (nodC (kN 2000)) 55]) kR (fun w hs => (grow_run hb y hlt (hs.at kR)).elim fun z hz => hz.elim fun w2 h2 => ⟨⟨z, h2.1⟩, w2, h2.2.1, h2.2.2⟩) (fun z => ?_)
  refine gU 48 [] 0 ?_
  refine g_val _ _ ?_ (fun w _hs => bin_run (P := Try.prog) (op := .add) (t := 3) (x := .tmp 47) (y := .const (.int .i64 1)) (a := .int .i64 ((y.k : Nat) : Int)) (b := .int .i64 1) (v := .int .i64 (IntKind.i64.wrap ((y.k : Int) + 1))) (v' := .int .i64 ((z.1.k : Nat) : Int)) (w := w) kR (by rw [wrap_i64 (by omega) (by omega), z.2]; rfl)) ?_
  ·kernel_rfl
  refine g0 ?_
  refine g_take 3 ?_
  refine g_hook (hN z.1 (by have := z.2; show 40 - z.1.k < 40 - y.k; omega)) kR kR kR (by unfold Known; kernel_rfl) kR kR
 have hyk : y.k = 40 := by have := y.hk; clear hN; simp at h46; omega
 clear hN
 refine gA [] 1 ?_
 refine gN fun b4 hb4 => ?_
 refine gU 58 [] 0 ?_
 refine g_append 3 3 70 22 22 none 0 0 1 1 1 b4 24 [] [.slice (some ⟨y.b', 0, none⟩) (n + y.k) y.cap] true kR kR kR (info_of kR) ⟨Nat.le_of_ble_eq_true kR, .inl ⟨rfl, rfl, rfl⟩⟩ kR rfl (by simp [Value.oneCell']) Nat.one_pos (by omega) (by omega) fun b5 cap5 cs5 _hb5 _hc5 _hl5 ht5 => ?_
 obtain ⟨rest, rfl⟩ := cons_of (v := []) ht5
 refine gA [] 1 ?_
 refine g_unroll 2 kR ?_
 refine gA [] 1 ?_
 refine g_loopN (X := { k : Nat // k ≤ n + 40 }) (fun z => [(10, .int .i64 ((z.1 : Nat) : Int))]) (fun z => [.obj false bS [.slice (some ⟨b, 0, none⟩) n cap] 22, .row b 0 19 y.mv rowMk, .obj true y.b' y.cs 55, .obj true b5 (.slice (some ⟨y.b', 0, none⟩) (n + y.k) y.cap :: rest) 22]) (fun z => n + 40 - z.1) ⟨0, Nat.zero_le _⟩ kR (by unfold Known; kernel_rfl) kR fun z N hN => ?_
 refine gA [3] 0 ?_
 refine g_dec 71 (decide (((z.1 : Nat) : Int) < ((n + y.k : Nat) : Int))) kR (fun h71 => ?_) (fun h71 => ?_)
 ·have hlt2 : z.1 < n + y.k := by clear hN; simp at h71; omega
  by_cases hz : z.1 < n
  ·refine gA ([0]) 1 ?_
   refine g_dec 81 (decide ((↑z.val : Int) < (↑n : Int))) kR (fun h81 => ?_) (fun h81 => ?_)
   ·refine gU 87 ([0]) 5 ?_
    refine g_val _ _ ?_ (fun w _hs => idx_run (P := Try.prog) (T := 22) (E := 55) (b := b) (o := 0) (n := n) (c := cap) (k := z.1) (sz := 19) (kk := .i64) w kR kR hz) ?_
    ·kernel_rfl
    refine gU 89 [] 1 ?_
    refine g_val _ _ ?_ (fun w _hs => old_read (e0 := .obj false bS [.slice (some ⟨b, 0, none⟩) n cap] 22) (r := [.obj true b5 (.slice (some ⟨y.b', 0, none⟩) (n + y.k) y.cap :: rest) 22]) y hz (_hs.at kR)) ?_
    ·kernel_rfl
    refine gU 99 ([3]) 9 ?_
    refine g_val _ _ ?_ (fun w _hs => idx_run (P := Try.prog) (T := 22) (E := 55) (b := y.b') (o := 0) (n := (n + y.k)) (c := y.cap) (k := z.1) (sz := 19) (kk := .i64) w kR kR hlt2) ?_
    ·kernel_rfl
    refine gU 101 [] 1 ?_
    refine g_val _ _ ?_ (fun w _hs => new_read (e0 := .obj false bS [.slice (some ⟨b, 0, none⟩) n cap] 22) (r := [.obj true b5 (.slice (some ⟨y.b', 0, none⟩) (n + y.k) y.cap :: rest) 22]) y hlt2 1000 (by rw [if_pos hz]) (_hs.at kR)) ?_
    ·kernel_rfl
    refine gA ([0]) 12 ?_
    refine g_dec 115 (decide ((↑z.val : Int) ≥ (↑n : Int))) kR (fun h115 => ?_) (fun h115 => ?_)
    ·exact absurd h115 (by clear hN; intro hx; simp at hx; omega)
    refine gU 73 [] 13 ?_
    refine g_val _ _ ?_ (fun w _hs => nat_succ (P := Try.prog) (t := 3) (x := .tmp 72) (y := .const (.int .i64 1)) (m := z.1) (w := w) kR (by omega)) ?_
    ·kernel_rfl
    refine g0 ?_
    refine g_hook (hN ⟨z.1 + 1, by omega⟩ (by show n + 40 - (z.1 + 1) < n + 40 - z.1; omega)) kR kR kR (by unfold Known; kernel_rfl) kR kR
   exact absurd h81 (by clear hN; intro hx; simp at hx; omega)
  refine gA ([0]) 1 ?_
  refine g_dec 81 (decide ((↑z.val : Int) < (↑n : Int))) kR (fun h81 => ?_) (fun h81 => ?_)
  ·exact absurd h81 (by clear hN; intro hx; simp at hx; omega)
  refine gA ([0]) 32 ?_
  refine g_dec 115 (decide ((↑z.val : Int) ≥ (↑n : Int))) kR (fun h115 => ?_) (fun h115 => ?_)
  ·refine gU 121 ([3]) 5 ?_
   refine g_val _ _ ?_ (fun w _hs => idx_run (P := Try.prog) (T := 22) (E := 55) (b := y.b') (o := 0) (n := (n + y.k)) (c := y.cap) (k := z.1) (sz := 19) (kk := .i64) w kR kR hlt2) ?_
   ·kernel_rfl
   refine gU 123 [] 1 ?_
   refine g_val _ _ ?_ (fun w _hs => new_read (e0 := .obj false bS [.slice (some ⟨b, 0, none⟩) n cap] 22) (r := [.obj true b5 (.slice (some ⟨y.b', 0, none⟩) (n + y.k) y.cap :: rest) 22]) y hlt2 2000 (by rw [if_neg hz]) (_hs.at kR)) ?_
   ·kernel_rfl
   refine gU 73 [] 5 ?_
   refine g_val _ _ ?_ (fun w _hs => nat_succ (P := Try.prog) (t := 3) (x := .tmp 72) (y := .const (.int .i64 1)) (m := z.1) (w := w) kR (by omega)) ?_
   ·kernel_rfl
   refine g0 ?_
   refine g_hook (hN ⟨z.1 + 1, by omega⟩ (by show n + 40 - (z.1 + 1) < n + 40 - z.1; omega)) kR kR kR (by unfold Known; kernel_rfl) kR kR
  exact absurd h115 (by clear hN; intro hx; simp at hx; omega)
 refine gA [] 2 ?_
 refine gR (Value.bool true) fun w' hs => ?_
 exact ⟨rfl, hs.kept⟩
end Go.Proofs.Ytcncfmjfgdbfeab
