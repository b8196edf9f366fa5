/- scaled.leadingDigits, whole, fraction. -/
import Derived.Test.YtcikgaflnhpklaaDoorDigitsMath
import Derived.Test.YtcikgaflnhpklaaDoorBuilder
import Derived.Test.YtcikgaflnhpklaaDoorOvers
import Derived.Lib.OthersKept
import Derived.Lib.ItoaWalk
import Derived.Laws.RangeAny
namespace Go.Proofs.YtcikgaflnhpklaaDoor
open Go.RowKit

theorem kept_iter (w : World) (s : ByteArray) (p : Nat) : Kept w (w.iter s p) := (Below.refl _ _).alloc (Nat.le_refl _) _

/-- the byte at a place, as the list has it -/
theorem at_list (s : ByteArray) (k : Nat) (h : k < s.size) : s.data.toList[k]? = some (s[k]'h) := by
  have h' : k < s.data.toList.length := by simpa using h
  rw [List.getElem?_eq_getElem h']
  congr 1

theorem cut_front (s : ByteArray) (k : Nat) : s.extract 0 k = ⟨(s.data.toList.take k).toArray⟩ := by
  have h := Lib.extract_data s 0 k
  rw [Nat.sub_zero, List.drop_zero] at h
  rw [← h]
theorem cut_back (s : ByteArray) (k : Nat) : s.extract k s.size = ⟨(s.data.toList.drop k).toArray⟩ := by
  have h := Lib.extract_to_end s k
  rw [← h]

set_option maxHeartbeats 1000000 in
theorem leadingDigits_any (s : ByteArray) (w : World) (_hs : s.size ≤ 9223372036854775807) :
    Calls Tryd.prog 83 #[.string s] w fun e w' => e = .returned (.string ⟨(digs s.data.toList).toArray⟩) ∧ Kept w w' := by
  go_enter Tryd.func83, Tryd.ntmps83
  go_wp2
  go_loopw [3] (fun _ wr => ∃ pos : Nat, pos ≤ s.size ∧ wr = w.iter s pos ∧ (s.data.toList.take pos).all isDig = true) (fun _ wr => s.size - wr.iterPos w.heap.size)
  case atStart => exact ⟨0, Nat.zero_le _, rfl, by simp⟩
  case round =>
    obtain ⟨pos, hps, rfl, hall⟩ := hrel
    have Hall := Lib.hid hall
    clear hall
    by_cases hp : pos < s.size
    · have hat := at_list s pos hp
      by_cases ha : (s[pos]'hp).toNat < 128
      · have hnext : ∀ ty, (Instr.next (.pointer (some ⟨w.heap.size, 0, none⟩)) true ty).run Tryd.prog (w.iter s pos) = _ := fun ty => run_next_ascii w s pos ty hp ha
        generalize (s[pos]'hp) = c at hat hnext ha
        have Hat := Lib.hid hat
        clear hat
        go_wp2
        all_goals first
          | (go_ret
             have hc : isDig c = false := by simp only [isDig, decide_eq_false_iff_not]; omega
             refine ⟨ret_str ?_, kept_iter _ _ _⟩
             rw [digs_stop Hall.out Hat.out hc]
             exact cut_front s pos)
          | (have hc : isDig c = true := by simp only [isDig, decide_eq_true_eq]; omega
             go_roundw
             case rel => exact ⟨pos + 1, by omega, rfl, all_snoc Hall.out Hat.out hc⟩
             case measure => simp; omega)
      · have hnext : ∀ ty, (Instr.next (.pointer (some ⟨w.heap.size, 0, none⟩)) true ty).run Tryd.prog (w.iter s pos) = _ := fun ty => run_next_any w s pos ty hp
        have hr := (decode_high s pos hp (by omega)).1
        have hc : isDig (s[pos]'hp) = false := by simp only [isDig, decide_eq_false_iff_not]; omega
        have Hc := Lib.hid hc
        have Hat := Lib.hid hat
        generalize (Utf8.decode s pos).1 = r at hnext hr
        generalize (Utf8.decode s pos).2 = n at hnext
        clear ha hc hat
        go_wp2
        go_ret
        refine ⟨ret_str ?_, kept_iter _ _ _⟩
        rw [digs_stop Hall.out Hat.out Hc.out]
        exact cut_front s pos
    · have hnext : ∀ ty, (Instr.next (.pointer (some ⟨w.heap.size, 0, none⟩)) true ty).run Tryd.prog (w.iter s pos) = _ := fun ty => run_next_end w s pos ty hp
      have hfull : s.data.toList.take pos = s.data.toList := List.take_of_length_le (by rw [← Lib.size_eq]; omega)
      have Hf := Lib.hid hfull
      clear hfull
      go_wp2
      go_ret
      have h2 := Hall.out
      rw [Hf.out] at h2
      refine ⟨ret_str ?_, kept_iter _ _ _⟩
      rw [digs_all h2]

/-- the whole number of a text of digits -/
def AllDig (s : ByteArray) : Prop := ∀ c ∈ s.data.toList, isDig c = true
theorem AllDig.at {s : ByteArray} (h : AllDig s) {k : Nat} (hk : k < s.size) : 48 ≤ (s[k]'hk).toNat ∧ (s[k]'hk).toNat ≤ 57 := by
  have := h (s[k]'hk) (List.mem_of_getElem? (at_list s k hk))
  simpa [isDig] using this
theorem take_snoc {l : List UInt8} {k : Nat} {c : UInt8} (hk : l[k]? = some c) : l.take (k + 1) = l.take k ++ [c] := by
  rw [List.take_add_one, hk]; rfl

set_option maxHeartbeats 1000000 in
theorem whole_any (s : ByteArray) (w : World) (_hs : s.size ≤ 9223372036854775807) (hd : AllDig s) :
    Calls Tryd.prog 76 #[.string s] w fun e w' => e = .returned (.int .i64 (wholeN s.data.toList)) ∧ Kept w w' := by
  have HD := Lib.hid hd
  clear hd
  go_enter Tryd.func76, Tryd.ntmps76
  go_wp2
  go_loopw [3] (fun n wr => ∃ pos : Nat, pos ≤ s.size ∧ wr = w.iter s pos ∧ n = .int .i64 (wholeN (s.data.toList.take pos))) (fun _ wr => s.size - wr.iterPos w.heap.size)
  case atStart => exact ⟨0, Nat.zero_le _, rfl, by simp [wholeN]⟩
  case round =>
    obtain ⟨pos, hps, rfl, rfl⟩ := hrel
    have hbd := wholeN_bd (s.data.toList.take pos) (fun c hc => HD.out c (List.mem_of_mem_take hc))
    by_cases hp : pos < s.size
    · have hat := at_list s pos hp
      have hdc := HD.out.at hp
      have hnext : ∀ ty, (Instr.next (.pointer (some ⟨w.heap.size, 0, none⟩)) true ty).run Tryd.prog (w.iter s pos) = _ := fun ty => run_next_ascii w s pos ty hp (by omega)
      generalize (s[pos]'hp) = c at hat hnext hdc
      have hsn := wholeN_snoc (s.data.toList.take pos) c
      rw [← take_snoc hat] at hsn
      have Hsn := Lib.hid hsn
      have Hat := Lib.hid hat
      clear hat hsn
      generalize wholeN (s.data.toList.take pos) = n at *
      obtain ⟨n0, n1⟩ := hbd
      obtain ⟨c0, c1⟩ := hdc
      go_wp2
      go_roundw
      case rel => exact ⟨pos + 1, by omega, rfl, by rw [Hsn.out]⟩
      case measure => simp; omega
    · have hnext : ∀ ty, (Instr.next (.pointer (some ⟨w.heap.size, 0, none⟩)) true ty).run Tryd.prog (w.iter s pos) = _ := fun ty => run_next_end w s pos ty hp
      have hfull : s.data.toList.take pos = s.data.toList := List.take_of_length_le (by rw [← Lib.size_eq]; omega)
      have Hf := Lib.hid hfull
      clear hfull
      go_wp2
      go_ret
      exact ⟨ret_int (by rw [Hf.out]), kept_iter _ _ _⟩

def digV (l : List UInt8) (j : Nat) : Value := .int .i64 (((l.getD j 0).toNat : Int) - 48)
/-- the block of the kept digits, the first 'pos' of them laid -/
def KeptIs (w : World) (b pos : Nat) (l : List UInt8) : Prop :=
  ∃ arr : Array Value, w.heap[b]? = some (.cells arr 107 (0, 0)) ∧ arr.size = 17 ∧ ∀ j, j < pos → arr[j]? = some (digV l j)
theorem KeptIs.cell {w : World} {b pos : Nat} {l : List UInt8} (h : KeptIs w b pos l) {j : Nat} (hj : j < pos) : w.cell? ⟨b, j, none⟩ = some (digV l j) := by
  obtain ⟨arr, hb, _, ha⟩ := h
  rw [Lib.cell_of_heap hb]; exact ha j hj
theorem KeptIs.old {w : World} {b pos : Nat} {l : List UInt8} (h : KeptIs w b pos l) {j : Nat} (hj : j < 17) : ∃ v, w.cell? ⟨b, j, none⟩ = some v := by
  obtain ⟨arr, hb, hz, _⟩ := h
  exact ⟨arr[j], by rw [Lib.cell_of_heap hb]; simp [hz, hj]⟩
theorem KeptIs.free {w : World} {b pos : Nat} {l : List UInt8} (h : KeptIs w b pos l) (j : Nat) : w.frozen? ⟨b, j, none⟩ = false := by
  obtain ⟨arr, hb, _, _⟩ := h
  exact Lib.frozen_of_heap hb j
theorem KeptIs.put {w : World} {b pos : Nat} {l : List UInt8} (h : KeptIs w b pos l) (hp : pos < 17) : KeptIs (w.setCell ⟨b, pos, none⟩ (digV l pos)) b (pos + 1) l := by
  obtain ⟨arr, hb, hz, ha⟩ := h
  refine ⟨arr.setIfInBounds pos (digV l pos), ?_, by simpa using hz, ?_⟩
  · simp [World.setCell, Array.getElem?_modify, hb]
  · intro j hj
    by_cases e : j = pos
    · subst e; simp [hz, hp]
    · rw [Array.getElem?_setIfInBounds_ne (by omega)]; exact ha j (by omega)
theorem KeptIs.of_block {w w' : World} {b pos : Nat} {l : List UInt8} (h : KeptIs w b pos l) (e : w'.heap[b]? = w.heap[b]?) : KeptIs w' b pos l := by
  obtain ⟨arr, hb, r⟩ := h
  exact ⟨arr, by rw [e]; exact hb, r⟩

set_option maxHeartbeats 2000000 in
theorem fraction_any (s : ByteArray) (w : World) (hs : s.size ≤ 9223372036854775807) (hd : AllDig s) :
    Calls Tryd.prog 77 #[.string s] w fun e w' => e = .returned (.int .i64 (fracN s.data.toList)) ∧ Kept w w' := by
  have HD := Lib.hid hd
  clear hd
  obtain ⟨m, hm⟩ : ∃ m : Nat, min (s.size : Int) 17 = (m : Int) := ⟨min s.size 17, by omega⟩
  have m17 : m ≤ 17 := by omega
  have ms : m ≤ s.size := by omega
  have Hm : Hid (m = min s.size 17) := Lib.hid (by omega)
  go_enter Tryd.func77, Tryd.ntmps77
  go_wp2
  clear hm
  generalize ht : s.extract 0 m = t
  have htl : t.data.toList = s.data.toList.take m := by rw [← ht, Lib.extract_data]; simp
  have htz : t.size = m := by rw [Lib.size_eq, htl, List.length_take, ← Lib.size_eq]; omega
  have htd : AllDig t := fun c hc => HD.out c (by rw [htl] at hc; exact List.mem_of_mem_take hc)
  have hfr : fracN s.data.toList = (fracA t.data.toList + 1) / 2 := by
    unfold fracN; rw [htl, Hm.out]
    congr 3
    rcases Nat.lt_or_ge s.size 17 with h | h
    · rw [Nat.min_eq_left (by omega), List.take_of_length_le (by rw [← Lib.size_eq]; omega), List.take_of_length_le (by rw [← Lib.size_eq]; omega)]
    · rw [Nat.min_eq_right h]
  have Hfr := Lib.hid hfr
  clear hfr ht htl
  generalize hW : w.alloc _ = W
  have hz : W.heap.size = w.heap.size + 1 := by rw [← hW]; simp
  have k0 : Kept w W := by rw [← hW]; exact (Kept.refl _).alloc (Nat.le_refl _) _
  have hb0 : KeptIs W w.heap.size 0 t.data.toList := by
    refine ⟨Array.replicate 17 (.int .i64 0), ?_, by simp, fun j hj => by omega⟩
    rw [← hW]
    simp only [World.alloc, Array.getElem?_push_size]
    rfl
  have HW := Lib.hid hW
  clear hW
  have hk0 : (W.iter t 0).heap[w.heap.size + 1]? = some (.stringIter t 0) := by rw [← hz]; exact World.iter_heap W t 0
  have hb1 : KeptIs (W.iter t 0) w.heap.size 0 t.data.toList := hb0.of_block (Below.heap_alloc _ _ _ (by omega))
  have k1 : Kept w (W.iter t 0) := k0.trans (kept_iter _ _ _)
  have hz1 : w.heap.size + 1 < (W.iter t 0).heap.size := by have := (kept_iter W t 0).size; simp [World.iter]; omega
  clear hz hb0 k0
  go_loopw [5, 6] (fun _ _ wr => ∃ pos : Nat, pos ≤ m ∧ wr.heap[w.heap.size + 1]? = some (.stringIter t pos) ∧ KeptIs wr w.heap.size pos t.data.toList ∧ Kept w wr) (fun _ _ wr => m - wr.iterPos (w.heap.size + 1))
  case atStart => exact ⟨0, Nat.zero_le _, hk0, hb1, k1⟩
  case round =>
    obtain ⟨pos, hps, hk, hkp, hkw⟩ := hrel
    clear hk0 hb1 k1 hz1
    have hmu : Hid (wr.iterPos (w.heap.size + 1) = pos) := Lib.hid (by simp [World.iterPos, hk])
    by_cases hp : pos < m
    · have hp' : pos < t.size := by omega
      have hat := at_list t pos hp'
      have hdc := htd.at hp'
      have hnext : ∀ ty, (Instr.next (.pointer (some ⟨w.heap.size + 1, 0, none⟩)) true ty).run Tryd.prog wr = _ := fun ty => Lib.run_next_ascii_at wr (w.heap.size + 1) t pos ty hk hp' (by omega)
      generalize (t[pos]'hp') = c at hat hnext hdc
      have hv : digV t.data.toList pos = .int .i64 ((c.toNat : Int) - 48) := by simp [digV, List.getD, hat]
      have hk1 := Lib.iterAt_heap wr (w.heap.size + 1) t pos (pos + 1) hk
      have hkp1 : KeptIs (wr.iterAt (w.heap.size + 1) t (pos + 1)) w.heap.size pos t.data.toList := hkp.of_block (Lib.iterAt_other _ _ _ _ _ (by omega))
      have hkw1 : Kept w (wr.iterAt (w.heap.size + 1) t (pos + 1)) := Lib.below_iterAt hkw (by omega) t (pos + 1)
      generalize wr.iterAt (w.heap.size + 1) t (pos + 1) = W1 at hnext hk1 hkp1 hkw1
      obtain ⟨ov, hov⟩ := hkp1.old (j := pos) (by omega)
      have hfz := hkp1.free pos
      have hput := hkp1.put (by omega)
      have hkw2 : Kept w (W1.setCell ⟨w.heap.size, pos, none⟩ (digV t.data.toList pos)) := hkw1.setCell (Nat.le_refl _) _
      have hk2 : (W1.setCell ⟨w.heap.size, pos, none⟩ (digV t.data.toList pos)).heap[w.heap.size + 1]? = some (.stringIter t (pos + 1)) := by
        rw [Below.heap_setCell _ _ _ _ (by simp)]; exact hk1
      rw [hv] at hput hkw2 hk2
      have Hput := Lib.hid hput
      have Hkw2 := Lib.hid hkw2
      have Hk2 := Lib.hid hk2
      have hmu2 : Hid ((W1.setCell ⟨w.heap.size, pos, none⟩ (.int .i64 ((c.toNat : Int) - 48))).iterPos (w.heap.size + 1) = pos + 1) := Lib.hid (by simp [World.iterPos, hk2])
      clear hat hv hk1 hkp1 hkw1 hput hkw2 hk2 hk hkp hkw Hfr
      obtain ⟨c0, c1⟩ := hdc
      go_wp2
      go_roundw
      case rel => exact ⟨pos + 1, by omega, Hk2.out, Hput.out, Hkw2.out⟩
      case measure => rw [hmu.out, hmu2.out]; omega
    · have hnext : ∀ ty, (Instr.next (.pointer (some ⟨w.heap.size + 1, 0, none⟩)) true ty).run Tryd.prog wr = _ := fun ty => Lib.run_next_end_at wr (w.heap.size + 1) t pos ty hk (by omega)
      obtain rfl : pos = m := by omega
      go_wp2
      go_loop [7, 8] (fun a i => ∃ j : Nat, j ≤ pos ∧ i = .int .i64 ((j : Int) - 1) ∧ a = .int .i64 (fracA (t.data.toList.drop j))) (fun _ i => (intOf i + 1).toNat)
      case atStart => exact ⟨pos, Nat.le_refl _, rfl, by rw [List.drop_eq_nil_of_le (by rw [← Lib.size_eq]; omega)]; rfl⟩
      case round =>
        obtain ⟨j, hj, rfl, rfl⟩ := hrel
        cases j with
        | zero =>
          obtain ⟨b0, b1⟩ := fracA_bd t.data.toList htd
          go_wp2
          go_ret
          exact ⟨ret_int (by rw [Hfr.out]), hkw⟩
        | succ k =>
          have hkz : k < t.size := by omega
          have hlk := at_list t k hkz
          have hdc := htd.at hkz
          generalize (t[k]'hkz) = c at hlk hdc
          have hcell : wr.cell? ⟨w.heap.size, k, none⟩ = some (.int .i64 ((c.toNat : Int) - 48)) := by
            rw [hkp.cell (j := k) (by omega)]; simp [digV, List.getD, hlk]
          have hdrop : t.data.toList.drop k = c :: t.data.toList.drop (k + 1) := by
            have hz := (List.getElem?_eq_some_iff.1 hlk)
            rw [List.drop_eq_getElem_cons hz.1, hz.2]
          have hA : fracA (t.data.toList.drop k) = (fracA (t.data.toList.drop (k + 1)) + 131072 * ((c.toNat : Int) - 48)) / 10 := by
            rw [hdrop]; rfl
          have HA := Lib.hid hA
          have hbd := fracA_bd (t.data.toList.drop (k + 1)) (fun c hc => htd c (List.mem_of_mem_drop hc))
          generalize fracA (t.data.toList.drop (k + 1)) = a at *
          obtain ⟨a0, a1⟩ := hbd
          obtain ⟨c0, c1⟩ := hdc
          clear hlk hdrop hA
          go_wp2
          go_round
          case rel => exact ⟨k, by omega, by go_num, by rw [HA.out]⟩
          case measure => simp [intOf]
end Go.Proofs.YtcikgaflnhpklaaDoor
