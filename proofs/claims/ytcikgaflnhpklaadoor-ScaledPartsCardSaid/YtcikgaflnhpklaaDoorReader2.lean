/- The reader: its block; its steps sign, digits, number; follow. -/
import Derived.Test.YtcikgaflnhpklaaDoorReader1
import Derived.LoopN
import Derived.Laws.EntriesVeiled
namespace Go.Proofs.YtcikgaflnhpklaaDoor
open Go.RowKit

/-- the reader's block -/
def RD (w : World) (b : Nat) (left : ByteArray) (minus : Bool) (wh pt : Int) (nm : ByteArray) (n d : Int) : Prop :=
  w.heap[b]? = some (.cells #[.string left, .bool minus, .int .i64 wh, .int .i64 pt, .string nm, .int .i64 n, .int .i64 d] 95 (0, 0))
/-- of what was there only block b has turned -/
abbrev Only (b : Nat) (w w' : World) : Prop := w.grownBy w' (some b)
theorem Only.refl (b : Nat) (w : World) : Only b w w := World.grownBy.refl _ _
theorem Only.kept {b : Nat} {a w w' : World} (h : Only b a w) (k : Kept w w') : Only b a w' :=
  ⟨k.os.trans h.os, k.tape.trans h.tape, k.output.trans h.output, Nat.le_trans h.size k.size, fun i hi hn => (k.block i (Nat.lt_of_lt_of_le hi h.size)).trans (h.block i hi hn)⟩
theorem Only.trans {b : Nat} {a w w' : World} (h : Only b a w) (k : Only b w w') : Only b a w' :=
  ⟨k.os.trans h.os, k.tape.trans h.tape, k.output.trans h.output, Nat.le_trans h.size k.size, fun i hi hn => (k.block i (Nat.lt_of_lt_of_le hi h.size) hn).trans (h.block i hi hn)⟩
theorem Only.set {b : Nat} {a w : World} (h : Only b a w) (i : Nat) (v : Value) : Only b a (w.setCell ⟨b, i, none⟩ v) :=
  ⟨h.os, h.tape, h.output, by simpa [World.setCell] using h.size, fun j hj hn => (Below.heap_setCell w ⟨b, i, none⟩ v j (fun e => hn (by rw [e]))).trans (h.block j hj hn)⟩
theorem Only.below {b : Nat} {a w : World} (h : Only b a w) {B : Nat} (hb : B ≤ b) (hB : B ≤ a.heap.size) : Below B a w :=
  ⟨h.os, h.tape, h.output, h.size, fun j hj => h.block j (by omega) (fun e => by injection e; omega)⟩
theorem Only.cell {b : Nat} {a w : World} (h : Only b a w) {k : Nat} (hk : k < a.heap.size) (hn : k ≠ b) (o : Nat) : w.cell? ⟨k, o, none⟩ = a.cell? ⟨k, o, none⟩ :=
  World.cell?_of_block (w := a) (a := ⟨k, o, none⟩) (h.block k hk (fun e => hn (by injection e)))
theorem RD.lt {w : World} {b : Nat} {left : ByteArray} {minus : Bool} {wh pt : Int} {nm : ByteArray} {n d : Int} (h : RD w b left minus wh pt nm n d) : b < w.heap.size := (Array.getElem?_eq_some_iff.1 h).1
theorem RD.kept {w w' : World} {b : Nat} {left : ByteArray} {minus : Bool} {wh pt : Int} {nm : ByteArray} {n d : Int} (h : RD w b left minus wh pt nm n d) (k : Kept w w') : RD w' b left minus wh pt nm n d := by
  unfold RD at *; rw [k.block b (Array.getElem?_eq_some_iff.1 h).1]; exact h

section
variable {w : World} {b : Nat} {left : ByteArray} {minus : Bool} {wh pt : Int} {nm : ByteArray} {n d : Int} (h : RD w b left minus wh pt nm n d)
include h
theorem RD.c0 : w.cell? ⟨b, 0, none⟩ = some (.string left) := by rw [Lib.cell_of_heap h]; rfl
theorem RD.c1 : w.cell? ⟨b, 1, none⟩ = some (.bool minus) := by rw [Lib.cell_of_heap h]; rfl
theorem RD.c2 : w.cell? ⟨b, 2, none⟩ = some (.int .i64 wh) := by rw [Lib.cell_of_heap h]; rfl
theorem RD.c3 : w.cell? ⟨b, 3, none⟩ = some (.int .i64 pt) := by rw [Lib.cell_of_heap h]; rfl
theorem RD.c4 : w.cell? ⟨b, 4, none⟩ = some (.string nm) := by rw [Lib.cell_of_heap h]; rfl
theorem RD.c5 : w.cell? ⟨b, 5, none⟩ = some (.int .i64 n) := by rw [Lib.cell_of_heap h]; rfl
theorem RD.c6 : w.cell? ⟨b, 6, none⟩ = some (.int .i64 d) := by rw [Lib.cell_of_heap h]; rfl
theorem RD.fz (j : Nat) : w.frozen? ⟨b, j, none⟩ = false := Lib.frozen_of_heap h j
theorem RD.s0 (v : ByteArray) : RD (w.setCell ⟨b, 0, none⟩ (.string v)) b v minus wh pt nm n d := by
  unfold RD at *; simp [World.setCell, Array.getElem?_modify, h]
theorem RD.s1 (v : Bool) : RD (w.setCell ⟨b, 1, none⟩ (.bool v)) b left v wh pt nm n d := by
  unfold RD at *; simp [World.setCell, Array.getElem?_modify, h]
theorem RD.s2 (v : Int) : RD (w.setCell ⟨b, 2, none⟩ (.int .i64 v)) b left minus v pt nm n d := by
  unfold RD at *; simp [World.setCell, Array.getElem?_modify, h]
theorem RD.s3 (v : Int) : RD (w.setCell ⟨b, 3, none⟩ (.int .i64 v)) b left minus wh v nm n d := by
  unfold RD at *; simp [World.setCell, Array.getElem?_modify, h]
end

def bmk (l : List UInt8) : ByteArray := ⟨l.toArray⟩
theorem bmk_list (l : List UInt8) : (bmk l).data.toList = l := rfl
theorem bmk_size (l : List UInt8) : (bmk l).size = l.length := by rw [Lib.size_eq, bmk_list]
theorem trim_len (l p : List UInt8) : (Lib.trimPrefix l p).length ≤ l.length := by unfold Lib.trimPrefix; split <;> simp

set_option maxHeartbeats 1000000 in
theorem sign_any (b : Nat) (left nm : ByteArray) (minus : Bool) (wh pt n d : Int) (w : World) (h : RD w b left minus wh pt nm n d) :
    Calls Tryd.prog 65 #[.pointer (some ⟨b, 0, none⟩)] w fun e w' => e = .returned (.bool true) ∧ RD w' b (bmk (Lib.trimPrefix left.data.toList [45])) (Lib.hasPrefix left.data.toList [45]) wh pt nm n d ∧ Only b w w' := by
  have c0 := h.c0
  have c1 := h.c1
  have f0 := h.fz 0
  have f1 := h.fz 1
  have H2 : Hid (RD ((w.setCell ⟨b, 0, none⟩ (.string (bmk (Lib.trimPrefix left.data.toList [45])))).setCell ⟨b, 1, none⟩ (.bool (Lib.hasPrefix left.data.toList [45]))) b (bmk (Lib.trimPrefix left.data.toList [45])) (Lib.hasPrefix left.data.toList [45]) wh pt nm n d) := Lib.hid ((h.s0 _).s1 _)
  have O2 : Hid (Only b w ((w.setCell ⟨b, 0, none⟩ (.string (bmk (Lib.trimPrefix left.data.toList [45])))).setCell ⟨b, 1, none⟩ (.bool (Lib.hasPrefix left.data.toList [45])))) := Lib.hid (((Only.refl b w).set 0 _).set 1 _)
  clear h
  go_enter Tryd.func65, Tryd.ntmps65
  go_wp2_with (go_at_call 74; refine (Tryd.strings_CutPrefix _ _ _).mono ?_; rintro e w' ⟨rfl, rfl⟩)
  go_ret
  exact ⟨rfl, H2.out, O2.out⟩

theorem digs_bmk_size (s : ByteArray) : (bmk (digs s.data.toList)).size ≤ s.size := by
  rw [bmk_size, Lib.size_eq s]; exact digs_length_le _
theorem digs_cut (s : ByteArray) : s.extract (bmk (digs s.data.toList)).size s.size = bmk (rest s.data.toList) := by
  rw [bmk_size, cut_back, drop_digs]; rfl

set_option maxHeartbeats 1000000 in
theorem digits_any (b : Nat) (left nm : ByteArray) (minus : Bool) (wh pt n d : Int) (w : World) (h : RD w b left minus wh pt nm n d) (hs : left.size ≤ 9223372036854775807) :
    Calls Tryd.prog 75 #[.pointer (some ⟨b, 0, none⟩)] w fun e w' => e = .returned (.string (bmk (digs left.data.toList))) ∧ RD w' b (bmk (rest left.data.toList)) minus wh pt nm n d ∧ Only b w w' := by
  have c0 := h.c0
  have hz := digs_bmk_size left
  have Hc := Lib.hid (digs_cut left)
  have Hl := Lib.hid (leadingDigits_any left w hs)
  have Ho := Lib.hid (Only.refl b w)
  generalize hdd : bmk (digs left.data.toList) = dd at *
  have Hdd := Lib.hid hdd
  clear hdd
  have Hh := Lib.hid h
  clear h
  go_enter Tryd.func75, Tryd.ntmps75
  go_wp2_with (fail)
  refine Hl.out.mono ?_
  rintro e w1 ⟨rfl, k1⟩
  rw [show (⟨(digs left.data.toList).toArray⟩ : ByteArray) = dd from Hdd.out]
  have h1 := Hh.out.kept k1
  have d0 := h1.c0
  have f0 := h1.fz 0
  have h2 := h1.s0 (bmk (rest left.data.toList))
  have o2 := (Ho.out.kept k1).set 0 (.string (bmk (rest left.data.toList)))
  rw [← Hc.out] at h2 o2
  have H2 := Lib.hid h2
  have O2 := Lib.hid o2
  clear h1 h2 o2
  go_wp2
  go_ret
  refine ⟨rfl, ?_, O2.out⟩
  have h3 := H2.out
  rw [Hc.out] at h3
  rw [Hc.out]
  exact h3

/-- what 'number' cuts off, and what it leaves -/
def pointed (l : List UInt8) : Bool := Lib.hasPrefix (rest l) [46]
def numBehind (l : List UInt8) : List UInt8 := if pointed l then digs (Lib.trimPrefix (rest l) [46]) else []
def numLeft (l : List UInt8) : List UInt8 := if pointed l then rest (Lib.trimPrefix (rest l) [46]) else rest l
def numOk (l : List UInt8) : Bool := !(digs l).isEmpty || !(numBehind l).isEmpty

theorem rest_len (l : List UInt8) : (rest l).length ≤ l.length := by unfold rest; exact (List.dropWhile_suffix _).length_le
theorem digs_AllDig (l : List UInt8) : AllDig (bmk (digs l)) := digs_all_dig l

set_option maxHeartbeats 2000000 in
theorem number_any (b : Nat) (left nm : ByteArray) (minus : Bool) (wh pt n d : Int) (w : World) (h : RD w b left minus wh pt nm n d) (hs : left.size ≤ 9223372036854775807) :
    Calls Tryd.prog 66 #[.pointer (some ⟨b, 0, none⟩)] w fun e w' => e = .returned (.bool (numOk left.data.toList)) ∧ RD w' b (bmk (numLeft left.data.toList)) minus (wholeN (digs left.data.toList)) (fracN (numBehind left.data.toList)) nm n d ∧ Only b w w' := by
  have hsl : left.data.toList.length ≤ 9223372036854775807 := by rw [← Lib.size_eq]; exact hs
  generalize hL : left.data.toList = L at *
  have l1 := rest_len L
  have l2 := trim_len (rest L) [46]
  have l3 := digs_length_le L
  have l4 := digs_length_le (Lib.trimPrefix (rest L) [46])
  have Hh := Lib.hid h
  have Hd := Lib.hid (digits_any b left nm minus wh pt n d w h hs)
  rw [hL] at Hd
  clear h hL
  have l5 : (bmk (rest L)).size ≤ 9223372036854775807 := by rw [bmk_size]; omega
  cases hp : pointed L
  · have hpp : Lib.hasPrefix (bmk (rest L)).data.toList [46] = false := hp
    have e1 : numBehind L = [] := by simp [numBehind, hp]
    have e2 : numLeft L = rest L := by simp [numLeft, hp]
    have e3 : numOk L = !(digs L).isEmpty := by simp [numOk, e1]
    rw [e1, e2, e3]
    clear e1 e2 e3 hp
    go_enter Tryd.func66, Tryd.ntmps66
    go_wp2_with (fail)
    refine Hd.out.mono ?_
    rintro e w1 ⟨rfl, h1, o1⟩
    have d0 := h1.c0
    have f0 := h1.fz 0
    have H1 := Lib.hid h1
    have O1 := Lib.hid o1
    clear h1 o1
    go_wp2_with (go_at_call 74; refine (Tryd.strings_CutPrefix _ _ _).mono ?_; rintro e w1 ⟨rfl, rfl⟩)
    refine (whole_any (bmk (digs L)) _ (by rw [bmk_size]; omega) (digs_AllDig L)).mono ?_
    rintro e w2 ⟨rfl, k2⟩
    go_wp2_with (fail)
    refine (fraction_any ⟨#[]⟩ _ (by decide) (fun c hc => by cases hc)).mono ?_
    rintro e w3 ⟨rfl, k3⟩
    have h3 := (H1.out.kept k2).kept k3
    have c2 := h3.c2
    have c3 := h3.c3
    have f2 := h3.fz 2
    have f3 := h3.fz 3
    have O3 := Lib.hid ((((O1.out.kept k2).kept k3).set 2 (.int .i64 (wholeN (digs L)))).set 3 (.int .i64 (fracN [])))
    have H3 := Lib.hid ((h3.s2 (wholeN (digs L))).s3 (fracN []))
    clear h3
    go_wp2
    · have he : (bmk (digs L)).toList = [] := by assumption
      rw [Lib.toList_data] at he
      have he' : digs L = [] := he
      go_ret
      exact ⟨ret_bool (by rw [he']; rfl), H3.out, O3.out⟩
    · have he : ¬ (bmk (digs L)).toList = [] := by assumption
      rw [Lib.toList_data] at he
      have he' : (digs L).isEmpty = false := List.isEmpty_eq_false_iff.2 he
      go_ret
      exact ⟨ret_bool (by rw [he']; rfl), H3.out, O3.out⟩
  · have hpp : Lib.hasPrefix (bmk (rest L)).data.toList [46] = true := hp
    have e1 : numBehind L = digs (Lib.trimPrefix (rest L) [46]) := by simp [numBehind, hp]
    have e2 : numLeft L = rest (Lib.trimPrefix (rest L) [46]) := by simp [numLeft, hp]
    have e3 : numOk L = (!(digs L).isEmpty || !(digs (Lib.trimPrefix (rest L) [46])).isEmpty) := by simp [numOk, e1]
    rw [e1, e2, e3]
    clear e1 e2 e3 hp
    go_enter Tryd.func66, Tryd.ntmps66
    go_wp2_with (fail)
    refine Hd.out.mono ?_
    rintro e w1 ⟨rfl, h1, o1⟩
    have d0 := h1.c0
    have f0 := h1.fz 0
    have H1 := Lib.hid h1
    have O1 := Lib.hid o1
    clear h1 o1
    go_wp2_with (go_at_call 74; refine (Tryd.strings_CutPrefix _ _ _).mono ?_; rintro e w1 ⟨rfl, rfl⟩)
    have H1s := Lib.hid (H1.out.s0 (bmk (Lib.trimPrefix (rest L) [46])))
    have O1s := Lib.hid (O1.out.set 0 (.string (bmk (Lib.trimPrefix (rest L) [46]))))
    refine (digits_any b _ nm minus wh pt n d _ H1s.out (by rw [bmk_size]; omega)).mono ?_
    rintro e w2 ⟨rfl, h2, o2⟩
    have H2 := Lib.hid h2
    have O2 := Lib.hid (O1s.out.trans o2)
    clear h2 o2
    go_wp2_with (fail)
    refine (whole_any (bmk (digs L)) _ (by rw [bmk_size]; omega) (digs_AllDig L)).mono ?_
    rintro e w3 ⟨rfl, k3⟩
    go_wp2_with (fail)
    refine (fraction_any (bmk (digs (Lib.trimPrefix (rest L) [46]))) _ (by rw [bmk_size]; omega) (digs_AllDig _)).mono ?_
    rintro e w4 ⟨rfl, k4⟩
    have h4 := (H2.out.kept k3).kept k4
    have c2 := h4.c2
    have c3 := h4.c3
    have f2 := h4.fz 2
    have f3 := h4.fz 3
    have O4 := Lib.hid ((((O2.out.kept k3).kept k4).set 2 (.int .i64 (wholeN (digs L)))).set 3 (.int .i64 (fracN (digs (Lib.trimPrefix (rest L) [46])))))
    have H4 := Lib.hid ((h4.s2 (wholeN (digs L))).s3 (fracN (digs (Lib.trimPrefix (rest L) [46]))))
    clear h4
    go_wp2
    · have he : (bmk (digs L)).toList = [] := by assumption
      rw [Lib.toList_data] at he
      have he' : digs L = [] := he
      go_ret
      refine ⟨ret_bool ?_, H4.out, O4.out⟩
      rw [he']
      simp [Lib.toList_data, bmk]
    · have he : ¬ (bmk (digs L)).toList = [] := by assumption
      rw [Lib.toList_data] at he
      have he' : (digs L).isEmpty = false := List.isEmpty_eq_false_iff.2 he
      go_ret
      exact ⟨ret_bool (by rw [he']; rfl), H4.out, O4.out⟩

/-- what a list of two steps cuts off and leaves: Parse's -/
def afterSign (l : List UInt8) : List UInt8 := Lib.trimPrefix l [45]
def minusOf (l : List UInt8) : Bool := Lib.hasPrefix l [45]
def parseOk (l : List UInt8) : Bool := numOk (afterSign l) && (numLeft (afterSign l)).isEmpty

set_option maxHeartbeats 2000000 in
/-- follow, of the steps sign and number -/
theorem follow2_any (b g : Nat) (left : ByteArray) (w : World) (hgb : g ≠ b) (h : RD w b left false 0 0 ⟨#[]⟩ 0 0) (hs : left.size ≤ 9223372036854775807) (hg : g < w.heap.size)
    (g0 : w.cell? ⟨g, 0, none⟩ = some (.func (.func 65) #[.pointer (some ⟨b, 0, none⟩)] #[]))
    (g1 : w.cell? ⟨g, 1, none⟩ = some (.func (.func 66) #[.pointer (some ⟨b, 0, none⟩)] #[])) :
    Calls Tryd.prog 64 #[.pointer (some ⟨b, 0, none⟩), .slice (some ⟨g, 0, none⟩) 2 2] w fun e w' => e = .returned (.bool (parseOk left.data.toList)) ∧ RD w' b (bmk (numLeft (afterSign left.data.toList))) (minusOf left.data.toList) (wholeN (digs (afterSign left.data.toList))) (fracN (numBehind (afterSign left.data.toList))) ⟨#[]⟩ 0 0 ∧ Only b w w' := by
  cases hok : numOk (afterSign left.data.toList)
  · have e1 : parseOk left.data.toList = false := by simp [parseOk, hok]
    rw [e1]
    have Hok := Lib.hid hok
    clear e1 hok
    have Hs := Lib.hid (sign_any b left ⟨#[]⟩ false 0 0 0 0 w h)
    have Hg0 := Lib.hid g0
    have Hg1 := Lib.hid g1
    have hz := trim_len left.data.toList [45]
    have hzs : left.data.toList.length ≤ 9223372036854775807 := by rw [← Lib.size_eq]; exact hs
    clear h
    go_enter Tryd.func64, Tryd.ntmps64
    go_wp2
    refine wp_loop_rounds 3 ?_
    rw [rounds_succ]
    go_wp2_with (fail)
    refine Hs.out.mono ?_
    rintro e w1 ⟨rfl, h1, o1⟩
    have Hn := Lib.hid (number_any b _ ⟨#[]⟩ _ 0 0 0 0 w1 h1 (by rw [bmk_size]; omega))
    have g1' : w1.cell? ⟨g, 1, none⟩ = some (.func (.func 66) #[.pointer (some ⟨b, 0, none⟩)] #[]) := by rw [o1.cell hg hgb]; exact Hg1.out
    have O1 := Lib.hid o1
    clear h1 o1 g0 g1
    go_wp2_with (fail)
    rw [rounds_succ]
    go_wp2_with (fail)
    refine Hn.out.mono ?_
    rintro e w2 ⟨rfl, h2, o2⟩
    rw [bmk_list] at h2
    rw [bmk_list]
    have d0 := h2.c0
    have hok' : numOk (Lib.trimPrefix left.data.toList [45]) = false := Hok.out
    have O2 := Lib.hid (O1.out.trans o2)
    have H2 := Lib.hid h2
    clear h2 o2
    go_wp2
    go_ret
    exact ⟨rfl, H2.out, O2.out⟩
  · have e1 : parseOk left.data.toList = (numLeft (afterSign left.data.toList)).isEmpty := by simp [parseOk, hok]
    rw [e1]
    have Hok := Lib.hid hok
    clear e1 hok
    have Hs := Lib.hid (sign_any b left ⟨#[]⟩ false 0 0 0 0 w h)
    have Hg0 := Lib.hid g0
    have Hg1 := Lib.hid g1
    have hz := trim_len left.data.toList [45]
    have hzs : left.data.toList.length ≤ 9223372036854775807 := by rw [← Lib.size_eq]; exact hs
    clear h
    go_enter Tryd.func64, Tryd.ntmps64
    go_wp2
    refine wp_loop_rounds 3 ?_
    rw [rounds_succ]
    go_wp2_with (fail)
    refine Hs.out.mono ?_
    rintro e w1 ⟨rfl, h1, o1⟩
    have Hn := Lib.hid (number_any b _ ⟨#[]⟩ _ 0 0 0 0 w1 h1 (by rw [bmk_size]; omega))
    have g1' : w1.cell? ⟨g, 1, none⟩ = some (.func (.func 66) #[.pointer (some ⟨b, 0, none⟩)] #[]) := by rw [o1.cell hg hgb]; exact Hg1.out
    have O1 := Lib.hid o1
    clear h1 o1 g0 g1
    go_wp2_with (fail)
    rw [rounds_succ]
    go_wp2_with (fail)
    refine Hn.out.mono ?_
    rintro e w2 ⟨rfl, h2, o2⟩
    rw [bmk_list] at h2
    rw [bmk_list]
    have d0 := h2.c0
    have hok' : numOk (Lib.trimPrefix left.data.toList [45]) = true := Hok.out
    have O2 := Lib.hid (O1.out.trans o2)
    have H2 := Lib.hid h2
    clear h2 o2
    go_wp2_with (fail)
    rw [rounds_succ]
    go_wp2
    go_ret
    refine ⟨ret_bool ?_, H2.out, O2.out⟩
    rw [Lib.toList_data]
    rfl

set_option maxHeartbeats 1000000 in
theorem signed_any (b : Nat) (left nm : ByteArray) (minus : Bool) (wh pt n d size : Int) (w : World) (h : RD w b left minus wh pt nm n d) (s0 : 0 ≤ size) (s1 : size ≤ 9223372036854775807) :
    Calls Tryd.prog 67 #[.pointer (some ⟨b, 0, none⟩), .int .i64 size] w fun e w' => e = .returned (.tuple #[.int .i64 (dimV (if minus then -size else size)), .int .i64 (dimE size)]) ∧ w' = w := by
  have c1 := h.c1
  have he : dimE (-size) = dimE size := by
    have : greatB (-size) = greatB size := by rw [Bool.eq_iff_iff]; simp [greatB]; omega
    unfold dimE; rw [this]
  clear h
  cases minus
  · go_enter Tryd.func67, Tryd.ntmps67
    go_wp2_with (go_at_call 51; refine (dimension_any _ _).mono ?_; rintro e w' ⟨rfl, rfl⟩)
    go_ret2
    exact ⟨rfl, rfl⟩
  · have He := Lib.hid he
    clear he
    go_enter Tryd.func67, Tryd.ntmps67
    go_wp2_with (go_at_call 51; refine (dimension_any _ _).mono ?_; rintro e w' ⟨rfl, rfl⟩)
    go_ret2
    exact ⟨ret_ii rfl He.out, rfl⟩
end Go.Proofs.YtcikgaflnhpklaaDoor
