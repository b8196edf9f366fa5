/- scaled.Parse. -/
import Derived.Test.YtcikgaflnhpklaaDoorReader2
namespace Go.Proofs.YtcikgaflnhpklaaDoor
open Go.RowKit

def sizeOfText (l : List UInt8) : Int := 65536 * wholeN (digs (afterSign l)) + fracN (numBehind (afterSign l))
def parseV (l : List UInt8) : Int := if parseOk l then dimV (if minusOf l then -sizeOfText l else sizeOfText l) else 0
def parseE (l : List UInt8) : Int := if parseOk l then dimE (sizeOfText l) else 21

theorem numBehind_dig (l : List UInt8) : ∀ c ∈ numBehind l, isDig c = true := by
  unfold numBehind; split
  · exact digs_all_dig _
  · intro c hc; cases hc
theorem sizeOfText_bd (l : List UInt8) : 0 ≤ sizeOfText l ∧ sizeOfText l ≤ 140737488420864 := by
  have a := wholeN_bd (digs (afterSign l)) (digs_all_dig _)
  have b := fracN_bd (numBehind (afterSign l)) (numBehind_dig _)
  unfold sizeOfText; omega

set_option maxHeartbeats 2000000 in
theorem parse_any (text : ByteArray) (w : World) (hs : text.size ≤ 9223372036854775807) :
    Calls Tryd.prog 50 #[.string text] w fun e w' => e = .returned (.tuple #[.int .i64 (parseV text.data.toList), .int .i64 (parseE text.data.toList)]) ∧ Kept w w' := by
  have hmf : ∀ (fn : Fn) (first cap : Array Value) (w : World), (Instr.makeFunc fn first cap).run Tryd.prog w = .ok (.func fn first cap) w := fun _ _ _ _ => rfl
  have hrd : ∀ (o : Array Value) (tt : TypeId), RD ((w.alloc (.cells #[.string text, .bool false, .int .i64 0, .int .i64 0, .string ⟨#[]⟩, .int .i64 0, .int .i64 0] 95)).alloc (.cells o tt)) w.heap.size text false 0 0 ⟨#[]⟩ 0 0 := by
    intro o tt
    unfold RD
    rw [Below.heap_alloc _ _ _ (by simp)]
    simp only [World.alloc, Array.getElem?_push_size]
  have k1 : ∀ (o : Array Value) (tt : TypeId), Kept w ((w.alloc (.cells #[.string text, .bool false, .int .i64 0, .int .i64 0, .string ⟨#[]⟩, .int .i64 0, .int .i64 0] 95)).alloc (.cells o tt)) := fun o tt => ((Kept.refl w).alloc (Nat.le_refl _) _).alloc (by simp) _
  cases hok : parseOk text.data.toList
  · have e1 : parseV text.data.toList = 0 := by simp [parseV, hok]
    have e2 : parseE text.data.toList = 21 := by simp [parseE, hok]
    rw [e1, e2]
    clear e1 e2
    go_enter Tryd.func50, Tryd.ntmps50
    go_wp2_with (fail)
    refine (follow2_any w.heap.size (w.heap.size + 1) text _ (by omega) (hrd _ _) hs (by simp) (by go_simp) (by go_simp)).mono ?_
    rintro e w2 ⟨rfl, h2, o2⟩
    have k2 : Kept w w2 := Below.trans (k1 _ _) (o2.below (B := w.heap.size) (Nat.le_refl _) (by simp; omega))
    go_wp2
    go_ret2
    exact ⟨rfl, k2⟩
  · have e1 : parseV text.data.toList = dimV (if minusOf text.data.toList then -(65536 * wholeN (digs (afterSign text.data.toList)) + fracN (numBehind (afterSign text.data.toList))) else 65536 * wholeN (digs (afterSign text.data.toList)) + fracN (numBehind (afterSign text.data.toList))) := by simp [parseV, hok, sizeOfText]
    have e2 : parseE text.data.toList = dimE (65536 * wholeN (digs (afterSign text.data.toList)) + fracN (numBehind (afterSign text.data.toList))) := by simp [parseE, hok, sizeOfText]
    rw [e1, e2]
    clear e1 e2
    have hb1 := wholeN_bd (digs (afterSign text.data.toList)) (digs_all_dig _)
    have hb2 := fracN_bd (numBehind (afterSign text.data.toList)) (numBehind_dig _)
    cases hm : minusOf text.data.toList
    all_goals
      first | rw [if_pos rfl] | rw [if_neg Bool.false_ne_true]
      go_enter Tryd.func50, Tryd.ntmps50
      go_wp2_with (fail)
      refine (follow2_any w.heap.size (w.heap.size + 1) text _ (by omega) (hrd _ _) hs (by simp) (by go_simp) (by go_simp)).mono ?_
      rintro e w2 ⟨rfl, h2, o2⟩
      have k2 : Kept w w2 := Below.trans (k1 _ _) (o2.below (B := w.heap.size) (Nat.le_refl _) (by simp; omega))
      generalize hwh : wholeN (digs (afterSign text.data.toList)) = wh at *
      generalize hfr : fracN (numBehind (afterSign text.data.toList)) = fr at *
      have Hwh := Lib.hid hwh
      have Hfr := Lib.hid hfr
      clear hwh hfr
      obtain ⟨a0, a1⟩ := hb1
      obtain ⟨b0, b1⟩ := hb2
      rw [hm] at h2
      have c2 := h2.c2
      have c3 := h2.c3
      have H2 := Lib.hid h2
      clear h2 o2 hrd k1
      go_wp2_with (fail)
      go_quiet ((go_at_call 67; exact Calls.quiet_of_same (signed_any _ _ _ _ _ _ _ _ _ _ H2.out (by omega) (by omega))))
      go_wp2
      go_ret2
      exact ⟨by rw [Hwh.out, Hfr.out]; rfl, below_drewN k2 _⟩
end Go.Proofs.YtcikgaflnhpklaaDoor
