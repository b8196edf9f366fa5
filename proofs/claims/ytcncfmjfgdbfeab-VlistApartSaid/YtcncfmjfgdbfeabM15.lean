/- NodH NodI. -/
import Derived.Test.YtcncfmjfgdbfeabNodG
namespace Go.Proofs.Ytcncfmjfgdbfeab
open Go.RowKit

def flB (s o : Int) : Bool := dimB s && ordB o
set_option maxRecDepth 100000 in
set_option maxHeartbeats 4000000 in
theorem fright_any (s o : Int) (w : World) :
    Calls Try.prog 64 #[flexV s o] w fun e w' => e = .returned (.bool (flB s o)) ∧ Kept w w' := by
  refine g_enter (args := [flexV s o]) [] [] Try.func64 rfl Try.ntmps64 (Nat.le_of_ble_eq_true (by kernel_rfl)) (sat0 w) ?_
  refine g_run 9999 [] 0 (by kernel_rfl) ?_
  refine g_new (fun b => by kernel_rfl) fun b0 hb0 => ?_
  refine g_run 9999 ([0]) 0 (by kernel_rfl) ?_
  refine g_callq _ _ _ ?_ (fun w hs => gdim_any s w) ?_
  · kernel_rfl
  refine g_run 9999 [] 0 (by kernel_rfl) ?_
  refine g_dec 6 (dimB s) (by kernel_rfl) (fun h6 => ?_) (fun h6 => ?_)
  · refine g_run 9999 ([0]) 3 (by kernel_rfl) ?_
    refine g_dec 11 (decide (o ≥ 0)) (by kernel_rfl) (fun h11 => ?_) (fun h11 => ?_)
    · refine g_run 9999 ([0]) 3 (by kernel_rfl) ?_
      refine g_ret [] (Value.bool (decide (o < 4))) (by kernel_rfl) (by kernel_rfl) (by kernel_rfl) fun w' hs => ?_
      exact ⟨ret_bool (by clear hs; (try simp at *); simp [flB, ordB, *]), hs.kept.kept⟩
    · refine g_run 9999 [] 3 (by kernel_rfl) ?_
      refine g_ret [] (Value.bool false) (by kernel_rfl) (by kernel_rfl) (by kernel_rfl) fun w' hs => ?_
      exact ⟨ret_bool (by clear hs; (try simp at *); simp [flB, ordB, *]; omega), hs.kept.kept⟩
  · refine g_run 9999 [] 6 (by kernel_rfl) ?_
    refine g_ret [] (Value.bool false) (by kernel_rfl) (by kernel_rfl) (by kernel_rfl) fun w' hs => ?_
    exact ⟨ret_bool (by clear hs; (try simp at *); simp [flB, ordB, *]), hs.kept.kept⟩
def glueB (a b c d f : Int) : Bool := dimB a && flB b d && flB c f
def errG (ok : Bool) : Int := bif ok then 0 else 30
set_option maxRecDepth 100000 in
set_option maxHeartbeats 4000000 in
theorem gcheck_any (a b c d f : Int) (w : World) :
    Calls Try.prog 40 #[.agg #[.int .i64 a, .int .i64 b, .int .i64 c, .int .i64 d, .int .i64 f]] w fun e w' => e = .returned (.int .i64 (errG (glueB a b c d f))) ∧ Kept w w' := by
  refine g_enter (args := [.agg #[.int .i64 a, .int .i64 b, .int .i64 c, .int .i64 d, .int .i64 f]]) [] [] Try.func40 rfl Try.ntmps40 (Nat.le_of_ble_eq_true (by kernel_rfl)) (sat0 w) ?_
  refine g_run 9999 [] 0 (by kernel_rfl) ?_
  refine g_new (fun b => by kernel_rfl) fun b0 hb0 => ?_
  refine g_run 9999 ([0]) 0 (by kernel_rfl) ?_
  refine g_callq _ _ _ ?_ (fun w hs => gdim_any a w) ?_
  · kernel_rfl
  refine g_run 9999 [] 0 (by kernel_rfl) ?_
  refine g_dec 7 (!dimB a) (by kernel_rfl) (fun h7 => ?_) (fun h7 => ?_)
  · refine g_run 9999 [] 9 (by kernel_rfl) ?_
    refine g_ret [] (Value.int IntKind.i64 30) (by kernel_rfl) (by kernel_rfl) (by kernel_rfl) fun w' hs => ?_
    exact ⟨ret_int (by clear hs; (try simp at *); simp [glueB, errG, *]), hs.kept.kept⟩
  · refine g_run 9999 (List.replicate 5 0) 1 (by kernel_rfl) ?_
    refine g_callq _ _ _ ?_ (fun w hs => stretch_any a b c d f w) ?_
    · kernel_rfl
    refine g_callq _ _ _ ?_ (fun w hs => fright_any b d w) ?_
    · kernel_rfl
    refine g_run 9999 [] 1 (by kernel_rfl) ?_
    refine g_dec 13 (!flB b d) (by kernel_rfl) (fun h13 => ?_) (fun h13 => ?_)
    · refine g_run 9999 [] 5 (by kernel_rfl) ?_
      refine g_ret [] (Value.int IntKind.i64 30) (by kernel_rfl) (by kernel_rfl) (by kernel_rfl) fun w' hs => ?_
      exact ⟨ret_int (by clear hs; (try simp at *); simp [glueB, errG, *]), hs.kept.kept⟩
    · refine g_run 9999 (List.replicate 5 0) 1 (by kernel_rfl) ?_
      refine g_callq _ _ _ ?_ (fun w hs => shrink_any a b c d f w) ?_
      · kernel_rfl
      refine g_callq _ _ _ ?_ (fun w hs => fright_any c f w) ?_
      · kernel_rfl
      refine g_run 9999 [] 1 (by kernel_rfl) ?_
      refine g_dec 18 (!flB c f) (by kernel_rfl) (fun h18 => ?_) (fun h18 => ?_)
      · refine g_run 9999 [] 1 (by kernel_rfl) ?_
        refine g_ret [] (Value.int IntKind.i64 30) (by kernel_rfl) (by kernel_rfl) (by kernel_rfl) fun w' hs => ?_
        exact ⟨ret_int (by clear hs; (try simp at *); simp [glueB, errG, *]), hs.kept.kept⟩
      · refine g_run 9999 [] 1 (by kernel_rfl) ?_
        refine g_ret [] (Value.int IntKind.i64 0) (by kernel_rfl) (by kernel_rfl) (by kernel_rfl) fun w' hs => ?_
        exact ⟨ret_int (by clear hs; (try simp at *); simp [glueB, errG, *]), hs.kept.kept⟩
end Go.Proofs.Ytcncfmjfgdbfeab
namespace Go.Proofs.Ytcncfmjfgdbfeab
open Go.RowKit

def zeroN : Nod := ⟨0, 0, 0, 0, 0, 0, 0, 0, 0, 0, 0, 0, 0, 0, 0, 0, 0, 0, ⟨#[]⟩⟩
def glyphB (n : Nod) : Bool := decide (0 ≤ n.font) && decide (n.font < 64) && d3B n.w n.h n.d
def charB (n : Nod) : Bool := glyphB n && onlyB n ⟨0, n.font, n.char, n.w, n.h, n.d, 0, 0, 0, 0, 0, 0, 0, 0, 0, 0, 0, 0, ⟨#[]⟩⟩
def ligB (n : Nod) : Bool := glyphB n && decide (1 ≤ (n.text.size : Int)) && decide ((n.text.size : Int) ≤ 63) && onlyB n ⟨0, n.font, n.char, n.w, n.h, n.d, 0, 0, 0, 0, 0, 0, 0, 0, 0, 0, 0, 0, n.text⟩
def kernB (n : Nod) : Bool := dimB n.w && decide (0 ≤ n.sub) && decide (n.sub ≤ 2) && onlyB n ⟨0, 0, 0, n.w, 0, 0, 0, 0, 0, 0, 0, 0, 0, 0, 0, 0, 0, n.sub, ⟨#[]⟩⟩
def pricedB (n : Nod) : Bool := decide (-2147483647 ≤ n.pen) && decide (n.pen ≤ 2147483647)
def penB (n : Nod) : Bool := pricedB n && onlyB n ⟨0, 0, 0, 0, 0, 0, 0, 0, 0, 0, 0, 0, 0, 0, 0, 0, n.pen, 0, ⟨#[]⟩⟩
def msgB (n : Nod) : Bool := decide ((n.text.size : Int) ≤ 1000) && onlyB n ⟨0, 0, 0, 0, 0, 0, 0, 0, 0, 0, 0, 0, 0, 0, 0, 0, 0, 0, n.text⟩
def mathB (n : Nod) : Bool := dimB n.w && onlyB n ⟨0, 0, 0, n.w, 0, 0, 0, 0, 0, 0, 0, 0, 0, 0, 0, 0, 0, 0, ⟨#[]⟩⟩
def gluedB (n : Nod) : Bool := glueB n.nat n.str n.shr n.so n.sho
def skipB (n : Nod) : Bool := gluedB n && decide (0 ≤ n.sub) && decide (n.sub ≤ 20) && onlyB n ⟨0, 0, 0, 0, 0, 0, 0, n.nat, n.str, n.shr, n.so, n.sho, 0, 0, 0, 0, 0, n.sub, ⟨#[]⟩⟩
def insB (n : Nod) : Bool := decide (0 ≤ n.sub) && decide (n.sub ≤ 254) && d2B n.h n.d && pricedB n && gluedB n && onlyB n ⟨0, 0, 0, 0, n.h, n.d, 0, n.nat, n.str, n.shr, n.so, n.sho, 0, 0, 0, 0, n.pen, n.sub, ⟨#[]⟩⟩
def setB (n : Nod) : Bool :=
  bif decide (n.sign = 0) then decide (n.ord = 0) && decide (n.num = 0) && decide (n.den = 0)
  else bif decide (n.sign = 1) || decide (n.sign = 2) then
    !(decide (n.sign = 2) && decide (n.ord = 0) && decide (n.num > n.den)) &&
      (decide (0 ≤ n.ord) && decide (n.ord ≤ 3) && decide (1 ≤ n.num) && decide (n.num ≤ 1152921504606846976) && decide (1 ≤ n.den) && decide (n.den ≤ 1152921504606846976))
  else false
def boxB (n : Nod) : Bool := d4B n.w n.h n.d n.shift && setB n && onlyB n ⟨0, 0, 0, n.w, n.h, n.d, n.shift, 0, 0, 0, 0, 0, n.sign, n.ord, n.num, n.den, 0, 0, ⟨#[]⟩⟩
def ownN (n : Nod) : Nod :=
  bif decide (n.sub = 0) then ⟨0, 0, 0, n.w, n.h, n.d, 0, 0, 0, 0, 0, 0, 0, 0, 0, 0, 0, n.sub, ⟨#[]⟩⟩ else bif decide (n.sub = 1) then ⟨0, 0, 0, 0, n.h, n.d, 0, 0, 0, 0, 0, 0, 0, 0, 0, 0, 0, n.sub, ⟨#[]⟩⟩ else bif decide (n.sub = 2) then ⟨0, 0, 0, n.w, 0, 0, 0, 0, 0, 0, 0, 0, 0, 0, 0, 0, 0, n.sub, ⟨#[]⟩⟩ else ⟨0, 0, 0, 0, 0, 0, 0, 0, 0, 0, 0, 0, 0, 0, 0, 0, 0, n.sub, ⟨#[]⟩⟩
def ruleB (n : Nod) : Bool := (decide (0 ≤ n.sub) && decide (n.sub ≤ 3)) && d3B n.w n.h n.d && onlyB n (ownN n)
set_option maxRecDepth 100000 in
set_option maxHeartbeats 4000000 in
theorem bare_any (n : Nod) (w : World) :
    Calls Try.prog 96 #[nodV n] w fun e w' => e = .returned (.bool ((fun n => onlyB n zeroN) n)) ∧ Kept w w' := by
  refine g_enter (args := [nodV n]) [] [] Try.func96 rfl Try.ntmps96 (Nat.le_of_ble_eq_true (by kernel_rfl)) (sat0 w) ?_
  refine g_run 9999 [] 0 (by kernel_rfl) ?_
  refine g_new (fun b => by kernel_rfl) fun b0 hb0 => ?_
  refine g_run 9999 (List.replicate 19 0) 0 (by kernel_rfl) ?_
  refine g_callq _ _ _ ?_ (fun w hs => only_any n zeroN w) ?_
  · kernel_rfl
  refine g_run 9999 [] 0 (by kernel_rfl) ?_
  refine g_ret [] (Value.bool (onlyB n zeroN)) (by kernel_rfl) (by kernel_rfl) (by kernel_rfl) fun w' hs => ?_
  exact ⟨rfl, hs.kept.kept⟩
set_option maxRecDepth 100000 in
set_option maxHeartbeats 4000000 in
theorem glyph_any (n : Nod) (w : World) :
    Calls Try.prog 107 #[nodV n] w fun e w' => e = .returned (.bool (glyphB n)) ∧ Kept w w' := by
  refine g_enter (args := [nodV n]) [] [] Try.func107 rfl Try.ntmps107 (Nat.le_of_ble_eq_true (by kernel_rfl)) (sat0 w) ?_
  refine g_run 9999 [] 0 (by kernel_rfl) ?_
  refine g_new (fun b => by kernel_rfl) fun b0 hb0 => ?_
  refine g_run 9999 ([0]) 0 (by kernel_rfl) ?_
  refine g_dec 6 (decide (n.font ≥ 0)) (by kernel_rfl) (fun h6 => ?_) (fun h6 => ?_)
  · refine g_run 9999 ([0]) 3 (by kernel_rfl) ?_
    refine g_dec 11 (decide (n.font < 64)) (by kernel_rfl) (fun h11 => ?_) (fun h11 => ?_)
    · refine g_run 9999 ([0, 0, 0]) 6 (by kernel_rfl) ?_
      refine g_new (fun b => by kernel_rfl) fun b1 hb1 => ?_
      refine g_callq _ _ _ ?_ (fun w hs => dims3 b1 n.w n.h n.d w (hs.obj (o := true) (i := 1) (by kernel_rfl))) ?_
      · kernel_rfl
      refine g_run 9999 [] 0 (by kernel_rfl) ?_
      refine g_ret [] (Value.bool (d3B n.w n.h n.d)) (by kernel_rfl) (by kernel_rfl) (by kernel_rfl) fun w' hs => ?_
      exact ⟨ret_bool (by clear hs; (try simp at *); simp [glyphB, *]), hs.kept.kept⟩
    · refine g_run 9999 [] 8 (by kernel_rfl) ?_
      refine g_ret [] (Value.bool false) (by kernel_rfl) (by kernel_rfl) (by kernel_rfl) fun w' hs => ?_
      exact ⟨ret_bool (by clear hs; (try simp at *); simp [glyphB, *]; omega), hs.kept.kept⟩
  · refine g_run 9999 [] 11 (by kernel_rfl) ?_
    refine g_ret [] (Value.bool false) (by kernel_rfl) (by kernel_rfl) (by kernel_rfl) fun w' hs => ?_
    exact ⟨ret_bool (by clear hs; (try simp at *); simp [glyphB, *]; omega), hs.kept.kept⟩
set_option maxRecDepth 100000 in
set_option maxHeartbeats 4000000 in
theorem char_any (n : Nod) (w : World) :
    Calls Try.prog 92 #[nodV n] w fun e w' => e = .returned (.bool (charB n)) ∧ Kept w w' := by
  refine g_enter (args := [nodV n]) [] [] Try.func92 rfl Try.ntmps92 (Nat.le_of_ble_eq_true (by kernel_rfl)) (sat0 w) ?_
  refine g_run 9999 [] 0 (by kernel_rfl) ?_
  refine g_new (fun b => by kernel_rfl) fun b0 hb0 => ?_
  refine g_run 9999 (List.replicate 19 0) 0 (by kernel_rfl) ?_
  refine g_callq _ _ _ ?_ (fun w hs => glyph_any n w) ?_
  · kernel_rfl
  refine g_run 9999 [] 0 (by kernel_rfl) ?_
  refine g_dec 5 (glyphB n) (by kernel_rfl) (fun h5 => ?_) (fun h5 => ?_)
  · refine g_run 9999 (List.replicate 24 0) 12 (by kernel_rfl) ?_
    refine g_callq _ _ _ ?_ (fun w hs => only_any n ⟨0, n.font, n.char, n.w, n.h, n.d, 0, 0, 0, 0, 0, 0, 0, 0, 0, 0, 0, 0, ⟨#[]⟩⟩ w) ?_
    · kernel_rfl
    refine g_run 9999 [] 0 (by kernel_rfl) ?_
    refine g_ret [] (Value.bool (onlyB n { kind := 0, font := n.font, char := n.char, w := n.w, h := n.h, d := n.d, shift := 0, nat := 0, str := 0, shr := 0, so := 0, sho := 0, sign := 0, ord := 0, num := 0, den := 0, pen := 0, sub := 0, text := { data := #[] } })) (by kernel_rfl) (by kernel_rfl) (by kernel_rfl) fun w' hs => ?_
    exact ⟨ret_bool (by clear hs; (try simp at *); simp [charB, *]), hs.kept.kept⟩
  · refine g_run 9999 [] 13 (by kernel_rfl) ?_
    refine g_ret [] (Value.bool false) (by kernel_rfl) (by kernel_rfl) (by kernel_rfl) fun w' hs => ?_
    exact ⟨ret_bool (by clear hs; (try simp at *); simp [charB, *]), hs.kept.kept⟩
end Go.Proofs.Ytcncfmjfgdbfeab
