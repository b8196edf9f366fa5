/- nodes: is it a node? More rules. -/
import Derived.Test.YtcncfmjfgdbfeabM3
namespace Go.Proofs.Ytcncfmjfgdbfeab
set_option maxRecDepth 100000
set_option maxHeartbeats 4000000
open Go.RowKit
theorem priced_any (n : Nod) (w : World) :
  Calls Try.prog 112 #[nodV n] w fun e w' => e = .returned (.bool (pricedB n)) ∧ Kept w w' := by
 refine g_enter (args := [nodV n]) [] [] Try.func112 rfl Try.ntmps112 kL (sat0 w) ?_
 refine g0 ?_
 refine gN fun b0 hb0 => ?_
 refine gA ([0]) 0 ?_
 refine g_dec 6 (decide (n.pen ≥ -2147483647)) kR (fun h6 => ?_) (fun h6 => ?_)
 ·refine gA ([0]) 3 ?_
  refine gR (Value.bool (decide (n.pen ≤ 2147483647))) fun w' hs => ?_
  exact ⟨ret_bool (by clear hs; (try simp at *); simp [pricedB, *]), hs.kk⟩
 refine gA [] 3 ?_
 refine gR (Value.bool false) fun w' hs => ?_
 exact ⟨ret_bool (by clear hs; (try simp at *); simp [pricedB, *]; omega), hs.kk⟩
theorem penalty_any (n : Nod) (w : World) :
  Calls Try.prog 99 #[nodV n] w fun e w' => e = .returned (.bool (penB n)) ∧ Kept w w' := by
 refine g_enter (args := [nodV n]) [] [] Try.func99 rfl Try.ntmps99 kL (sat0 w) ?_
 refine g0 ?_
 refine gN fun b0 hb0 => ?_
 refine gA (List.replicate 19 0) 0 ?_
 refine g_callq _ _ _ ?_ (fun w hs => priced_any n w) ?_
 ·kernel_rfl
 refine g0 ?_
 refine g_dec 5 (pricedB n) kR (fun h5 => ?_) (fun h5 => ?_)
 ·refine gA (List.replicate 20 0) 4 ?_
  refine g_callq _ _ _ ?_ (fun w hs => only_any n ⟨0, 0, 0, 0, 0, 0, 0, 0, 0, 0, 0, 0, 0, 0, 0, 0, n.pen, 0, ⟨#[]⟩⟩ w) ?_
  ·kernel_rfl
  refine g0 ?_
  refine gR (Value.bool (onlyB n { kind := 0, font := 0, char := 0, w := 0, h := 0, d := 0, shift := 0, nat := 0, str := 0, shr := 0, so := 0, sho := 0, sign := 0, ord := 0, num := 0, den := 0, pen := n.pen, sub := 0, text := { data := #[] } })) fun w' hs => ?_
  exact ⟨ret_bool (by clear hs; (try simp at *); simp [penB, *]), hs.kk⟩
 refine gA [] 5 ?_
 refine gR (Value.bool false) fun w' hs => ?_
 exact ⟨ret_bool (by clear hs; (try simp at *); simp [penB, *]), hs.kk⟩
theorem message_any (n : Nod) (w : World) :
  Calls Try.prog 100 #[nodV n] w fun e w' => e = .returned (.bool (msgB n)) ∧ Kept w w' := by
 refine g_enter (args := [nodV n]) [] [] Try.func100 rfl Try.ntmps100 kL (sat0 w) ?_
 refine g0 ?_
 refine gN fun b0 hb0 => ?_
 refine gA ([0]) 0 ?_
 refine g_dec 7 (decide ((↑n.text.size : Int) ≤ 1000)) kR (fun h7 => ?_) (fun h7 => ?_)
 ·refine gA (List.replicate 20 0) 4 ?_
  refine g_callq _ _ _ ?_ (fun w hs => only_any n ⟨0, 0, 0, 0, 0, 0, 0, 0, 0, 0, 0, 0, 0, 0, 0, 0, 0, 0, n.text⟩ w) ?_
  ·kernel_rfl
  refine g0 ?_
  refine gR (Value.bool (onlyB n { kind := 0, font := 0, char := 0, w := 0, h := 0, d := 0, shift := 0, nat := 0, str := 0, shr := 0, so := 0, sho := 0, sign := 0, ord := 0, num := 0, den := 0, pen := 0, sub := 0, text := n.text })) fun w' hs => ?_
  exact ⟨ret_bool (by clear hs; (try simp at *); simp [msgB, *]), hs.kk⟩
 refine gA [] 5 ?_
 refine gR (Value.bool false) fun w' hs => ?_
 exact ⟨ret_bool (by clear hs; (try simp at *); simp [msgB, *]; omega), hs.kk⟩
theorem math_any (n : Nod) (w : World) :
  Calls Try.prog 102 #[nodV n] w fun e w' => e = .returned (.bool (mathB n)) ∧ Kept w w' := by
 refine g_enter (args := [nodV n]) [] [] Try.func102 rfl Try.ntmps102 kL (sat0 w) ?_
 refine g0 ?_
 refine gN fun b0 hb0 => ?_
 refine gA ([0]) 0 ?_
 refine gN fun b1 hb1 => ?_
 refine g_callq _ _ _ ?_ (fun w hs => dims1 b1 n.w w (hs.obj (o := true) (i := 1) kR)) ?_
 ·kernel_rfl
 refine g0 ?_
 refine g_dec 7 (dimB n.w) kR (fun h7 => ?_) (fun h7 => ?_)
 ·refine gA (List.replicate 20 0) 4 ?_
  refine g_callq _ _ _ ?_ (fun w hs => only_any n ⟨0, 0, 0, n.w, 0, 0, 0, 0, 0, 0, 0, 0, 0, 0, 0, 0, 0, 0, ⟨#[]⟩⟩ w) ?_
  ·kernel_rfl
  refine g0 ?_
  refine gR (Value.bool (onlyB n { kind := 0, font := 0, char := 0, w := n.w, h := 0, d := 0, shift := 0, nat := 0, str := 0, shr := 0, so := 0, sho := 0, sign := 0, ord := 0, num := 0, den := 0, pen := 0, sub := 0, text := { data := #[] } })) fun w' hs => ?_
  exact ⟨ret_bool (by clear hs; (try simp at *); simp [mathB, *]), hs.kk⟩
 refine gA [] 5 ?_
 refine gR (Value.bool false) fun w' hs => ?_
 exact ⟨ret_bool (by clear hs; (try simp at *); simp [mathB, *]), hs.kk⟩
theorem kern_any (n : Nod) (w : World) :
  Calls Try.prog 98 #[nodV n] w fun e w' => e = .returned (.bool (kernB n)) ∧ Kept w w' := by
 refine g_enter (args := [nodV n]) [] [] Try.func98 rfl Try.ntmps98 kL (sat0 w) ?_
 refine g0 ?_
 refine gN fun b0 hb0 => ?_
 refine gA ([0]) 0 ?_
 refine gN fun b1 hb1 => ?_
 refine g_callq _ _ _ ?_ (fun w hs => dims1 b1 n.w w (hs.obj (o := true) (i := 1) kR)) ?_
 ·kernel_rfl
 refine g0 ?_
 refine g_dec 7 (dimB n.w) kR (fun h7 => ?_) (fun h7 => ?_)
 ·refine gA ([0]) 3 ?_
  refine g_dec 12 (decide (n.sub ≥ 0)) kR (fun h12 => ?_) (fun h12 => ?_)
  ·refine gA ([0]) 3 ?_
   refine g_dec 17 (decide (n.sub ≤ 2)) kR (fun h17 => ?_) (fun h17 => ?_)
   ·refine gA (List.replicate 21 0) 6 ?_
    refine g_callq _ _ _ ?_ (fun w hs => only_any n ⟨0, 0, 0, n.w, 0, 0, 0, 0, 0, 0, 0, 0, 0, 0, 0, 0, 0, n.sub, ⟨#[]⟩⟩ w) ?_
    ·kernel_rfl
    refine g0 ?_
    refine gR (Value.bool (onlyB n { kind := 0, font := 0, char := 0, w := n.w, h := 0, d := 0, shift := 0, nat := 0, str := 0, shr := 0, so := 0, sho := 0, sign := 0, ord := 0, num := 0, den := 0, pen := 0, sub := n.sub, text := { data := #[] } })) fun w' hs => ?_
    exact ⟨ret_bool (by clear hs; (try simp at *); simp [kernB, *]), hs.kk⟩
   refine gA [] 7 ?_
   refine gR (Value.bool false) fun w' hs => ?_
   exact ⟨ret_bool (by clear hs; (try simp at *); simp [kernB, *]; omega), hs.kk⟩
  refine gA [] 10 ?_
  refine gR (Value.bool false) fun w' hs => ?_
  exact ⟨ret_bool (by clear hs; (try simp at *); simp [kernB, *]; omega), hs.kk⟩
 refine gA [] 13 ?_
 refine gR (Value.bool false) fun w' hs => ?_
 exact ⟨ret_bool (by clear hs; (try simp at *); simp [kernB, *]), hs.kk⟩
theorem ligature_any (n : Nod) (w : World) :
  Calls Try.prog 93 #[nodV n] w fun e w' => e = .returned (.bool (ligB n)) ∧ Kept w w' := by
 refine g_enter (args := [nodV n]) [] [] Try.func93 rfl Try.ntmps93 kL (sat0 w) ?_
 refine g0 ?_
 refine gN fun b0 hb0 => ?_
 refine gA (List.replicate 19 0) 0 ?_
 refine g_callq _ _ _ ?_ (fun w hs => glyph_any n w) ?_
 ·kernel_rfl
 refine g0 ?_
 refine g_dec 5 (glyphB n) kR (fun h5 => ?_) (fun h5 => ?_)
 ·refine gA ([0]) 4 ?_
  refine g_dec 11 (decide ((↑n.text.size : Int) ≥ 1)) kR (fun h11 => ?_) (fun h11 => ?_)
  ·refine gA ([0]) 4 ?_
   refine g_dec 17 (decide ((↑n.text.size : Int) ≤ 63)) kR (fun h17 => ?_) (fun h17 => ?_)
   ·refine gA (List.replicate 25 0) 14 ?_
    refine g_callq _ _ _ ?_ (fun w hs => only_any n ⟨0, n.font, n.char, n.w, n.h, n.d, 0, 0, 0, 0, 0, 0, 0, 0, 0, 0, 0, 0, n.text⟩ w) ?_
    ·kernel_rfl
    refine g0 ?_
    refine gR (Value.bool (onlyB n { kind := 0, font := n.font, char := n.char, w := n.w, h := n.h, d := n.d, shift := 0, nat := 0, str := 0, shr := 0, so := 0, sho := 0, sign := 0, ord := 0, num := 0, den := 0, pen := 0, sub := 0, text := n.text })) fun w' hs => ?_
    exact ⟨ret_bool (by clear hs; (try simp at *); simp [ligB, *]), hs.kk⟩
   refine gA [] 15 ?_
   refine gR (Value.bool false) fun w' hs => ?_
   exact ⟨ret_bool (by clear hs; (try simp at *); simp [ligB, *]; omega), hs.kk⟩
  refine gA [] 19 ?_
  refine gR (Value.bool false) fun w' hs => ?_
  exact ⟨ret_bool (by clear hs; (try simp at *); simp [ligB, *]; omega), hs.kk⟩
 refine gA [] 23 ?_
 refine gR (Value.bool false) fun w' hs => ?_
 exact ⟨ret_bool (by clear hs; (try simp at *); simp [ligB, *]), hs.kk⟩
theorem glued_any (n : Nod) (w : World) :
  Calls Try.prog 111 #[nodV n] w fun e w' => e = .returned (.bool (gluedB n)) ∧ Kept w w' := by
 refine g_enter (args := [nodV n]) [] [] Try.func111 rfl Try.ntmps111 kL (sat0 w) ?_
 refine g0 ?_
 refine gN fun b0 hb0 => ?_
 refine gA (List.replicate 5 0) 0 ?_
 refine g_callq _ _ _ ?_ (fun w hs => gcheck_any n.nat n.str n.shr n.so n.sho w) ?_
 ·kernel_rfl
 refine g0 ?_
 refine gR (Value.bool (errG (glueB n.nat n.str n.shr n.so n.sho) == 0)) fun w' hs => ?_
 exact ⟨ret_bool (by clear hs; simp only [gluedB, errG]; cases glueB n.nat n.str n.shr n.so n.sho <;> rfl), hs.kk⟩
theorem skip_any (n : Nod) (w : World) :
  Calls Try.prog 97 #[nodV n] w fun e w' => e = .returned (.bool (skipB n)) ∧ Kept w w' := by
 refine g_enter (args := [nodV n]) [] [] Try.func97 rfl Try.ntmps97 kL (sat0 w) ?_
 refine g0 ?_
 refine gN fun b0 hb0 => ?_
 refine gA (List.replicate 19 0) 0 ?_
 refine g_callq _ _ _ ?_ (fun w hs => glued_any n w) ?_
 ·kernel_rfl
 refine g0 ?_
 refine g_dec 5 (gluedB n) kR (fun h5 => ?_) (fun h5 => ?_)
 ·refine gA ([0]) 3 ?_
  refine g_dec 10 (decide (n.sub ≥ 0)) kR (fun h10 => ?_) (fun h10 => ?_)
  ·refine gA ([0]) 3 ?_
   refine g_dec 15 (decide (n.sub ≤ 20)) kR (fun h15 => ?_) (fun h15 => ?_)
   ·refine gA (List.replicate 25 0) 6 ?_
    refine g_callq _ _ _ ?_ (fun w hs => only_any n ⟨0, 0, 0, 0, 0, 0, 0, n.nat, n.str, n.shr, n.so, n.sho, 0, 0, 0, 0, 0, n.sub, ⟨#[]⟩⟩ w) ?_
    ·kernel_rfl
    refine g0 ?_
    refine gR (Value.bool (onlyB n { kind := 0, font := 0, char := 0, w := 0, h := 0, d := 0, shift := 0, nat := n.nat, str := n.str, shr := n.shr, so := n.so, sho := n.sho, sign := 0, ord := 0, num := 0, den := 0, pen := 0, sub := n.sub, text := { data := #[] } })) fun w' hs => ?_
    exact ⟨ret_bool (by clear hs; (try simp at *); simp [skipB, *]), hs.kk⟩
   refine gA [] 7 ?_
   refine gR (Value.bool false) fun w' hs => ?_
   exact ⟨ret_bool (by clear hs; (try simp at *); simp [skipB, *]; omega), hs.kk⟩
  refine gA [] 10 ?_
  refine gR (Value.bool false) fun w' hs => ?_
  exact ⟨ret_bool (by clear hs; (try simp at *); simp [skipB, *]; omega), hs.kk⟩
 refine gA [] 13 ?_
 refine gR (Value.bool false) fun w' hs => ?_
 exact ⟨ret_bool (by clear hs; (try simp at *); simp [skipB, *]), hs.kk⟩
theorem insert_any (n : Nod) (w : World) :
  Calls Try.prog 101 #[nodV n] w fun e w' => e = .returned (.bool (insB n)) ∧ Kept w w' := by
 refine g_enter (args := [nodV n]) [] [] Try.func101 rfl Try.ntmps101 kL (sat0 w) ?_
 refine g0 ?_
 refine gN fun b0 hb0 => ?_
 refine gA ([0]) 0 ?_
 refine g_dec 6 (decide (n.sub ≥ 0)) kR (fun h6 => ?_) (fun h6 => ?_)
 ·refine gA ([0]) 3 ?_
  refine g_dec 11 (decide (n.sub ≤ 254)) kR (fun h11 => ?_) (fun h11 => ?_)
  ·refine gA ([0, 0]) 4 ?_
   refine gN fun b1 hb1 => ?_
   refine g_callq _ _ _ ?_ (fun w hs => dims2 b1 n.h n.d w (hs.obj (o := true) (i := 1) kR)) ?_
   ·kernel_rfl
   refine g0 ?_
   refine g_dec 19 (d2B n.h n.d) kR (fun h19 => ?_) (fun h19 => ?_)
   ·refine gA (List.replicate 19 0) 1 ?_
    refine g_callq _ _ _ ?_ (fun w hs => priced_any n w) ?_
    ·kernel_rfl
    refine g0 ?_
    refine g_dec 23 (pricedB n) kR (fun h23 => ?_) (fun h23 => ?_)
    ·refine gA (List.replicate 19 0) 1 ?_
     refine g_callq _ _ _ ?_ (fun w hs => glued_any n w) ?_
     ·kernel_rfl
     refine g0 ?_
     refine g_dec 27 (gluedB n) kR (fun h27 => ?_) (fun h27 => ?_)
     ·refine gA (List.replicate 28 0) 12 ?_
      refine g_callq _ _ _ ?_ (fun w hs => only_any n ⟨0, 0, 0, 0, n.h, n.d, 0, n.nat, n.str, n.shr, n.so, n.sho, 0, 0, 0, 0, n.pen, n.sub, ⟨#[]⟩⟩ w) ?_
      ·kernel_rfl
      refine g0 ?_
      refine gR (Value.bool (onlyB n { kind := 0, font := 0, char := 0, w := 0, h := n.h, d := n.d, shift := 0, nat := n.nat, str := n.str, shr := n.shr, so := n.so, sho := n.sho, sign := 0, ord := 0, num := 0, den := 0, pen := n.pen, sub := n.sub, text := { data := #[] } })) fun w' hs => ?_
      exact ⟨ret_bool (by clear hs; (try simp at *); simp [insB, *]), hs.kk⟩
     refine gA [] 13 ?_
     refine gR (Value.bool false) fun w' hs => ?_
     exact ⟨ret_bool (by clear hs; (try simp at *); simp [insB, *]), hs.kk⟩
    refine gA [] 15 ?_
    refine gR (Value.bool false) fun w' hs => ?_
    exact ⟨ret_bool (by clear hs; (try simp at *); simp [insB, *]), hs.kk⟩
   refine gA [] 17 ?_
   refine gR (Value.bool false) fun w' hs => ?_
   exact ⟨ret_bool (by clear hs; (try simp at *); simp [insB, *]), hs.kk⟩
  refine gA [] 23 ?_
  refine gR (Value.bool false) fun w' hs => ?_
  exact ⟨ret_bool (by clear hs; (try simp at *); simp [insB, *]; omega), hs.kk⟩
 refine gA [] 26 ?_
 refine gR (Value.bool false) fun w' hs => ?_
 exact ⟨ret_bool (by clear hs; (try simp at *); simp [insB, *]; omega), hs.kk⟩
theorem set_any (n : Nod) (w : World) :
  Calls Try.prog 110 #[nodV n] w fun e w' => e = .returned (.bool (setB n)) ∧ Kept w w' := by
 refine g_enter (args := [nodV n]) [] [] Try.func110 rfl Try.ntmps110 kL (sat0 w) ?_
 refine g0 ?_
 refine gN fun b0 hb0 => ?_
 refine gA ([0]) 0 ?_
 refine g_dec 5 (n.sign == 0) kR (fun h5 => ?_) (fun h5 => ?_)
 ·refine gA ([0]) 1 ?_
  refine g_dec 10 (n.ord == 0) kR (fun h10 => ?_) (fun h10 => ?_)
  ·refine gA ([0]) 3 ?_
   refine g_dec 15 (n.num == 0) kR (fun h15 => ?_) (fun h15 => ?_)
   ·refine gA ([0]) 3 ?_
    refine gR (Value.bool (n.den == 0)) fun w' hs => ?_
    exact ⟨ret_bool (by clear hs; (try simp at *); rw [Bool.eq_iff_iff]; simp [setB, *]), hs.kk⟩
   refine gA [] 3 ?_
   refine gR (Value.bool false) fun w' hs => ?_
   exact ⟨ret_bool (by clear hs; (try simp at *); simp [setB, *]), hs.kk⟩
  refine gA [] 6 ?_
  refine gR (Value.bool false) fun w' hs => ?_
  exact ⟨ret_bool (by clear hs; (try simp at *); simp [setB, *]), hs.kk⟩
 refine gA [] 1 ?_
 refine g_dec 20 (n.sign == 1) kR (fun h20 => ?_) (fun h20 => ?_)
 ·refine gA ([0]) 2 ?_
  refine g_dec 26 (n.sign == 2) kR (fun h26 => ?_) (fun h26 => ?_)
  ·refine gA ([0]) 3 ?_
   refine g_dec 31 (n.ord == 0) kR (fun h31 => ?_) (fun h31 => ?_)
   ·refine gA ([0, 0]) 5 ?_
    refine g_dec 37 (decide (n.num > n.den)) kR (fun h37 => ?_) (fun h37 => ?_)
    ·refine gA [] 1 ?_
     refine gR (Value.bool false) fun w' hs => ?_
     exact ⟨ret_bool (by clear hs; (try simp at *); simp [setB, *]; omega), hs.kk⟩
    refine gA ([0]) 1 ?_
    refine g_dec 41 (decide (n.ord ≥ 0)) kR (fun h41 => ?_) (fun h41 => ?_)
    ·refine gA ([0]) 3 ?_
     refine g_dec 46 (decide (n.ord ≤ 3)) kR (fun h46 => ?_) (fun h46 => ?_)
     ·refine gA ([0]) 3 ?_
      refine g_dec 51 (decide (n.num ≥ 1)) kR (fun h51 => ?_) (fun h51 => ?_)
      ·refine gA ([0]) 3 ?_
       refine g_dec 56 (decide (n.num ≤ 1152921504606846976)) kR (fun h56 => ?_) (fun h56 => ?_)
       ·refine gA ([0]) 3 ?_
        refine g_dec 61 (decide (n.den ≥ 1)) kR (fun h61 => ?_) (fun h61 => ?_)
        ·refine gA ([0]) 3 ?_
         refine gR (Value.bool (decide (n.den ≤ 1152921504606846976))) fun w' hs => ?_
         exact ⟨ret_bool (by clear hs; (try simp at *); simp [setB, *]), hs.kk⟩
        refine gA [] 3 ?_
        refine gR (Value.bool false) fun w' hs => ?_
        exact ⟨ret_bool (by clear hs; (try simp at *); simp [setB, *]; omega), hs.kk⟩
       refine gA [] 6 ?_
       refine gR (Value.bool false) fun w' hs => ?_
       exact ⟨ret_bool (by clear hs; (try simp at *); simp [setB, *]; omega), hs.kk⟩
      refine gA [] 9 ?_
      refine gR (Value.bool false) fun w' hs => ?_
      exact ⟨ret_bool (by clear hs; (try simp at *); simp [setB, *]; omega), hs.kk⟩
     refine gA [] 12 ?_
     refine gR (Value.bool false) fun w' hs => ?_
     exact ⟨ret_bool (by clear hs; (try simp at *); simp [setB, *]; omega), hs.kk⟩
    refine gA [] 15 ?_
    refine gR (Value.bool false) fun w' hs => ?_
    exact ⟨ret_bool (by clear hs; (try simp at *); simp [setB, *]; omega), hs.kk⟩
   refine gA ([0]) 6 ?_
   refine g_dec 41 (decide (n.ord ≥ 0)) kR (fun h41 => ?_) (fun h41 => ?_)
   ·refine gA ([0]) 3 ?_
    refine g_dec 46 (decide (n.ord ≤ 3)) kR (fun h46 => ?_) (fun h46 => ?_)
    ·refine gA ([0]) 3 ?_
     refine g_dec 51 (decide (n.num ≥ 1)) kR (fun h51 => ?_) (fun h51 => ?_)
     ·refine gA ([0]) 3 ?_
      refine g_dec 56 (decide (n.num ≤ 1152921504606846976)) kR (fun h56 => ?_) (fun h56 => ?_)
      ·refine gA ([0]) 3 ?_
       refine g_dec 61 (decide (n.den ≥ 1)) kR (fun h61 => ?_) (fun h61 => ?_)
       ·refine gA ([0]) 3 ?_
        refine gR (Value.bool (decide (n.den ≤ 1152921504606846976))) fun w' hs => ?_
        exact ⟨ret_bool (by clear hs; (try simp at *); simp [setB, *]), hs.kk⟩
       refine gA [] 3 ?_
       refine gR (Value.bool false) fun w' hs => ?_
       exact ⟨ret_bool (by clear hs; (try simp at *); simp [setB, *]; omega), hs.kk⟩
      refine gA [] 6 ?_
      refine gR (Value.bool false) fun w' hs => ?_
      exact ⟨ret_bool (by clear hs; (try simp at *); simp [setB, *]; omega), hs.kk⟩
     refine gA [] 9 ?_
     refine gR (Value.bool false) fun w' hs => ?_
     exact ⟨ret_bool (by clear hs; (try simp at *); simp [setB, *]; omega), hs.kk⟩
    refine gA [] 12 ?_
    refine gR (Value.bool false) fun w' hs => ?_
    exact ⟨ret_bool (by clear hs; (try simp at *); simp [setB, *]; omega), hs.kk⟩
   refine gA [] 15 ?_
   refine gR (Value.bool false) fun w' hs => ?_
   exact ⟨ret_bool (by clear hs; (try simp at *); simp [setB, *]; omega), hs.kk⟩
  refine gA ([0]) 9 ?_
  refine g_dec 41 (decide (n.ord ≥ 0)) kR (fun h41 => ?_) (fun h41 => ?_)
  ·refine gA ([0]) 3 ?_
   refine g_dec 46 (decide (n.ord ≤ 3)) kR (fun h46 => ?_) (fun h46 => ?_)
   ·refine gA ([0]) 3 ?_
    refine g_dec 51 (decide (n.num ≥ 1)) kR (fun h51 => ?_) (fun h51 => ?_)
    ·refine gA ([0]) 3 ?_
     refine g_dec 56 (decide (n.num ≤ 1152921504606846976)) kR (fun h56 => ?_) (fun h56 => ?_)
     ·refine gA ([0]) 3 ?_
      refine g_dec 61 (decide (n.den ≥ 1)) kR (fun h61 => ?_) (fun h61 => ?_)
      ·refine gA ([0]) 3 ?_
       refine gR (Value.bool (decide (n.den ≤ 1152921504606846976))) fun w' hs => ?_
       exact ⟨ret_bool (by clear hs; (try simp at *); simp [setB, *]), hs.kk⟩
      refine gA [] 3 ?_
      refine gR (Value.bool false) fun w' hs => ?_
      exact ⟨ret_bool (by clear hs; (try simp at *); simp [setB, *]; omega), hs.kk⟩
     refine gA [] 6 ?_
     refine gR (Value.bool false) fun w' hs => ?_
     exact ⟨ret_bool (by clear hs; (try simp at *); simp [setB, *]; omega), hs.kk⟩
    refine gA [] 9 ?_
    refine gR (Value.bool false) fun w' hs => ?_
    exact ⟨ret_bool (by clear hs; (try simp at *); simp [setB, *]; omega), hs.kk⟩
   refine gA [] 12 ?_
   refine gR (Value.bool false) fun w' hs => ?_
   exact ⟨ret_bool (by clear hs; (try simp at *); simp [setB, *]; omega), hs.kk⟩
  refine gA [] 15 ?_
  refine gR (Value.bool false) fun w' hs => ?_
  exact ⟨ret_bool (by clear hs; (try simp at *); simp [setB, *]; omega), hs.kk⟩
 refine gA [] 1 ?_
 refine g_dec 20 (n.sign == 2) kR (fun h20 => ?_) (fun h20 => ?_)
 ·refine gA ([0]) 1 ?_
  refine g_dec 26 (n.sign == 2) kR (fun h26 => ?_) (fun h26 => ?_)
  ·refine gA ([0]) 3 ?_
   refine g_dec 31 (n.ord == 0) kR (fun h31 => ?_) (fun h31 => ?_)
   ·refine gA ([0, 0]) 5 ?_
    refine g_dec 37 (decide (n.num > n.den)) kR (fun h37 => ?_) (fun h37 => ?_)
    ·refine gA [] 1 ?_
     refine gR (Value.bool false) fun w' hs => ?_
     exact ⟨ret_bool (by clear hs; (try simp at *); simp [setB, *]), hs.kk⟩
    refine gA ([0]) 1 ?_
    refine g_dec 41 (decide (n.ord ≥ 0)) kR (fun h41 => ?_) (fun h41 => ?_)
    ·refine gA ([0]) 3 ?_
     refine g_dec 46 (decide (n.ord ≤ 3)) kR (fun h46 => ?_) (fun h46 => ?_)
     ·refine gA ([0]) 3 ?_
      refine g_dec 51 (decide (n.num ≥ 1)) kR (fun h51 => ?_) (fun h51 => ?_)
      ·refine gA ([0]) 3 ?_
       refine g_dec 56 (decide (n.num ≤ 1152921504606846976)) kR (fun h56 => ?_) (fun h56 => ?_)
       ·refine gA ([0]) 3 ?_
        refine g_dec 61 (decide (n.den ≥ 1)) kR (fun h61 => ?_) (fun h61 => ?_)
        ·refine gA ([0]) 3 ?_
         refine gR (Value.bool (decide (n.den ≤ 1152921504606846976))) fun w' hs => ?_
         exact ⟨ret_bool (by clear hs; (try simp at *); simp [setB, *]), hs.kk⟩
        refine gA [] 3 ?_
        refine gR (Value.bool false) fun w' hs => ?_
        exact ⟨ret_bool (by clear hs; (try simp at *); simp [setB, *]; omega), hs.kk⟩
       refine gA [] 6 ?_
       refine gR (Value.bool false) fun w' hs => ?_
       exact ⟨ret_bool (by clear hs; (try simp at *); simp [setB, *]; omega), hs.kk⟩
      refine gA [] 9 ?_
      refine gR (Value.bool false) fun w' hs => ?_
      exact ⟨ret_bool (by clear hs; (try simp at *); simp [setB, *]; omega), hs.kk⟩
     refine gA [] 12 ?_
     refine gR (Value.bool false) fun w' hs => ?_
     exact ⟨ret_bool (by clear hs; (try simp at *); simp [setB, *]; omega), hs.kk⟩
    refine gA [] 15 ?_
    refine gR (Value.bool false) fun w' hs => ?_
    exact ⟨ret_bool (by clear hs; (try simp at *); simp [setB, *]; omega), hs.kk⟩
   refine gA ([0]) 6 ?_
   refine g_dec 41 (decide (n.ord ≥ 0)) kR (fun h41 => ?_) (fun h41 => ?_)
   ·refine gA ([0]) 3 ?_
    refine g_dec 46 (decide (n.ord ≤ 3)) kR (fun h46 => ?_) (fun h46 => ?_)
    ·refine gA ([0]) 3 ?_
     refine g_dec 51 (decide (n.num ≥ 1)) kR (fun h51 => ?_) (fun h51 => ?_)
     ·refine gA ([0]) 3 ?_
      refine g_dec 56 (decide (n.num ≤ 1152921504606846976)) kR (fun h56 => ?_) (fun h56 => ?_)
      ·refine gA ([0]) 3 ?_
       refine g_dec 61 (decide (n.den ≥ 1)) kR (fun h61 => ?_) (fun h61 => ?_)
       ·refine gA ([0]) 3 ?_
        refine gR (Value.bool (decide (n.den ≤ 1152921504606846976))) fun w' hs => ?_
        exact ⟨ret_bool (by clear hs; (try simp at *); simp [setB, *]), hs.kk⟩
       refine gA [] 3 ?_
       refine gR (Value.bool false) fun w' hs => ?_
       exact ⟨ret_bool (by clear hs; (try simp at *); simp [setB, *]; omega), hs.kk⟩
      refine gA [] 6 ?_
      refine gR (Value.bool false) fun w' hs => ?_
      exact ⟨ret_bool (by clear hs; (try simp at *); simp [setB, *]; omega), hs.kk⟩
     refine gA [] 9 ?_
     refine gR (Value.bool false) fun w' hs => ?_
     exact ⟨ret_bool (by clear hs; (try simp at *); simp [setB, *]; omega), hs.kk⟩
    refine gA [] 12 ?_
    refine gR (Value.bool false) fun w' hs => ?_
    exact ⟨ret_bool (by clear hs; (try simp at *); simp [setB, *]; omega), hs.kk⟩
   refine gA [] 15 ?_
   refine gR (Value.bool false) fun w' hs => ?_
   exact ⟨ret_bool (by clear hs; (try simp at *); simp [setB, *]; omega), hs.kk⟩
  refine gA ([0]) 9 ?_
  refine g_dec 41 (decide (n.ord ≥ 0)) kR (fun h41 => ?_) (fun h41 => ?_)
  ·refine gA ([0]) 3 ?_
   refine g_dec 46 (decide (n.ord ≤ 3)) kR (fun h46 => ?_) (fun h46 => ?_)
   ·refine gA ([0]) 3 ?_
    refine g_dec 51 (decide (n.num ≥ 1)) kR (fun h51 => ?_) (fun h51 => ?_)
    ·refine gA ([0]) 3 ?_
     refine g_dec 56 (decide (n.num ≤ 1152921504606846976)) kR (fun h56 => ?_) (fun h56 => ?_)
     ·refine gA ([0]) 3 ?_
      refine g_dec 61 (decide (n.den ≥ 1)) kR (fun h61 => ?_) (fun h61 => ?_)
      ·refine gA ([0]) 3 ?_
       refine gR (Value.bool (decide (n.den ≤ 1152921504606846976))) fun w' hs => ?_
       exact ⟨ret_bool (by clear hs; (try simp at *); simp [setB, *]; omega), hs.kk⟩
      refine gA [] 3 ?_
      refine gR (Value.bool false) fun w' hs => ?_
      exact ⟨ret_bool (by clear hs; (try simp at *); simp [setB, *]; omega), hs.kk⟩
     refine gA [] 6 ?_
     refine gR (Value.bool false) fun w' hs => ?_
     exact ⟨ret_bool (by clear hs; (try simp at *); simp [setB, *]; omega), hs.kk⟩
    refine gA [] 9 ?_
    refine gR (Value.bool false) fun w' hs => ?_
    exact ⟨ret_bool (by clear hs; (try simp at *); simp [setB, *]; omega), hs.kk⟩
   refine gA [] 12 ?_
   refine gR (Value.bool false) fun w' hs => ?_
   exact ⟨ret_bool (by clear hs; (try simp at *); simp [setB, *]; omega), hs.kk⟩
  refine gA [] 15 ?_
  refine gR (Value.bool false) fun w' hs => ?_
  exact ⟨ret_bool (by clear hs; (try simp at *); simp [setB, *]; omega), hs.kk⟩
 refine gA [] 1 ?_
 refine gR (Value.bool false) fun w' hs => ?_
 exact ⟨ret_bool (by clear hs; (try simp at *); simp [setB, *]), hs.kk⟩
theorem box_any (n : Nod) (w : World) :
  Calls Try.prog 95 #[nodV n] w fun e w' => e = .returned (.bool (boxB n)) ∧ Kept w w' := by
 refine g_enter (args := [nodV n]) [] [] Try.func95 rfl Try.ntmps95 kL (sat0 w) ?_
 refine g0 ?_
 refine gN fun b0 hb0 => ?_
 refine gA (List.replicate 4 0) 0 ?_
 refine gN fun b1 hb1 => ?_
 refine g_callq _ _ _ ?_ (fun w hs => dims4 b1 n.w n.h n.d n.shift w (hs.obj (o := true) (i := 1) kR)) ?_
 ·kernel_rfl
 refine g0 ?_
 refine g_dec 13 (d4B n.w n.h n.d n.shift) kR (fun h13 => ?_) (fun h13 => ?_)
 ·refine gA (List.replicate 19 0) 1 ?_
  refine g_callq _ _ _ ?_ (fun w hs => set_any n w) ?_
  ·kernel_rfl
  refine g0 ?_
  refine g_dec 17 (setB n) kR (fun h17 => ?_) (fun h17 => ?_)
  ·refine gA (List.replicate 27 0) 18 ?_
   refine g_callq _ _ _ ?_ (fun w hs => only_any n ⟨0, 0, 0, n.w, n.h, n.d, n.shift, 0, 0, 0, 0, 0, n.sign, n.ord, n.num, n.den, 0, 0, ⟨#[]⟩⟩ w) ?_
   ·kernel_rfl
   refine g0 ?_
   refine gR (Value.bool (onlyB n { kind := 0, font := 0, char := 0, w := n.w, h := n.h, d := n.d, shift := n.shift, nat := 0, str := 0, shr := 0, so := 0, sho := 0, sign := n.sign, ord := n.ord, num := n.num, den := n.den, pen := 0, sub := 0, text := { data := #[] } })) fun w' hs => ?_
   exact ⟨ret_bool (by clear hs; (try simp at *); simp [boxB, *]), hs.kk⟩
  refine gA [] 19 ?_
  refine gR (Value.bool false) fun w' hs => ?_
  exact ⟨ret_bool (by clear hs; (try simp at *); simp [boxB, *]), hs.kk⟩
 refine gA [] 21 ?_
 refine gR (Value.bool false) fun w' hs => ?_
 exact ⟨ret_bool (by clear hs; (try simp at *); simp [boxB, *]), hs.kk⟩
theorem rule_any (n : Nod) (w : World) :
  Calls Try.prog 94 #[nodV n] w fun e w' => e = .returned (.bool (ruleB n)) ∧ Kept w w' := by
 refine g_enter (args := [nodV n]) [] [] Try.func94 rfl Try.ntmps94 kL (sat0 w) ?_
 refine g0 ?_
 refine gN fun b0 hb0 => ?_
 refine gA (List.replicate 4 0) 0 ?_
 refine gN fun b1 hb1 => ?_
 refine gA (List.replicate 19 1 ++ [0]) 0 ?_
 refine g_dec 15 (n.sub == 0) kR (fun h15 => ?_) (fun h15 => ?_)
 ·refine gA ([0, 0, 0]) 1 ?_
  refine gN fun b2 hb2 => ?_
  refine g_callq _ _ _ ?_ (fun w hs => dims3 b2 n.w n.h n.d w (hs.obj (o := true) (i := 2) kR)) ?_
  ·kernel_rfl
  refine g0 ?_
  refine g_dec 37 (d3B n.w n.h n.d) kR (fun h37 => ?_) (fun h37 => ?_)
  ·refine gA (List.replicate 19 0 ++ List.replicate 19 1) 2 ?_
   refine g_callq _ _ _ ?_ (fun w hs => only_any n ⟨0, 0, 0, n.w, n.h, n.d, 0, 0, 0, 0, 0, 0, 0, 0, 0, 0, 0, n.sub, ⟨#[]⟩⟩ w) ?_
   ·kernel_rfl
   refine g0 ?_
   refine gR (Value.bool (onlyB n ⟨0, 0, 0, n.w, n.h, n.d, 0, 0, 0, 0, 0, 0, 0, 0, 0, 0, 0, n.sub, ⟨#[]⟩⟩)) fun w' hs => ?_
   exact ⟨ret_bool (by clear hs; (try simp at *); simp [ruleB, ownN, *]), hs.kk⟩
  refine gA [] 3 ?_
  refine gR (Value.bool false) fun w' hs => ?_
  exact ⟨ret_bool (by clear hs; (try simp at *); simp [ruleB, ownN, *]), hs.kk⟩
 refine gA [] 1 ?_
 refine g_dec 17 (n.sub == 1) kR (fun h17 => ?_) (fun h17 => ?_)
 ·refine gA ([1] ++ [0, 0, 0]) 1 ?_
  refine gN fun b2 hb2 => ?_
  refine g_callq _ _ _ ?_ (fun w hs => dims3 b2 n.w n.h n.d w (hs.obj (o := true) (i := 2) kR)) ?_
  ·kernel_rfl
  refine g0 ?_
  refine g_dec 37 (d3B n.w n.h n.d) kR (fun h37 => ?_) (fun h37 => ?_)
  ·refine gA (List.replicate 19 0 ++ List.replicate 19 1) 2 ?_
   refine g_callq _ _ _ ?_ (fun w hs => only_any n ⟨0, 0, 0, 0, n.h, n.d, 0, 0, 0, 0, 0, 0, 0, 0, 0, 0, 0, n.sub, ⟨#[]⟩⟩ w) ?_
   ·kernel_rfl
   refine g0 ?_
   refine gR (Value.bool (onlyB n ⟨0, 0, 0, 0, n.h, n.d, 0, 0, 0, 0, 0, 0, 0, 0, 0, 0, 0, n.sub, ⟨#[]⟩⟩)) fun w' hs => ?_
   exact ⟨ret_bool (by clear hs; (try simp at *); simp [ruleB, ownN, *]), hs.kk⟩
  refine gA [] 3 ?_
  refine gR (Value.bool false) fun w' hs => ?_
  exact ⟨ret_bool (by clear hs; (try simp at *); simp [ruleB, ownN, *]), hs.kk⟩
 refine gA [] 1 ?_
 refine g_dec 20 (n.sub == 2) kR (fun h20 => ?_) (fun h20 => ?_)
 ·refine gA ([1, 1] ++ [0, 0, 0]) 1 ?_
  refine gN fun b2 hb2 => ?_
  refine g_callq _ _ _ ?_ (fun w hs => dims3 b2 n.w n.h n.d w (hs.obj (o := true) (i := 2) kR)) ?_
  ·kernel_rfl
  refine g0 ?_
  refine g_dec 37 (d3B n.w n.h n.d) kR (fun h37 => ?_) (fun h37 => ?_)
  ·refine gA (List.replicate 19 0 ++ List.replicate 19 1) 2 ?_
   refine g_callq _ _ _ ?_ (fun w hs => only_any n ⟨0, 0, 0, n.w, 0, 0, 0, 0, 0, 0, 0, 0, 0, 0, 0, 0, 0, n.sub, ⟨#[]⟩⟩ w) ?_
   ·kernel_rfl
   refine g0 ?_
   refine gR (Value.bool (onlyB n ⟨0, 0, 0, n.w, 0, 0, 0, 0, 0, 0, 0, 0, 0, 0, 0, 0, 0, n.sub, ⟨#[]⟩⟩)) fun w' hs => ?_
   exact ⟨ret_bool (by clear hs; (try simp at *); simp [ruleB, ownN, *]), hs.kk⟩
  refine gA [] 3 ?_
  refine gR (Value.bool false) fun w' hs => ?_
  exact ⟨ret_bool (by clear hs; (try simp at *); simp [ruleB, ownN, *]), hs.kk⟩
 refine gA [] 1 ?_
 refine g_dec 24 (n.sub == 3) kR (fun h24 => ?_) (fun h24 => ?_)
 ·refine gA ([1, 1, 1] ++ [0, 0, 0]) 1 ?_
  refine gN fun b2 hb2 => ?_
  refine g_callq _ _ _ ?_ (fun w hs => dims3 b2 n.w n.h n.d w (hs.obj (o := true) (i := 2) kR)) ?_
  ·kernel_rfl
  refine g0 ?_
  refine g_dec 37 (d3B n.w n.h n.d) kR (fun h37 => ?_) (fun h37 => ?_)
  ·refine gA (List.replicate 19 0 ++ List.replicate 19 1) 2 ?_
   refine g_callq _ _ _ ?_ (fun w hs => only_any n ⟨0, 0, 0, 0, 0, 0, 0, 0, 0, 0, 0, 0, 0, 0, 0, 0, 0, n.sub, ⟨#[]⟩⟩ w) ?_
   ·kernel_rfl
   refine g0 ?_
   refine gR (Value.bool (onlyB n ⟨0, 0, 0, 0, 0, 0, 0, 0, 0, 0, 0, 0, 0, 0, 0, 0, 0, n.sub, ⟨#[]⟩⟩)) fun w' hs => ?_
   exact ⟨ret_bool (by clear hs; (try simp at *); simp [ruleB, ownN, *]), hs.kk⟩
  refine gA [] 3 ?_
  refine gR (Value.bool false) fun w' hs => ?_
  exact ⟨ret_bool (by clear hs; (try simp at *); simp [ruleB, ownN, *]), hs.kk⟩
 refine gA [] 1 ?_
 refine gR (Value.bool false) fun w' hs => ?_
 exact ⟨ret_bool (by clear hs; (try simp at *); simp [ruleB, ownN, *]; omega), hs.kk⟩
end Go.Proofs.Ytcncfmjfgdbfeab
