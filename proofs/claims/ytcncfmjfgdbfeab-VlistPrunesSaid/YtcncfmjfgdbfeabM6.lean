/- NodK NodL. -/
import Derived.Test.YtcncfmjfgdbfeabNodJ
import Derived.Test.YtcncfmjfgdbfeabFast4
namespace Go.Proofs.Ytcncfmjfgdbfeab
set_option maxRecDepth 100000
set_option maxHeartbeats 4000000
open Go.RowKit
def rulesL : List Value := [.nilFunc, .func (.func 92) #[] #[], .func (.func 93) #[] #[], .func (.func 94) #[] #[], .func (.func 95) #[] #[], .func (.func 95) #[] #[], .func (.func 96) #[] #[], .func (.func 97) #[] #[], .func (.func 98) #[] #[], .func (.func 99) #[] #[], .func (.func 96) #[] #[], .func (.func 96) #[] #[], .func (.func 100) #[] #[], .func (.func 101) #[] #[], .func (.func 100) #[] #[], .func (.func 102) #[] #[], .func (.func 102) #[] #[], .func (.func 96) #[] #[]]
def bareB (n : Nod) : Bool := onlyB n zeroN
theorem rights_any (w : World) :
  Calls Try.prog 84 #[] w fun e w' => e = .returned (.agg rulesL.toArray) ∧ Kept w w' := by
 refine g_enter (args := []) [] [] Try.func84 rfl Try.ntmps84 kL (sat0 w) ?_
 refine g0 ?_
 refine gN fun b0 hb0 => ?_
 refine gA (List.replicate 18 0) 0 ?_
 refine g_ret (List.replicate 18 0) (Value.agg { toList := [Value.nilFunc, Value.func (Fn.func 92) { toList := [] } { toList := [] }, Value.func (Fn.func 93) { toList := [] } { toList := [] }, Value.func (Fn.func 94) { toList := [] } { toList := [] }, Value.func (Fn.func 95) { toList := [] } { toList := [] }, Value.func (Fn.func 95) { toList := [] } { toList := [] }, Value.func (Fn.func 96) { toList := [] } { toList := [] }, Value.func (Fn.func 97) { toList := [] } { toList := [] }, Value.func (Fn.func 98) { toList := [] } { toList := [] }, Value.func (Fn.func 99) { toList := [] } { toList := [] }, Value.func (Fn.func 96) { toList := [] } { toList := [] }, Value.func (Fn.func 96) { toList := [] } { toList := [] }, Value.func (Fn.func 100) { toList := [] } { toList := [] }, Value.func (Fn.func 101) { toList := [] } { toList := [] }, Value.func (Fn.func 100) { toList := [] } { toList := [] }, Value.func (Fn.func 102) { toList := [] } { toList := [] }, Value.func (Fn.func 102) { toList := [] } { toList := [] }, Value.func (Fn.func 96) { toList := [] } { toList := [] }] }) kR kR kR fun w' hs => ?_
 exact ⟨rfl, hs.kk⟩
theorem hold1 (b : Nat) (n : Nod) (w : World) (h : w.heap[b]? = some (.cells rulesL.toArray 131 (0, 0))) :
  Calls Try.prog 86 #[.pointer (some ⟨b, 0, none⟩), nodV { n with kind := 1 }] w fun e w' => e = .returned (.bool (charB { n with kind := 1 })) ∧ Kept w w' := by
 refine g_enter (args := [.pointer (some ⟨b, 0, none⟩), nodV { n with kind := 1 }]) [] [.obj false b rulesL 131] Try.func86 rfl Try.ntmps86 kL (sat1 h) ?_
 refine g0 ?_
 refine gN fun b1 hb1 => ?_
 refine g0 ?_
 refine gD 19 ?_
 refine lA ([1, 1, 1] ++ [0] ++ List.replicate 19 1) 10 ?_
 refine l_callq _ _ _ ?_ (fun w hs => char_any { n with kind := 1 } w) ?_
 ·kernel_rfl
 refine l0 ?_
 refine lE ?_
 refine gR (Value.bool (charB { kind := 1, font := n.font, char := n.char, w := n.w, h := n.h, d := n.d, shift := n.shift, nat := n.nat, str := n.str, shr := n.shr, so := n.so, sho := n.sho, sign := n.sign, ord := n.ord, num := n.num, den := n.den, pen := n.pen, sub := n.sub, text := n.text })) fun w' hs => ?_
 exact ⟨rfl, hs.kk⟩
theorem hold2 (b : Nat) (n : Nod) (w : World) (h : w.heap[b]? = some (.cells rulesL.toArray 131 (0, 0))) :
  Calls Try.prog 86 #[.pointer (some ⟨b, 0, none⟩), nodV { n with kind := 2 }] w fun e w' => e = .returned (.bool (ligB { n with kind := 2 })) ∧ Kept w w' := by
 refine g_enter (args := [.pointer (some ⟨b, 0, none⟩), nodV { n with kind := 2 }]) [] [.obj false b rulesL 131] Try.func86 rfl Try.ntmps86 kL (sat1 h) ?_
 refine g0 ?_
 refine gN fun b1 hb1 => ?_
 refine g0 ?_
 refine gD 19 ?_
 refine lA ([1, 1, 1] ++ [0] ++ List.replicate 19 1) 10 ?_
 refine l_callq _ _ _ ?_ (fun w hs => ligature_any { n with kind := 2 } w) ?_
 ·kernel_rfl
 refine l0 ?_
 refine lE ?_
 refine gR (Value.bool (ligB { kind := 2, font := n.font, char := n.char, w := n.w, h := n.h, d := n.d, shift := n.shift, nat := n.nat, str := n.str, shr := n.shr, so := n.so, sho := n.sho, sign := n.sign, ord := n.ord, num := n.num, den := n.den, pen := n.pen, sub := n.sub, text := n.text })) fun w' hs => ?_
 exact ⟨rfl, hs.kk⟩
theorem hold3 (b : Nat) (n : Nod) (w : World) (h : w.heap[b]? = some (.cells rulesL.toArray 131 (0, 0))) :
  Calls Try.prog 86 #[.pointer (some ⟨b, 0, none⟩), nodV { n with kind := 3 }] w fun e w' => e = .returned (.bool (ruleB { n with kind := 3 })) ∧ Kept w w' := by
 refine g_enter (args := [.pointer (some ⟨b, 0, none⟩), nodV { n with kind := 3 }]) [] [.obj false b rulesL 131] Try.func86 rfl Try.ntmps86 kL (sat1 h) ?_
 refine g0 ?_
 refine gN fun b1 hb1 => ?_
 refine g0 ?_
 refine gD 19 ?_
 refine lA ([1, 1, 1] ++ [0] ++ List.replicate 19 1) 10 ?_
 refine l_callq _ _ _ ?_ (fun w hs => rule_any { n with kind := 3 } w) ?_
 ·kernel_rfl
 refine l0 ?_
 refine lE ?_
 refine gR (Value.bool (ruleB { kind := 3, font := n.font, char := n.char, w := n.w, h := n.h, d := n.d, shift := n.shift, nat := n.nat, str := n.str, shr := n.shr, so := n.so, sho := n.sho, sign := n.sign, ord := n.ord, num := n.num, den := n.den, pen := n.pen, sub := n.sub, text := n.text })) fun w' hs => ?_
 exact ⟨rfl, hs.kk⟩
theorem hold4 (b : Nat) (n : Nod) (w : World) (h : w.heap[b]? = some (.cells rulesL.toArray 131 (0, 0))) :
  Calls Try.prog 86 #[.pointer (some ⟨b, 0, none⟩), nodV { n with kind := 4 }] w fun e w' => e = .returned (.bool (boxB { n with kind := 4 })) ∧ Kept w w' := by
 refine g_enter (args := [.pointer (some ⟨b, 0, none⟩), nodV { n with kind := 4 }]) [] [.obj false b rulesL 131] Try.func86 rfl Try.ntmps86 kL (sat1 h) ?_
 refine g0 ?_
 refine gN fun b1 hb1 => ?_
 refine g0 ?_
 refine gD 19 ?_
 refine lA ([1, 1, 1] ++ [0] ++ List.replicate 19 1) 10 ?_
 refine l_callq _ _ _ ?_ (fun w hs => box_any { n with kind := 4 } w) ?_
 ·kernel_rfl
 refine l0 ?_
 refine lE ?_
 refine gR (Value.bool (boxB { kind := 4, font := n.font, char := n.char, w := n.w, h := n.h, d := n.d, shift := n.shift, nat := n.nat, str := n.str, shr := n.shr, so := n.so, sho := n.sho, sign := n.sign, ord := n.ord, num := n.num, den := n.den, pen := n.pen, sub := n.sub, text := n.text })) fun w' hs => ?_
 exact ⟨rfl, hs.kk⟩
theorem hold5 (b : Nat) (n : Nod) (w : World) (h : w.heap[b]? = some (.cells rulesL.toArray 131 (0, 0))) :
  Calls Try.prog 86 #[.pointer (some ⟨b, 0, none⟩), nodV { n with kind := 5 }] w fun e w' => e = .returned (.bool (boxB { n with kind := 5 })) ∧ Kept w w' := by
 refine g_enter (args := [.pointer (some ⟨b, 0, none⟩), nodV { n with kind := 5 }]) [] [.obj false b rulesL 131] Try.func86 rfl Try.ntmps86 kL (sat1 h) ?_
 refine g0 ?_
 refine gN fun b1 hb1 => ?_
 refine g0 ?_
 refine gD 19 ?_
 refine lA ([1, 1, 1] ++ [0] ++ List.replicate 19 1) 10 ?_
 refine l_callq _ _ _ ?_ (fun w hs => box_any { n with kind := 5 } w) ?_
 ·kernel_rfl
 refine l0 ?_
 refine lE ?_
 refine gR (Value.bool (boxB { kind := 5, font := n.font, char := n.char, w := n.w, h := n.h, d := n.d, shift := n.shift, nat := n.nat, str := n.str, shr := n.shr, so := n.so, sho := n.sho, sign := n.sign, ord := n.ord, num := n.num, den := n.den, pen := n.pen, sub := n.sub, text := n.text })) fun w' hs => ?_
 exact ⟨rfl, hs.kk⟩
theorem hold6 (b : Nat) (n : Nod) (w : World) (h : w.heap[b]? = some (.cells rulesL.toArray 131 (0, 0))) :
  Calls Try.prog 86 #[.pointer (some ⟨b, 0, none⟩), nodV { n with kind := 6 }] w fun e w' => e = .returned (.bool (bareB { n with kind := 6 })) ∧ Kept w w' := by
 refine g_enter (args := [.pointer (some ⟨b, 0, none⟩), nodV { n with kind := 6 }]) [] [.obj false b rulesL 131] Try.func86 rfl Try.ntmps86 kL (sat1 h) ?_
 refine g0 ?_
 refine gN fun b1 hb1 => ?_
 refine g0 ?_
 refine gD 19 ?_
 refine lA ([1, 1, 1] ++ [0] ++ List.replicate 19 1) 10 ?_
 refine l_callq _ _ _ ?_ (fun w hs => bare_any { n with kind := 6 } w) ?_
 ·kernel_rfl
 refine l0 ?_
 refine lE ?_
 refine gR (Value.bool ((fun n => onlyB n zeroN) { kind := 6, font := n.font, char := n.char, w := n.w, h := n.h, d := n.d, shift := n.shift, nat := n.nat, str := n.str, shr := n.shr, so := n.so, sho := n.sho, sign := n.sign, ord := n.ord, num := n.num, den := n.den, pen := n.pen, sub := n.sub, text := n.text })) fun w' hs => ?_
 exact ⟨rfl, hs.kk⟩
theorem hold7 (b : Nat) (n : Nod) (w : World) (h : w.heap[b]? = some (.cells rulesL.toArray 131 (0, 0))) :
  Calls Try.prog 86 #[.pointer (some ⟨b, 0, none⟩), nodV { n with kind := 7 }] w fun e w' => e = .returned (.bool (skipB { n with kind := 7 })) ∧ Kept w w' := by
 refine g_enter (args := [.pointer (some ⟨b, 0, none⟩), nodV { n with kind := 7 }]) [] [.obj false b rulesL 131] Try.func86 rfl Try.ntmps86 kL (sat1 h) ?_
 refine g0 ?_
 refine gN fun b1 hb1 => ?_
 refine g0 ?_
 refine gD 19 ?_
 refine lA ([1, 1, 1] ++ [0] ++ List.replicate 19 1) 10 ?_
 refine l_callq _ _ _ ?_ (fun w hs => skip_any { n with kind := 7 } w) ?_
 ·kernel_rfl
 refine l0 ?_
 refine lE ?_
 refine gR (Value.bool (skipB { kind := 7, font := n.font, char := n.char, w := n.w, h := n.h, d := n.d, shift := n.shift, nat := n.nat, str := n.str, shr := n.shr, so := n.so, sho := n.sho, sign := n.sign, ord := n.ord, num := n.num, den := n.den, pen := n.pen, sub := n.sub, text := n.text })) fun w' hs => ?_
 exact ⟨rfl, hs.kk⟩
theorem hold8 (b : Nat) (n : Nod) (w : World) (h : w.heap[b]? = some (.cells rulesL.toArray 131 (0, 0))) :
  Calls Try.prog 86 #[.pointer (some ⟨b, 0, none⟩), nodV { n with kind := 8 }] w fun e w' => e = .returned (.bool (kernB { n with kind := 8 })) ∧ Kept w w' := by
 refine g_enter (args := [.pointer (some ⟨b, 0, none⟩), nodV { n with kind := 8 }]) [] [.obj false b rulesL 131] Try.func86 rfl Try.ntmps86 kL (sat1 h) ?_
 refine g0 ?_
 refine gN fun b1 hb1 => ?_
 refine g0 ?_
 refine gD 19 ?_
 refine lA ([1, 1, 1] ++ [0] ++ List.replicate 19 1) 10 ?_
 refine l_callq _ _ _ ?_ (fun w hs => kern_any { n with kind := 8 } w) ?_
 ·kernel_rfl
 refine l0 ?_
 refine lE ?_
 refine gR (Value.bool (kernB { kind := 8, font := n.font, char := n.char, w := n.w, h := n.h, d := n.d, shift := n.shift, nat := n.nat, str := n.str, shr := n.shr, so := n.so, sho := n.sho, sign := n.sign, ord := n.ord, num := n.num, den := n.den, pen := n.pen, sub := n.sub, text := n.text })) fun w' hs => ?_
 exact ⟨rfl, hs.kk⟩
theorem hold9 (b : Nat) (n : Nod) (w : World) (h : w.heap[b]? = some (.cells rulesL.toArray 131 (0, 0))) :
  Calls Try.prog 86 #[.pointer (some ⟨b, 0, none⟩), nodV { n with kind := 9 }] w fun e w' => e = .returned (.bool (penB { n with kind := 9 })) ∧ Kept w w' := by
 refine g_enter (args := [.pointer (some ⟨b, 0, none⟩), nodV { n with kind := 9 }]) [] [.obj false b rulesL 131] Try.func86 rfl Try.ntmps86 kL (sat1 h) ?_
 refine g0 ?_
 refine gN fun b1 hb1 => ?_
 refine g0 ?_
 refine gD 19 ?_
 refine lA ([1, 1, 1] ++ [0] ++ List.replicate 19 1) 10 ?_
 refine l_callq _ _ _ ?_ (fun w hs => penalty_any { n with kind := 9 } w) ?_
 ·kernel_rfl
 refine l0 ?_
 refine lE ?_
 refine gR (Value.bool (penB { kind := 9, font := n.font, char := n.char, w := n.w, h := n.h, d := n.d, shift := n.shift, nat := n.nat, str := n.str, shr := n.shr, so := n.so, sho := n.sho, sign := n.sign, ord := n.ord, num := n.num, den := n.den, pen := n.pen, sub := n.sub, text := n.text })) fun w' hs => ?_
 exact ⟨rfl, hs.kk⟩
theorem hold10 (b : Nat) (n : Nod) (w : World) (h : w.heap[b]? = some (.cells rulesL.toArray 131 (0, 0))) :
  Calls Try.prog 86 #[.pointer (some ⟨b, 0, none⟩), nodV { n with kind := 10 }] w fun e w' => e = .returned (.bool (bareB { n with kind := 10 })) ∧ Kept w w' := by
 refine g_enter (args := [.pointer (some ⟨b, 0, none⟩), nodV { n with kind := 10 }]) [] [.obj false b rulesL 131] Try.func86 rfl Try.ntmps86 kL (sat1 h) ?_
 refine g0 ?_
 refine gN fun b1 hb1 => ?_
 refine g0 ?_
 refine gD 19 ?_
 refine lA ([1, 1, 1] ++ [0] ++ List.replicate 19 1) 10 ?_
 refine l_callq _ _ _ ?_ (fun w hs => bare_any { n with kind := 10 } w) ?_
 ·kernel_rfl
 refine l0 ?_
 refine lE ?_
 refine gR (Value.bool ((fun n => onlyB n zeroN) { kind := 10, font := n.font, char := n.char, w := n.w, h := n.h, d := n.d, shift := n.shift, nat := n.nat, str := n.str, shr := n.shr, so := n.so, sho := n.sho, sign := n.sign, ord := n.ord, num := n.num, den := n.den, pen := n.pen, sub := n.sub, text := n.text })) fun w' hs => ?_
 exact ⟨rfl, hs.kk⟩
theorem hold11 (b : Nat) (n : Nod) (w : World) (h : w.heap[b]? = some (.cells rulesL.toArray 131 (0, 0))) :
  Calls Try.prog 86 #[.pointer (some ⟨b, 0, none⟩), nodV { n with kind := 11 }] w fun e w' => e = .returned (.bool (bareB { n with kind := 11 })) ∧ Kept w w' := by
 refine g_enter (args := [.pointer (some ⟨b, 0, none⟩), nodV { n with kind := 11 }]) [] [.obj false b rulesL 131] Try.func86 rfl Try.ntmps86 kL (sat1 h) ?_
 refine g0 ?_
 refine gN fun b1 hb1 => ?_
 refine g0 ?_
 refine gD 19 ?_
 refine lA ([1, 1, 1] ++ [0] ++ List.replicate 19 1) 10 ?_
 refine l_callq _ _ _ ?_ (fun w hs => bare_any { n with kind := 11 } w) ?_
 ·kernel_rfl
 refine l0 ?_
 refine lE ?_
 refine gR (Value.bool ((fun n => onlyB n zeroN) { kind := 11, font := n.font, char := n.char, w := n.w, h := n.h, d := n.d, shift := n.shift, nat := n.nat, str := n.str, shr := n.shr, so := n.so, sho := n.sho, sign := n.sign, ord := n.ord, num := n.num, den := n.den, pen := n.pen, sub := n.sub, text := n.text })) fun w' hs => ?_
 exact ⟨rfl, hs.kk⟩
theorem hold12 (b : Nat) (n : Nod) (w : World) (h : w.heap[b]? = some (.cells rulesL.toArray 131 (0, 0))) :
  Calls Try.prog 86 #[.pointer (some ⟨b, 0, none⟩), nodV { n with kind := 12 }] w fun e w' => e = .returned (.bool (msgB { n with kind := 12 })) ∧ Kept w w' := by
 refine g_enter (args := [.pointer (some ⟨b, 0, none⟩), nodV { n with kind := 12 }]) [] [.obj false b rulesL 131] Try.func86 rfl Try.ntmps86 kL (sat1 h) ?_
 refine g0 ?_
 refine gN fun b1 hb1 => ?_
 refine g0 ?_
 refine gD 19 ?_
 refine lA ([1, 1, 1] ++ [0] ++ List.replicate 19 1) 10 ?_
 refine l_callq _ _ _ ?_ (fun w hs => message_any { n with kind := 12 } w) ?_
 ·kernel_rfl
 refine l0 ?_
 refine lE ?_
 refine gR (Value.bool (msgB { kind := 12, font := n.font, char := n.char, w := n.w, h := n.h, d := n.d, shift := n.shift, nat := n.nat, str := n.str, shr := n.shr, so := n.so, sho := n.sho, sign := n.sign, ord := n.ord, num := n.num, den := n.den, pen := n.pen, sub := n.sub, text := n.text })) fun w' hs => ?_
 exact ⟨rfl, hs.kk⟩
theorem hold13 (b : Nat) (n : Nod) (w : World) (h : w.heap[b]? = some (.cells rulesL.toArray 131 (0, 0))) :
  Calls Try.prog 86 #[.pointer (some ⟨b, 0, none⟩), nodV { n with kind := 13 }] w fun e w' => e = .returned (.bool (insB { n with kind := 13 })) ∧ Kept w w' := by
 refine g_enter (args := [.pointer (some ⟨b, 0, none⟩), nodV { n with kind := 13 }]) [] [.obj false b rulesL 131] Try.func86 rfl Try.ntmps86 kL (sat1 h) ?_
 refine g0 ?_
 refine gN fun b1 hb1 => ?_
 refine g0 ?_
 refine gD 19 ?_
 refine lA ([1, 1, 1] ++ [0] ++ List.replicate 19 1) 10 ?_
 refine l_callq _ _ _ ?_ (fun w hs => insert_any { n with kind := 13 } w) ?_
 ·kernel_rfl
 refine l0 ?_
 refine lE ?_
 refine gR (Value.bool (insB { kind := 13, font := n.font, char := n.char, w := n.w, h := n.h, d := n.d, shift := n.shift, nat := n.nat, str := n.str, shr := n.shr, so := n.so, sho := n.sho, sign := n.sign, ord := n.ord, num := n.num, den := n.den, pen := n.pen, sub := n.sub, text := n.text })) fun w' hs => ?_
 exact ⟨rfl, hs.kk⟩
theorem hold14 (b : Nat) (n : Nod) (w : World) (h : w.heap[b]? = some (.cells rulesL.toArray 131 (0, 0))) :
  Calls Try.prog 86 #[.pointer (some ⟨b, 0, none⟩), nodV { n with kind := 14 }] w fun e w' => e = .returned (.bool (msgB { n with kind := 14 })) ∧ Kept w w' := by
 refine g_enter (args := [.pointer (some ⟨b, 0, none⟩), nodV { n with kind := 14 }]) [] [.obj false b rulesL 131] Try.func86 rfl Try.ntmps86 kL (sat1 h) ?_
 refine g0 ?_
 refine gN fun b1 hb1 => ?_
 refine g0 ?_
 refine gD 19 ?_
 refine lA ([1, 1, 1] ++ [0] ++ List.replicate 19 1) 10 ?_
 refine l_callq _ _ _ ?_ (fun w hs => message_any { n with kind := 14 } w) ?_
 ·kernel_rfl
 refine l0 ?_
 refine lE ?_
 refine gR (Value.bool (msgB { kind := 14, font := n.font, char := n.char, w := n.w, h := n.h, d := n.d, shift := n.shift, nat := n.nat, str := n.str, shr := n.shr, so := n.so, sho := n.sho, sign := n.sign, ord := n.ord, num := n.num, den := n.den, pen := n.pen, sub := n.sub, text := n.text })) fun w' hs => ?_
 exact ⟨rfl, hs.kk⟩
theorem hold15 (b : Nat) (n : Nod) (w : World) (h : w.heap[b]? = some (.cells rulesL.toArray 131 (0, 0))) :
  Calls Try.prog 86 #[.pointer (some ⟨b, 0, none⟩), nodV { n with kind := 15 }] w fun e w' => e = .returned (.bool (mathB { n with kind := 15 })) ∧ Kept w w' := by
 refine g_enter (args := [.pointer (some ⟨b, 0, none⟩), nodV { n with kind := 15 }]) [] [.obj false b rulesL 131] Try.func86 rfl Try.ntmps86 kL (sat1 h) ?_
 refine g0 ?_
 refine gN fun b1 hb1 => ?_
 refine g0 ?_
 refine gD 19 ?_
 refine lA ([1, 1, 1] ++ [0] ++ List.replicate 19 1) 10 ?_
 refine l_callq _ _ _ ?_ (fun w hs => math_any { n with kind := 15 } w) ?_
 ·kernel_rfl
 refine l0 ?_
 refine lE ?_
 refine gR (Value.bool (mathB { kind := 15, font := n.font, char := n.char, w := n.w, h := n.h, d := n.d, shift := n.shift, nat := n.nat, str := n.str, shr := n.shr, so := n.so, sho := n.sho, sign := n.sign, ord := n.ord, num := n.num, den := n.den, pen := n.pen, sub := n.sub, text := n.text })) fun w' hs => ?_
 exact ⟨rfl, hs.kk⟩
theorem hold16 (b : Nat) (n : Nod) (w : World) (h : w.heap[b]? = some (.cells rulesL.toArray 131 (0, 0))) :
  Calls Try.prog 86 #[.pointer (some ⟨b, 0, none⟩), nodV { n with kind := 16 }] w fun e w' => e = .returned (.bool (mathB { n with kind := 16 })) ∧ Kept w w' := by
 refine g_enter (args := [.pointer (some ⟨b, 0, none⟩), nodV { n with kind := 16 }]) [] [.obj false b rulesL 131] Try.func86 rfl Try.ntmps86 kL (sat1 h) ?_
 refine g0 ?_
 refine gN fun b1 hb1 => ?_
 refine g0 ?_
 refine gD 19 ?_
 refine lA ([1, 1, 1] ++ [0] ++ List.replicate 19 1) 10 ?_
 refine l_callq _ _ _ ?_ (fun w hs => math_any { n with kind := 16 } w) ?_
 ·kernel_rfl
 refine l0 ?_
 refine lE ?_
 refine gR (Value.bool (mathB { kind := 16, font := n.font, char := n.char, w := n.w, h := n.h, d := n.d, shift := n.shift, nat := n.nat, str := n.str, shr := n.shr, so := n.so, sho := n.sho, sign := n.sign, ord := n.ord, num := n.num, den := n.den, pen := n.pen, sub := n.sub, text := n.text })) fun w' hs => ?_
 exact ⟨rfl, hs.kk⟩
theorem hold17 (b : Nat) (n : Nod) (w : World) (h : w.heap[b]? = some (.cells rulesL.toArray 131 (0, 0))) :
  Calls Try.prog 86 #[.pointer (some ⟨b, 0, none⟩), nodV { n with kind := 17 }] w fun e w' => e = .returned (.bool (bareB { n with kind := 17 })) ∧ Kept w w' := by
 refine g_enter (args := [.pointer (some ⟨b, 0, none⟩), nodV { n with kind := 17 }]) [] [.obj false b rulesL 131] Try.func86 rfl Try.ntmps86 kL (sat1 h) ?_
 refine g0 ?_
 refine gN fun b1 hb1 => ?_
 refine g0 ?_
 refine gD 19 ?_
 refine lA ([1, 1, 1] ++ [0] ++ List.replicate 19 1) 10 ?_
 refine l_callq _ _ _ ?_ (fun w hs => bare_any { n with kind := 17 } w) ?_
 ·kernel_rfl
 refine l0 ?_
 refine lE ?_
 refine gR (Value.bool ((fun n => onlyB n zeroN) { kind := 17, font := n.font, char := n.char, w := n.w, h := n.h, d := n.d, shift := n.shift, nat := n.nat, str := n.str, shr := n.shr, so := n.so, sho := n.sho, sign := n.sign, ord := n.ord, num := n.num, den := n.den, pen := n.pen, sub := n.sub, text := n.text })) fun w' hs => ?_
 exact ⟨rfl, hs.kk⟩
theorem hold_no (b : Nat) (n : Nod) (w : World) (h : w.heap[b]? = some (.cells rulesL.toArray 131 (0, 0))) (hk : n.kind < 1 ∨ 17 < n.kind) :
  Calls Try.prog 86 #[.pointer (some ⟨b, 0, none⟩), nodV n] w fun e w' => e = .returned (.bool false) ∧ Kept w w' := by
 refine g_enter (args := [.pointer (some ⟨b, 0, none⟩), nodV n]) [] [.obj false b rulesL 131] Try.func86 rfl Try.ntmps86 kL (sat1 h) ?_
 refine g0 ?_
 refine gN fun b1 hb1 => ?_
 refine g0 ?_
 refine gD 19 ?_
 refine lA ([1]) 0 ?_
 refine l_dec 8 (decide (n.kind ≥ 1)) kR (fun h8 => ?_) (fun h8 => ?_)
 ·refine lA ([1]) 3 ?_
  refine l_dec 13 (decide (n.kind ≤ 17)) kR (fun h13 => ?_) (fun h13 => ?_)
  ·exact absurd h13 (by simp only [decide_eq_true_eq] at *; omega)
  refine lA [] 8 ?_
  refine lE ?_
  refine gR (Value.bool false) fun w' hs => ?_
  exact ⟨rfl, hs.kk⟩
 refine lA [] 11 ?_
 refine lE ?_
 refine gR (Value.bool false) fun w' hs => ?_
 exact ⟨rfl, hs.kk⟩
def rightB (n : Nod) : Bool :=
 bif decide (n.kind = 1) then charB n else bif decide (n.kind = 2) then ligB n else bif decide (n.kind = 3) then ruleB n else bif decide (n.kind = 4) then boxB n else bif decide (n.kind = 5) then boxB n
 else bif decide (n.kind = 6) then bareB n else bif decide (n.kind = 7) then skipB n else bif decide (n.kind = 8) then kernB n else bif decide (n.kind = 9) then penB n else bif decide (n.kind = 10) then bareB n
 else bif decide (n.kind = 11) then bareB n else bif decide (n.kind = 12) then msgB n else bif decide (n.kind = 13) then insB n else bif decide (n.kind = 14) then msgB n else bif decide (n.kind = 15) then mathB n
 else bif decide (n.kind = 16) then mathB n else bif decide (n.kind = 17) then bareB n else false
theorem rightB_no (n : Nod) (h : n.kind < 1 ∨ 17 < n.kind) : rightB n = false := by
 unfold rightB
 repeat rw [decide_eq_false (by omega), cond_false]
theorem hold_any (b : Nat) (n : Nod) (w : World) (h : w.heap[b]? = some (.cells rulesL.toArray 131 (0, 0))) :
  Calls Try.prog 86 #[.pointer (some ⟨b, 0, none⟩), nodV n] w fun e w' => e = .returned (.bool (rightB n)) ∧ Kept w w' := by
 by_cases hk : n.kind < 1 ∨ 17 < n.kind
 ·rw [rightB_no n hk]; exact hold_no b n w h hk
 obtain ⟨kind, font, char, wd, ht, dp, shift, nat, str, shr, so, sho, sign, ord, num, den, pen, sub, text⟩ := n
 simp only at hk
 by_cases h1 : kind = 1
 ·subst h1; exact hold1 b ⟨1, font, char, wd, ht, dp, shift, nat, str, shr, so, sho, sign, ord, num, den, pen, sub, text⟩ w h
 by_cases h2 : kind = 2
 ·subst h2; exact hold2 b ⟨2, font, char, wd, ht, dp, shift, nat, str, shr, so, sho, sign, ord, num, den, pen, sub, text⟩ w h
 by_cases h3 : kind = 3
 ·subst h3; exact hold3 b ⟨3, font, char, wd, ht, dp, shift, nat, str, shr, so, sho, sign, ord, num, den, pen, sub, text⟩ w h
 by_cases h4 : kind = 4
 ·subst h4; exact hold4 b ⟨4, font, char, wd, ht, dp, shift, nat, str, shr, so, sho, sign, ord, num, den, pen, sub, text⟩ w h
 by_cases h5 : kind = 5
 ·subst h5; exact hold5 b ⟨5, font, char, wd, ht, dp, shift, nat, str, shr, so, sho, sign, ord, num, den, pen, sub, text⟩ w h
 by_cases h6 : kind = 6
 ·subst h6; exact hold6 b ⟨6, font, char, wd, ht, dp, shift, nat, str, shr, so, sho, sign, ord, num, den, pen, sub, text⟩ w h
 by_cases h7 : kind = 7
 ·subst h7; exact hold7 b ⟨7, font, char, wd, ht, dp, shift, nat, str, shr, so, sho, sign, ord, num, den, pen, sub, text⟩ w h
 by_cases h8 : kind = 8
 ·subst h8; exact hold8 b ⟨8, font, char, wd, ht, dp, shift, nat, str, shr, so, sho, sign, ord, num, den, pen, sub, text⟩ w h
 by_cases h9 : kind = 9
 ·subst h9; exact hold9 b ⟨9, font, char, wd, ht, dp, shift, nat, str, shr, so, sho, sign, ord, num, den, pen, sub, text⟩ w h
 by_cases h10 : kind = 10
 ·subst h10; exact hold10 b ⟨10, font, char, wd, ht, dp, shift, nat, str, shr, so, sho, sign, ord, num, den, pen, sub, text⟩ w h
 by_cases h11 : kind = 11
 ·subst h11; exact hold11 b ⟨11, font, char, wd, ht, dp, shift, nat, str, shr, so, sho, sign, ord, num, den, pen, sub, text⟩ w h
 by_cases h12 : kind = 12
 ·subst h12; exact hold12 b ⟨12, font, char, wd, ht, dp, shift, nat, str, shr, so, sho, sign, ord, num, den, pen, sub, text⟩ w h
 by_cases h13 : kind = 13
 ·subst h13; exact hold13 b ⟨13, font, char, wd, ht, dp, shift, nat, str, shr, so, sho, sign, ord, num, den, pen, sub, text⟩ w h
 by_cases h14 : kind = 14
 ·subst h14; exact hold14 b ⟨14, font, char, wd, ht, dp, shift, nat, str, shr, so, sho, sign, ord, num, den, pen, sub, text⟩ w h
 by_cases h15 : kind = 15
 ·subst h15; exact hold15 b ⟨15, font, char, wd, ht, dp, shift, nat, str, shr, so, sho, sign, ord, num, den, pen, sub, text⟩ w h
 by_cases h16 : kind = 16
 ·subst h16; exact hold16 b ⟨16, font, char, wd, ht, dp, shift, nat, str, shr, so, sho, sign, ord, num, den, pen, sub, text⟩ w h
 by_cases h17 : kind = 17
 ·subst h17; exact hold17 b ⟨17, font, char, wd, ht, dp, shift, nat, str, shr, so, sho, sign, ord, num, den, pen, sub, text⟩ w h
 omega
end Go.Proofs.Ytcncfmjfgdbfeab
namespace Go.Proofs.Ytcncfmjfgdbfeab
set_option maxRecDepth 100000
set_option maxHeartbeats 4000000
open Go.RowKit
theorem api_eql (x y : Nod) (a b : Operand) (w : World) : (eqlSem 55 a b (nodV x) (nodV y)).run Try.prog w = .ok (.value (.bool (decide (x = y)))) w :=
 eql_run kR (apiNode_eql x y w)
theorem errG_t {b : Bool} (h : b = true) : 0 = errG b := by rw [h]; rfl
theorem errG_f {b : Bool} (h : b = false) : 30 = errG b := by rw [h]; rfl
def bareN (n : Nod) : Nod := { n with w := 0, h := 0, d := 0 }
theorem rdimen5_any (x : Int) (w : World) :
  Calls Try.prog 81 #[.int .i64 x] w fun e w' => e = .returned (.bool (dimB x)) ∧ Kept w w' := by
 refine g_enter (args := [.int .i64 x]) [] [] Try.func81 rfl Try.ntmps81 kL (sat0 w) ?_
 refine g0 ?_
 refine g_dec 5 (decide (x ≥ -1073741823)) kR (fun h5 => ?_) (fun h5 => ?_)
 ·refine gA [] 2 ?_
  refine gR (Value.bool (decide (x ≤ 1073741823))) fun w' hs => ?_
  exact ⟨ret_bool (by clear hs; simp only [decide_eq_true_eq] at *; rw [Bool.eq_iff_iff]; simp [dimB]; omega), hs.kk⟩
 refine gA [] 2 ?_
 refine gR (Value.bool false) fun w' hs => ?_
 exact ⟨ret_bool (by clear hs; simp only [decide_eq_false_iff_not] at *; rw [Bool.eq_iff_iff]; simp [dimB]; omega), hs.kk⟩
theorem rdimen2_any (x : Int) (w : World) :
  Calls Try.prog 73 #[.int .i64 x] w fun e w' => e = .returned (.bool (dimB x)) ∧ Kept w w' := by
 refine g_enter (args := [.int .i64 x]) [] [] Try.func73 rfl Try.ntmps73 kL (sat0 w) ?_
 refine g0 ?_
 refine g_dec 5 (decide (x ≥ -1073741823)) kR (fun h5 => ?_) (fun h5 => ?_)
 ·refine gA [] 2 ?_
  refine gR (Value.bool (decide (x ≤ 1073741823))) fun w' hs => ?_
  exact ⟨ret_bool (by clear hs; simp only [decide_eq_true_eq] at *; rw [Bool.eq_iff_iff]; simp [dimB]; omega), hs.kk⟩
 refine gA [] 2 ?_
 refine gR (Value.bool false) fun w' hs => ?_
 exact ⟨ret_bool (by clear hs; simp only [decide_eq_false_iff_not] at *; rw [Bool.eq_iff_iff]; simp [dimB]; omega), hs.kk⟩
theorem rthree_any (n : Nod) (w : World) :
  Calls Try.prog 88 #[nodV n] w fun e w' => e = .returned (.bool (d3B n.w n.h n.d)) ∧ Kept w w' := by
 refine g_enter (args := [nodV n]) [] [] Try.func88 rfl Try.ntmps88 kL (sat0 w) ?_
 refine g0 ?_
 refine gN fun b0 hb0 => ?_
 refine gA ([0]) 0 ?_
 refine g_callq _ _ _ ?_ (fun w hs => rdimen5_any n.w w) ?_
 ·kernel_rfl
 refine g0 ?_
 refine g_dec 6 (dimB n.w) kR (fun h6 => ?_) (fun h6 => ?_)
 ·refine gA ([0]) 2 ?_
  refine g_callq _ _ _ ?_ (fun w hs => rdimen5_any n.h w) ?_
  ·kernel_rfl
  refine g0 ?_
  refine g_dec 11 (dimB n.h) kR (fun h11 => ?_) (fun h11 => ?_)
  ·refine gA ([0]) 2 ?_
   refine g_callq _ _ _ ?_ (fun w hs => rdimen5_any n.d w) ?_
   ·kernel_rfl
   refine g0 ?_
   refine gR (Value.bool (dimB n.d)) fun w' hs => ?_
   exact ⟨ret_bool (by clear hs; (try simp at *); simp [d3B, *]), hs.kk⟩
  refine gA [] 3 ?_
  refine gR (Value.bool false) fun w' hs => ?_
  exact ⟨ret_bool (by clear hs; (try simp at *); simp [d3B, *]), hs.kk⟩
 refine gA [] 6 ?_
 refine gR (Value.bool false) fun w' hs => ?_
 exact ⟨ret_bool (by clear hs; (try simp at *); simp [d3B, *]), hs.kk⟩
theorem rgcheck_any (a b c d f : Int) (w : World) :
  Calls Try.prog 52 #[.agg #[.int .i64 a, .int .i64 b, .int .i64 c, .int .i64 d, .int .i64 f]] w fun e w' => e = .returned (.int .i64 (errG (glueB a b c d f))) ∧ Kept w w' := by
 refine g_enter (args := [.agg #[.int .i64 a, .int .i64 b, .int .i64 c, .int .i64 d, .int .i64 f]]) [] [] Try.func52 rfl Try.ntmps52 kL (sat0 w) ?_
 refine g0 ?_
 refine gN fun b0 hb0 => ?_
 refine gA ([0]) 0 ?_
 refine g_callq _ _ _ ?_ (fun w hs => rdimen2_any a w) ?_
 ·kernel_rfl
 refine g0 ?_
 refine g_dec 7 (!dimB a) kR (fun h7 => ?_) (fun h7 => ?_)
 ·refine gA [] 21 ?_
  refine gR (Value.int IntKind.i64 30) fun w' hs => ?_
  exact ⟨ret_int (by clear hs; (try simp at *); apply errG_f; simp [glueB, flB, ordB, *]), hs.kk⟩
 refine gA ([0]) 2 ?_
 refine g_callq _ _ _ ?_ (fun w hs => rdimen2_any b w) ?_
 ·kernel_rfl
 refine gA [] 1 ?_
 refine g_dec 13 (!dimB b) kR (fun h13 => ?_) (fun h13 => ?_)
 ·refine gA [] 17 ?_
  refine gR (Value.int IntKind.i64 30) fun w' hs => ?_
  exact ⟨ret_int (by clear hs; (try simp at *); apply errG_f; simp [glueB, flB, ordB, *]), hs.kk⟩
 refine gA ([0]) 2 ?_
 refine g_callq _ _ _ ?_ (fun w hs => rdimen2_any c w) ?_
 ·kernel_rfl
 refine gA [] 1 ?_
 refine g_dec 19 (!dimB c) kR (fun h19 => ?_) (fun h19 => ?_)
 ·refine gA [] 13 ?_
  refine gR (Value.int IntKind.i64 30) fun w' hs => ?_
  exact ⟨ret_int (by clear hs; (try simp at *); apply errG_f; simp [glueB, flB, ordB, *]), hs.kk⟩
 refine gA ([0]) 3 ?_
 refine g_dec 24 (decide (d < 0)) kR (fun h24 => ?_) (fun h24 => ?_)
 ·refine gA [] 10 ?_
  refine gR (Value.int IntKind.i64 30) fun w' hs => ?_
  exact ⟨ret_int (by clear hs; (try simp at *); apply errG_f; simp [glueB, flB, ordB, *]; intros; omega), hs.kk⟩
 refine gA ([0]) 3 ?_
 refine g_dec 29 (decide (d > 3)) kR (fun h29 => ?_) (fun h29 => ?_)
 ·refine gA [] 7 ?_
  refine gR (Value.int IntKind.i64 30) fun w' hs => ?_
  exact ⟨ret_int (by clear hs; (try simp at *); apply errG_f; simp [glueB, flB, ordB, *]; intros; omega), hs.kk⟩
 refine gA ([0]) 3 ?_
 refine g_dec 34 (decide (f < 0)) kR (fun h34 => ?_) (fun h34 => ?_)
 ·refine gA [] 4 ?_
  refine gR (Value.int IntKind.i64 30) fun w' hs => ?_
  exact ⟨ret_int (by clear hs; (try simp at *); apply errG_f; simp [glueB, flB, ordB, *]; intros; omega), hs.kk⟩
 refine gA ([0]) 3 ?_
 refine g_dec 38 (decide (f > 3)) kR (fun h38 => ?_) (fun h38 => ?_)
 ·refine gA [] 1 ?_
  refine gR (Value.int IntKind.i64 30) fun w' hs => ?_
  exact ⟨ret_int (by clear hs; (try simp at *); apply errG_f; simp [glueB, flB, ordB, *]; intros; omega), hs.kk⟩
 refine gA [] 1 ?_
 refine gR (Value.int IntKind.i64 0) fun w' hs => ?_
 exact ⟨ret_int (by clear hs; (try simp at *); apply errG_t; simp [glueB, flB, ordB, *]; omega), hs.kk⟩
theorem rbare_any (n : Nod) (w : World) :
  Calls Try.prog 89 #[nodV n] w fun e w' => e = .returned (nodV (bareN n)) ∧ Kept w w' := by
 refine g_enter (args := [nodV n]) [] [] Try.func89 rfl Try.ntmps89 kL (sat0 w) ?_
 refine g0 ?_
 refine gN fun b0 hb0 => ?_
 refine gN fun b1 hb1 => ?_
 refine gA (List.replicate 22 0 ++ List.replicate 19 1) 0 ?_
 refine g_ret (List.replicate 19 1) (Value.agg { toList := [Value.int IntKind.i64 n.kind, Value.int IntKind.i64 n.font, Value.int IntKind.u8 n.char, Value.int IntKind.i64 0, Value.int IntKind.i64 0, Value.int IntKind.i64 0, Value.int IntKind.i64 n.shift, Value.int IntKind.i64 n.nat, Value.int IntKind.i64 n.str, Value.int IntKind.i64 n.shr, Value.int IntKind.i64 n.so, Value.int IntKind.i64 n.sho, Value.int IntKind.i64 n.sign, Value.int IntKind.i64 n.ord, Value.int IntKind.i64 n.num, Value.int IntKind.i64 n.den, Value.int IntKind.i64 n.pen, Value.int IntKind.i64 n.sub, Value.string n.text] }) kR kR kR fun w' hs => ?_
 exact ⟨rfl, hs.kk⟩
theorem rfar_any (x : Int) (w : World) :
  Calls Try.prog 82 #[.int .i64 x] w fun e w' => e = .returned (.bool (!(decide (-2147483647 ≤ x) && decide (x ≤ 2147483647)))) ∧ Kept w w' := by
 refine g_enter (args := [.int .i64 x]) [] [] Try.func82 rfl Try.ntmps82 kL (sat0 w) ?_
 refine g0 ?_
 refine g_dec 5 (decide (x < -2147483647)) kR (fun h5 => ?_) (fun h5 => ?_)
 ·refine gA [] 2 ?_
  refine gR (Value.bool true) fun w' hs => ?_
  exact ⟨ret_bool (by clear hs; (try simp at *); simp [*]), hs.kk⟩
 refine gA [] 2 ?_
 refine gR (Value.bool (decide (x > 2147483647))) fun w' hs => ?_
 exact ⟨ret_bool (by clear hs; (try simp at *); rw [Bool.eq_iff_iff]; simp [*]), hs.kk⟩
abbrev kn (k : Int) (n : Nod) : Nod := ⟨k, n.font, n.char, n.w, n.h, n.d, n.shift, n.nat, n.str, n.shr, n.so, n.sho, n.sign, n.ord, n.num, n.den, n.pen, n.sub, n.text⟩
end Go.Proofs.Ytcncfmjfgdbfeab
