/- nodes: right: is it a node? -/
import Derived.Test.YtcncfmjfgdbfeabNodJ
import Derived.Test.YtcncfmjfgdbfeabFast4
namespace Go.Proofs.Ytcncfmjfgdbfeab
open Go.RowKit

def rulesL : List Value := [.nilFunc, .func (.func 92) #[] #[], .func (.func 93) #[] #[], .func (.func 94) #[] #[], .func (.func 95) #[] #[], .func (.func 95) #[] #[], .func (.func 96) #[] #[], .func (.func 97) #[] #[], .func (.func 98) #[] #[], .func (.func 99) #[] #[], .func (.func 96) #[] #[], .func (.func 96) #[] #[], .func (.func 100) #[] #[], .func (.func 101) #[] #[], .func (.func 100) #[] #[], .func (.func 102) #[] #[], .func (.func 102) #[] #[], .func (.func 96) #[] #[]]
def bareB (n : Nod) : Bool := onlyB n zeroN
set_option maxRecDepth 100000 in
set_option maxHeartbeats 4000000 in
theorem rights_any (w : World) :
    Calls Try.prog 84 #[] w fun e w' => e = .returned (.agg rulesL.toArray) ∧ Kept w w' := by
  refine g_enter (args := []) [] [] Try.func84 rfl Try.ntmps84 (Nat.le_of_ble_eq_true (by kernel_rfl)) (sat0 w) ?_
  refine g_run 9999 [] 0 (by kernel_rfl) ?_
  refine g_new (fun b => by kernel_rfl) fun b0 hb0 => ?_
  refine g_run 9999 (List.replicate 18 0) 0 (by kernel_rfl) ?_
  refine g_ret (List.replicate 18 0) (Value.agg { toList := [Value.nilFunc, Value.func (Fn.func 92) { toList := [] } { toList := [] }, Value.func (Fn.func 93) { toList := [] } { toList := [] }, Value.func (Fn.func 94) { toList := [] } { toList := [] }, Value.func (Fn.func 95) { toList := [] } { toList := [] }, Value.func (Fn.func 95) { toList := [] } { toList := [] }, Value.func (Fn.func 96) { toList := [] } { toList := [] }, Value.func (Fn.func 97) { toList := [] } { toList := [] }, Value.func (Fn.func 98) { toList := [] } { toList := [] }, Value.func (Fn.func 99) { toList := [] } { toList := [] }, Value.func (Fn.func 96) { toList := [] } { toList := [] }, Value.func (Fn.func 96) { toList := [] } { toList := [] }, Value.func (Fn.func 100) { toList := [] } { toList := [] }, Value.func (Fn.func 101) { toList := [] } { toList := [] }, Value.func (Fn.func 100) { toList := [] } { toList := [] }, Value.func (Fn.func 102) { toList := [] } { toList := [] }, Value.func (Fn.func 102) { toList := [] } { toList := [] }, Value.func (Fn.func 96) { toList := [] } { toList := [] }] }) (by kernel_rfl) (by kernel_rfl) (by kernel_rfl) fun w' hs => ?_
  exact ⟨rfl, hs.kept.kept⟩
set_option maxRecDepth 100000 in
set_option maxHeartbeats 4000000 in
theorem hold1 (b : Nat) (n : Nod) (w : World) (h : w.heap[b]? = some (.cells rulesL.toArray 131 (0, 0))) :
    Calls Try.prog 86 #[.pointer (some ⟨b, 0, none⟩), nodV { n with kind := 1 }] w fun e w' => e = .returned (.bool (charB { n with kind := 1 })) ∧ Kept w w' := by
  refine g_enter (args := [.pointer (some ⟨b, 0, none⟩), nodV { n with kind := 1 }]) [] [.obj false b rulesL 131] Try.func86 rfl Try.ntmps86 (Nat.le_of_ble_eq_true (by kernel_rfl)) (sat1 h) ?_
  refine g_run 9999 [] 0 (by kernel_rfl) ?_
  refine g_new (fun b => by kernel_rfl) fun b1 hb1 => ?_
  refine g_run 9999 [] 0 (by kernel_rfl) ?_
  refine g_draw 19 (by kernel_rfl) (by kernel_rfl) ?_
  refine l_run 9999 ([1, 1, 1] ++ [0] ++ List.replicate 19 1) 10 (by kernel_rfl) ?_
  refine l_callq _ _ _ ?_ (fun w hs => char_any { n with kind := 1 } w) ?_
  · kernel_rfl
  refine l_run 9999 [] 0 (by kernel_rfl) ?_
  refine l_end (by kernel_rfl) ?_
  refine g_ret [] (Value.bool (charB { kind := 1, font := n.font, char := n.char, w := n.w, h := n.h, d := n.d, shift := n.shift, nat := n.nat, str := n.str, shr := n.shr, so := n.so, sho := n.sho, sign := n.sign, ord := n.ord, num := n.num, den := n.den, pen := n.pen, sub := n.sub, text := n.text })) (by kernel_rfl) (by kernel_rfl) (by kernel_rfl) fun w' hs => ?_
  exact ⟨rfl, hs.kept.kept⟩
set_option maxRecDepth 100000 in
set_option maxHeartbeats 4000000 in
theorem hold2 (b : Nat) (n : Nod) (w : World) (h : w.heap[b]? = some (.cells rulesL.toArray 131 (0, 0))) :
    Calls Try.prog 86 #[.pointer (some ⟨b, 0, none⟩), nodV { n with kind := 2 }] w fun e w' => e = .returned (.bool (ligB { n with kind := 2 })) ∧ Kept w w' := by
  refine g_enter (args := [.pointer (some ⟨b, 0, none⟩), nodV { n with kind := 2 }]) [] [.obj false b rulesL 131] Try.func86 rfl Try.ntmps86 (Nat.le_of_ble_eq_true (by kernel_rfl)) (sat1 h) ?_
  refine g_run 9999 [] 0 (by kernel_rfl) ?_
  refine g_new (fun b => by kernel_rfl) fun b1 hb1 => ?_
  refine g_run 9999 [] 0 (by kernel_rfl) ?_
  refine g_draw 19 (by kernel_rfl) (by kernel_rfl) ?_
  refine l_run 9999 ([1, 1, 1] ++ [0] ++ List.replicate 19 1) 10 (by kernel_rfl) ?_
  refine l_callq _ _ _ ?_ (fun w hs => ligature_any { n with kind := 2 } w) ?_
  · kernel_rfl
  refine l_run 9999 [] 0 (by kernel_rfl) ?_
  refine l_end (by kernel_rfl) ?_
  refine g_ret [] (Value.bool (ligB { kind := 2, font := n.font, char := n.char, w := n.w, h := n.h, d := n.d, shift := n.shift, nat := n.nat, str := n.str, shr := n.shr, so := n.so, sho := n.sho, sign := n.sign, ord := n.ord, num := n.num, den := n.den, pen := n.pen, sub := n.sub, text := n.text })) (by kernel_rfl) (by kernel_rfl) (by kernel_rfl) fun w' hs => ?_
  exact ⟨rfl, hs.kept.kept⟩
set_option maxRecDepth 100000 in
set_option maxHeartbeats 4000000 in
theorem hold3 (b : Nat) (n : Nod) (w : World) (h : w.heap[b]? = some (.cells rulesL.toArray 131 (0, 0))) :
    Calls Try.prog 86 #[.pointer (some ⟨b, 0, none⟩), nodV { n with kind := 3 }] w fun e w' => e = .returned (.bool (ruleB { n with kind := 3 })) ∧ Kept w w' := by
  refine g_enter (args := [.pointer (some ⟨b, 0, none⟩), nodV { n with kind := 3 }]) [] [.obj false b rulesL 131] Try.func86 rfl Try.ntmps86 (Nat.le_of_ble_eq_true (by kernel_rfl)) (sat1 h) ?_
  refine g_run 9999 [] 0 (by kernel_rfl) ?_
  refine g_new (fun b => by kernel_rfl) fun b1 hb1 => ?_
  refine g_run 9999 [] 0 (by kernel_rfl) ?_
  refine g_draw 19 (by kernel_rfl) (by kernel_rfl) ?_
  refine l_run 9999 ([1, 1, 1] ++ [0] ++ List.replicate 19 1) 10 (by kernel_rfl) ?_
  refine l_callq _ _ _ ?_ (fun w hs => rule_any { n with kind := 3 } w) ?_
  · kernel_rfl
  refine l_run 9999 [] 0 (by kernel_rfl) ?_
  refine l_end (by kernel_rfl) ?_
  refine g_ret [] (Value.bool (ruleB { kind := 3, font := n.font, char := n.char, w := n.w, h := n.h, d := n.d, shift := n.shift, nat := n.nat, str := n.str, shr := n.shr, so := n.so, sho := n.sho, sign := n.sign, ord := n.ord, num := n.num, den := n.den, pen := n.pen, sub := n.sub, text := n.text })) (by kernel_rfl) (by kernel_rfl) (by kernel_rfl) fun w' hs => ?_
  exact ⟨rfl, hs.kept.kept⟩
set_option maxRecDepth 100000 in
set_option maxHeartbeats 4000000 in
theorem hold4 (b : Nat) (n : Nod) (w : World) (h : w.heap[b]? = some (.cells rulesL.toArray 131 (0, 0))) :
    Calls Try.prog 86 #[.pointer (some ⟨b, 0, none⟩), nodV { n with kind := 4 }] w fun e w' => e = .returned (.bool (boxB { n with kind := 4 })) ∧ Kept w w' := by
  refine g_enter (args := [.pointer (some ⟨b, 0, none⟩), nodV { n with kind := 4 }]) [] [.obj false b rulesL 131] Try.func86 rfl Try.ntmps86 (Nat.le_of_ble_eq_true (by kernel_rfl)) (sat1 h) ?_
  refine g_run 9999 [] 0 (by kernel_rfl) ?_
  refine g_new (fun b => by kernel_rfl) fun b1 hb1 => ?_
  refine g_run 9999 [] 0 (by kernel_rfl) ?_
  refine g_draw 19 (by kernel_rfl) (by kernel_rfl) ?_
  refine l_run 9999 ([1, 1, 1] ++ [0] ++ List.replicate 19 1) 10 (by kernel_rfl) ?_
  refine l_callq _ _ _ ?_ (fun w hs => box_any { n with kind := 4 } w) ?_
  · kernel_rfl
  refine l_run 9999 [] 0 (by kernel_rfl) ?_
  refine l_end (by kernel_rfl) ?_
  refine g_ret [] (Value.bool (boxB { kind := 4, font := n.font, char := n.char, w := n.w, h := n.h, d := n.d, shift := n.shift, nat := n.nat, str := n.str, shr := n.shr, so := n.so, sho := n.sho, sign := n.sign, ord := n.ord, num := n.num, den := n.den, pen := n.pen, sub := n.sub, text := n.text })) (by kernel_rfl) (by kernel_rfl) (by kernel_rfl) fun w' hs => ?_
  exact ⟨rfl, hs.kept.kept⟩
set_option maxRecDepth 100000 in
set_option maxHeartbeats 4000000 in
theorem hold5 (b : Nat) (n : Nod) (w : World) (h : w.heap[b]? = some (.cells rulesL.toArray 131 (0, 0))) :
    Calls Try.prog 86 #[.pointer (some ⟨b, 0, none⟩), nodV { n with kind := 5 }] w fun e w' => e = .returned (.bool (boxB { n with kind := 5 })) ∧ Kept w w' := by
  refine g_enter (args := [.pointer (some ⟨b, 0, none⟩), nodV { n with kind := 5 }]) [] [.obj false b rulesL 131] Try.func86 rfl Try.ntmps86 (Nat.le_of_ble_eq_true (by kernel_rfl)) (sat1 h) ?_
  refine g_run 9999 [] 0 (by kernel_rfl) ?_
  refine g_new (fun b => by kernel_rfl) fun b1 hb1 => ?_
  refine g_run 9999 [] 0 (by kernel_rfl) ?_
  refine g_draw 19 (by kernel_rfl) (by kernel_rfl) ?_
  refine l_run 9999 ([1, 1, 1] ++ [0] ++ List.replicate 19 1) 10 (by kernel_rfl) ?_
  refine l_callq _ _ _ ?_ (fun w hs => box_any { n with kind := 5 } w) ?_
  · kernel_rfl
  refine l_run 9999 [] 0 (by kernel_rfl) ?_
  refine l_end (by kernel_rfl) ?_
  refine g_ret [] (Value.bool (boxB { kind := 5, font := n.font, char := n.char, w := n.w, h := n.h, d := n.d, shift := n.shift, nat := n.nat, str := n.str, shr := n.shr, so := n.so, sho := n.sho, sign := n.sign, ord := n.ord, num := n.num, den := n.den, pen := n.pen, sub := n.sub, text := n.text })) (by kernel_rfl) (by kernel_rfl) (by kernel_rfl) fun w' hs => ?_
  exact ⟨rfl, hs.kept.kept⟩
set_option maxRecDepth 100000 in
set_option maxHeartbeats 4000000 in
theorem hold6 (b : Nat) (n : Nod) (w : World) (h : w.heap[b]? = some (.cells rulesL.toArray 131 (0, 0))) :
    Calls Try.prog 86 #[.pointer (some ⟨b, 0, none⟩), nodV { n with kind := 6 }] w fun e w' => e = .returned (.bool (bareB { n with kind := 6 })) ∧ Kept w w' := by
  refine g_enter (args := [.pointer (some ⟨b, 0, none⟩), nodV { n with kind := 6 }]) [] [.obj false b rulesL 131] Try.func86 rfl Try.ntmps86 (Nat.le_of_ble_eq_true (by kernel_rfl)) (sat1 h) ?_
  refine g_run 9999 [] 0 (by kernel_rfl) ?_
  refine g_new (fun b => by kernel_rfl) fun b1 hb1 => ?_
  refine g_run 9999 [] 0 (by kernel_rfl) ?_
  refine g_draw 19 (by kernel_rfl) (by kernel_rfl) ?_
  refine l_run 9999 ([1, 1, 1] ++ [0] ++ List.replicate 19 1) 10 (by kernel_rfl) ?_
  refine l_callq _ _ _ ?_ (fun w hs => bare_any { n with kind := 6 } w) ?_
  · kernel_rfl
  refine l_run 9999 [] 0 (by kernel_rfl) ?_
  refine l_end (by kernel_rfl) ?_
  refine g_ret [] (Value.bool ((fun n => onlyB n zeroN) { kind := 6, font := n.font, char := n.char, w := n.w, h := n.h, d := n.d, shift := n.shift, nat := n.nat, str := n.str, shr := n.shr, so := n.so, sho := n.sho, sign := n.sign, ord := n.ord, num := n.num, den := n.den, pen := n.pen, sub := n.sub, text := n.text })) (by kernel_rfl) (by kernel_rfl) (by kernel_rfl) fun w' hs => ?_
  exact ⟨rfl, hs.kept.kept⟩
set_option maxRecDepth 100000 in
set_option maxHeartbeats 4000000 in
theorem hold7 (b : Nat) (n : Nod) (w : World) (h : w.heap[b]? = some (.cells rulesL.toArray 131 (0, 0))) :
    Calls Try.prog 86 #[.pointer (some ⟨b, 0, none⟩), nodV { n with kind := 7 }] w fun e w' => e = .returned (.bool (skipB { n with kind := 7 })) ∧ Kept w w' := by
  refine g_enter (args := [.pointer (some ⟨b, 0, none⟩), nodV { n with kind := 7 }]) [] [.obj false b rulesL 131] Try.func86 rfl Try.ntmps86 (Nat.le_of_ble_eq_true (by kernel_rfl)) (sat1 h) ?_
  refine g_run 9999 [] 0 (by kernel_rfl) ?_
  refine g_new (fun b => by kernel_rfl) fun b1 hb1 => ?_
  refine g_run 9999 [] 0 (by kernel_rfl) ?_
  refine g_draw 19 (by kernel_rfl) (by kernel_rfl) ?_
  refine l_run 9999 ([1, 1, 1] ++ [0] ++ List.replicate 19 1) 10 (by kernel_rfl) ?_
  refine l_callq _ _ _ ?_ (fun w hs => skip_any { n with kind := 7 } w) ?_
  · kernel_rfl
  refine l_run 9999 [] 0 (by kernel_rfl) ?_
  refine l_end (by kernel_rfl) ?_
  refine g_ret [] (Value.bool (skipB { kind := 7, font := n.font, char := n.char, w := n.w, h := n.h, d := n.d, shift := n.shift, nat := n.nat, str := n.str, shr := n.shr, so := n.so, sho := n.sho, sign := n.sign, ord := n.ord, num := n.num, den := n.den, pen := n.pen, sub := n.sub, text := n.text })) (by kernel_rfl) (by kernel_rfl) (by kernel_rfl) fun w' hs => ?_
  exact ⟨rfl, hs.kept.kept⟩
set_option maxRecDepth 100000 in
set_option maxHeartbeats 4000000 in
theorem hold8 (b : Nat) (n : Nod) (w : World) (h : w.heap[b]? = some (.cells rulesL.toArray 131 (0, 0))) :
    Calls Try.prog 86 #[.pointer (some ⟨b, 0, none⟩), nodV { n with kind := 8 }] w fun e w' => e = .returned (.bool (kernB { n with kind := 8 })) ∧ Kept w w' := by
  refine g_enter (args := [.pointer (some ⟨b, 0, none⟩), nodV { n with kind := 8 }]) [] [.obj false b rulesL 131] Try.func86 rfl Try.ntmps86 (Nat.le_of_ble_eq_true (by kernel_rfl)) (sat1 h) ?_
  refine g_run 9999 [] 0 (by kernel_rfl) ?_
  refine g_new (fun b => by kernel_rfl) fun b1 hb1 => ?_
  refine g_run 9999 [] 0 (by kernel_rfl) ?_
  refine g_draw 19 (by kernel_rfl) (by kernel_rfl) ?_
  refine l_run 9999 ([1, 1, 1] ++ [0] ++ List.replicate 19 1) 10 (by kernel_rfl) ?_
  refine l_callq _ _ _ ?_ (fun w hs => kern_any { n with kind := 8 } w) ?_
  · kernel_rfl
  refine l_run 9999 [] 0 (by kernel_rfl) ?_
  refine l_end (by kernel_rfl) ?_
  refine g_ret [] (Value.bool (kernB { kind := 8, font := n.font, char := n.char, w := n.w, h := n.h, d := n.d, shift := n.shift, nat := n.nat, str := n.str, shr := n.shr, so := n.so, sho := n.sho, sign := n.sign, ord := n.ord, num := n.num, den := n.den, pen := n.pen, sub := n.sub, text := n.text })) (by kernel_rfl) (by kernel_rfl) (by kernel_rfl) fun w' hs => ?_
  exact ⟨rfl, hs.kept.kept⟩
set_option maxRecDepth 100000 in
set_option maxHeartbeats 4000000 in
theorem hold9 (b : Nat) (n : Nod) (w : World) (h : w.heap[b]? = some (.cells rulesL.toArray 131 (0, 0))) :
    Calls Try.prog 86 #[.pointer (some ⟨b, 0, none⟩), nodV { n with kind := 9 }] w fun e w' => e = .returned (.bool (penB { n with kind := 9 })) ∧ Kept w w' := by
  refine g_enter (args := [.pointer (some ⟨b, 0, none⟩), nodV { n with kind := 9 }]) [] [.obj false b rulesL 131] Try.func86 rfl Try.ntmps86 (Nat.le_of_ble_eq_true (by kernel_rfl)) (sat1 h) ?_
  refine g_run 9999 [] 0 (by kernel_rfl) ?_
  refine g_new (fun b => by kernel_rfl) fun b1 hb1 => ?_
  refine g_run 9999 [] 0 (by kernel_rfl) ?_
  refine g_draw 19 (by kernel_rfl) (by kernel_rfl) ?_
  refine l_run 9999 ([1, 1, 1] ++ [0] ++ List.replicate 19 1) 10 (by kernel_rfl) ?_
  refine l_callq _ _ _ ?_ (fun w hs => penalty_any { n with kind := 9 } w) ?_
  · kernel_rfl
  refine l_run 9999 [] 0 (by kernel_rfl) ?_
  refine l_end (by kernel_rfl) ?_
  refine g_ret [] (Value.bool (penB { kind := 9, font := n.font, char := n.char, w := n.w, h := n.h, d := n.d, shift := n.shift, nat := n.nat, str := n.str, shr := n.shr, so := n.so, sho := n.sho, sign := n.sign, ord := n.ord, num := n.num, den := n.den, pen := n.pen, sub := n.sub, text := n.text })) (by kernel_rfl) (by kernel_rfl) (by kernel_rfl) fun w' hs => ?_
  exact ⟨rfl, hs.kept.kept⟩
set_option maxRecDepth 100000 in
set_option maxHeartbeats 4000000 in
theorem hold10 (b : Nat) (n : Nod) (w : World) (h : w.heap[b]? = some (.cells rulesL.toArray 131 (0, 0))) :
    Calls Try.prog 86 #[.pointer (some ⟨b, 0, none⟩), nodV { n with kind := 10 }] w fun e w' => e = .returned (.bool (bareB { n with kind := 10 })) ∧ Kept w w' := by
  refine g_enter (args := [.pointer (some ⟨b, 0, none⟩), nodV { n with kind := 10 }]) [] [.obj false b rulesL 131] Try.func86 rfl Try.ntmps86 (Nat.le_of_ble_eq_true (by kernel_rfl)) (sat1 h) ?_
  refine g_run 9999 [] 0 (by kernel_rfl) ?_
  refine g_new (fun b => by kernel_rfl) fun b1 hb1 => ?_
  refine g_run 9999 [] 0 (by kernel_rfl) ?_
  refine g_draw 19 (by kernel_rfl) (by kernel_rfl) ?_
  refine l_run 9999 ([1, 1, 1] ++ [0] ++ List.replicate 19 1) 10 (by kernel_rfl) ?_
  refine l_callq _ _ _ ?_ (fun w hs => bare_any { n with kind := 10 } w) ?_
  · kernel_rfl
  refine l_run 9999 [] 0 (by kernel_rfl) ?_
  refine l_end (by kernel_rfl) ?_
  refine g_ret [] (Value.bool ((fun n => onlyB n zeroN) { kind := 10, font := n.font, char := n.char, w := n.w, h := n.h, d := n.d, shift := n.shift, nat := n.nat, str := n.str, shr := n.shr, so := n.so, sho := n.sho, sign := n.sign, ord := n.ord, num := n.num, den := n.den, pen := n.pen, sub := n.sub, text := n.text })) (by kernel_rfl) (by kernel_rfl) (by kernel_rfl) fun w' hs => ?_
  exact ⟨rfl, hs.kept.kept⟩
set_option maxRecDepth 100000 in
set_option maxHeartbeats 4000000 in
theorem hold11 (b : Nat) (n : Nod) (w : World) (h : w.heap[b]? = some (.cells rulesL.toArray 131 (0, 0))) :
    Calls Try.prog 86 #[.pointer (some ⟨b, 0, none⟩), nodV { n with kind := 11 }] w fun e w' => e = .returned (.bool (bareB { n with kind := 11 })) ∧ Kept w w' := by
  refine g_enter (args := [.pointer (some ⟨b, 0, none⟩), nodV { n with kind := 11 }]) [] [.obj false b rulesL 131] Try.func86 rfl Try.ntmps86 (Nat.le_of_ble_eq_true (by kernel_rfl)) (sat1 h) ?_
  refine g_run 9999 [] 0 (by kernel_rfl) ?_
  refine g_new (fun b => by kernel_rfl) fun b1 hb1 => ?_
  refine g_run 9999 [] 0 (by kernel_rfl) ?_
  refine g_draw 19 (by kernel_rfl) (by kernel_rfl) ?_
  refine l_run 9999 ([1, 1, 1] ++ [0] ++ List.replicate 19 1) 10 (by kernel_rfl) ?_
  refine l_callq _ _ _ ?_ (fun w hs => bare_any { n with kind := 11 } w) ?_
  · kernel_rfl
  refine l_run 9999 [] 0 (by kernel_rfl) ?_
  refine l_end (by kernel_rfl) ?_
  refine g_ret [] (Value.bool ((fun n => onlyB n zeroN) { kind := 11, font := n.font, char := n.char, w := n.w, h := n.h, d := n.d, shift := n.shift, nat := n.nat, str := n.str, shr := n.shr, so := n.so, sho := n.sho, sign := n.sign, ord := n.ord, num := n.num, den := n.den, pen := n.pen, sub := n.sub, text := n.text })) (by kernel_rfl) (by kernel_rfl) (by kernel_rfl) fun w' hs => ?_
  exact ⟨rfl, hs.kept.kept⟩
set_option maxRecDepth 100000 in
set_option maxHeartbeats 4000000 in
theorem hold12 (b : Nat) (n : Nod) (w : World) (h : w.heap[b]? = some (.cells rulesL.toArray 131 (0, 0))) :
    Calls Try.prog 86 #[.pointer (some ⟨b, 0, none⟩), nodV { n with kind := 12 }] w fun e w' => e = .returned (.bool (msgB { n with kind := 12 })) ∧ Kept w w' := by
  refine g_enter (args := [.pointer (some ⟨b, 0, none⟩), nodV { n with kind := 12 }]) [] [.obj false b rulesL 131] Try.func86 rfl Try.ntmps86 (Nat.le_of_ble_eq_true (by kernel_rfl)) (sat1 h) ?_
  refine g_run 9999 [] 0 (by kernel_rfl) ?_
  refine g_new (fun b => by kernel_rfl) fun b1 hb1 => ?_
  refine g_run 9999 [] 0 (by kernel_rfl) ?_
  refine g_draw 19 (by kernel_rfl) (by kernel_rfl) ?_
  refine l_run 9999 ([1, 1, 1] ++ [0] ++ List.replicate 19 1) 10 (by kernel_rfl) ?_
  refine l_callq _ _ _ ?_ (fun w hs => message_any { n with kind := 12 } w) ?_
  · kernel_rfl
  refine l_run 9999 [] 0 (by kernel_rfl) ?_
  refine l_end (by kernel_rfl) ?_
  refine g_ret [] (Value.bool (msgB { kind := 12, font := n.font, char := n.char, w := n.w, h := n.h, d := n.d, shift := n.shift, nat := n.nat, str := n.str, shr := n.shr, so := n.so, sho := n.sho, sign := n.sign, ord := n.ord, num := n.num, den := n.den, pen := n.pen, sub := n.sub, text := n.text })) (by kernel_rfl) (by kernel_rfl) (by kernel_rfl) fun w' hs => ?_
  exact ⟨rfl, hs.kept.kept⟩
set_option maxRecDepth 100000 in
set_option maxHeartbeats 4000000 in
theorem hold13 (b : Nat) (n : Nod) (w : World) (h : w.heap[b]? = some (.cells rulesL.toArray 131 (0, 0))) :
    Calls Try.prog 86 #[.pointer (some ⟨b, 0, none⟩), nodV { n with kind := 13 }] w fun e w' => e = .returned (.bool (insB { n with kind := 13 })) ∧ Kept w w' := by
  refine g_enter (args := [.pointer (some ⟨b, 0, none⟩), nodV { n with kind := 13 }]) [] [.obj false b rulesL 131] Try.func86 rfl Try.ntmps86 (Nat.le_of_ble_eq_true (by kernel_rfl)) (sat1 h) ?_
  refine g_run 9999 [] 0 (by kernel_rfl) ?_
  refine g_new (fun b => by kernel_rfl) fun b1 hb1 => ?_
  refine g_run 9999 [] 0 (by kernel_rfl) ?_
  refine g_draw 19 (by kernel_rfl) (by kernel_rfl) ?_
  refine l_run 9999 ([1, 1, 1] ++ [0] ++ List.replicate 19 1) 10 (by kernel_rfl) ?_
  refine l_callq _ _ _ ?_ (fun w hs => insert_any { n with kind := 13 } w) ?_
  · kernel_rfl
  refine l_run 9999 [] 0 (by kernel_rfl) ?_
  refine l_end (by kernel_rfl) ?_
  refine g_ret [] (Value.bool (insB { kind := 13, font := n.font, char := n.char, w := n.w, h := n.h, d := n.d, shift := n.shift, nat := n.nat, str := n.str, shr := n.shr, so := n.so, sho := n.sho, sign := n.sign, ord := n.ord, num := n.num, den := n.den, pen := n.pen, sub := n.sub, text := n.text })) (by kernel_rfl) (by kernel_rfl) (by kernel_rfl) fun w' hs => ?_
  exact ⟨rfl, hs.kept.kept⟩
set_option maxRecDepth 100000 in
set_option maxHeartbeats 4000000 in
theorem hold14 (b : Nat) (n : Nod) (w : World) (h : w.heap[b]? = some (.cells rulesL.toArray 131 (0, 0))) :
    Calls Try.prog 86 #[.pointer (some ⟨b, 0, none⟩), nodV { n with kind := 14 }] w fun e w' => e = .returned (.bool (msgB { n with kind := 14 })) ∧ Kept w w' := by
  refine g_enter (args := [.pointer (some ⟨b, 0, none⟩), nodV { n with kind := 14 }]) [] [.obj false b rulesL 131] Try.func86 rfl Try.ntmps86 (Nat.le_of_ble_eq_true (by kernel_rfl)) (sat1 h) ?_
  refine g_run 9999 [] 0 (by kernel_rfl) ?_
  refine g_new (fun b => by kernel_rfl) fun b1 hb1 => ?_
  refine g_run 9999 [] 0 (by kernel_rfl) ?_
  refine g_draw 19 (by kernel_rfl) (by kernel_rfl) ?_
  refine l_run 9999 ([1, 1, 1] ++ [0] ++ List.replicate 19 1) 10 (by kernel_rfl) ?_
  refine l_callq _ _ _ ?_ (fun w hs => message_any { n with kind := 14 } w) ?_
  · kernel_rfl
  refine l_run 9999 [] 0 (by kernel_rfl) ?_
  refine l_end (by kernel_rfl) ?_
  refine g_ret [] (Value.bool (msgB { kind := 14, font := n.font, char := n.char, w := n.w, h := n.h, d := n.d, shift := n.shift, nat := n.nat, str := n.str, shr := n.shr, so := n.so, sho := n.sho, sign := n.sign, ord := n.ord, num := n.num, den := n.den, pen := n.pen, sub := n.sub, text := n.text })) (by kernel_rfl) (by kernel_rfl) (by kernel_rfl) fun w' hs => ?_
  exact ⟨rfl, hs.kept.kept⟩
set_option maxRecDepth 100000 in
set_option maxHeartbeats 4000000 in
theorem hold15 (b : Nat) (n : Nod) (w : World) (h : w.heap[b]? = some (.cells rulesL.toArray 131 (0, 0))) :
    Calls Try.prog 86 #[.pointer (some ⟨b, 0, none⟩), nodV { n with kind := 15 }] w fun e w' => e = .returned (.bool (mathB { n with kind := 15 })) ∧ Kept w w' := by
  refine g_enter (args := [.pointer (some ⟨b, 0, none⟩), nodV { n with kind := 15 }]) [] [.obj false b rulesL 131] Try.func86 rfl Try.ntmps86 (Nat.le_of_ble_eq_true (by kernel_rfl)) (sat1 h) ?_
  refine g_run 9999 [] 0 (by kernel_rfl) ?_
  refine g_new (fun b => by kernel_rfl) fun b1 hb1 => ?_
  refine g_run 9999 [] 0 (by kernel_rfl) ?_
  refine g_draw 19 (by kernel_rfl) (by kernel_rfl) ?_
  refine l_run 9999 ([1, 1, 1] ++ [0] ++ List.replicate 19 1) 10 (by kernel_rfl) ?_
  refine l_callq _ _ _ ?_ (fun w hs => math_any { n with kind := 15 } w) ?_
  · kernel_rfl
  refine l_run 9999 [] 0 (by kernel_rfl) ?_
  refine l_end (by kernel_rfl) ?_
  refine g_ret [] (Value.bool (mathB { kind := 15, font := n.font, char := n.char, w := n.w, h := n.h, d := n.d, shift := n.shift, nat := n.nat, str := n.str, shr := n.shr, so := n.so, sho := n.sho, sign := n.sign, ord := n.ord, num := n.num, den := n.den, pen := n.pen, sub := n.sub, text := n.text })) (by kernel_rfl) (by kernel_rfl) (by kernel_rfl) fun w' hs => ?_
  exact ⟨rfl, hs.kept.kept⟩
set_option maxRecDepth 100000 in
set_option maxHeartbeats 4000000 in
theorem hold16 (b : Nat) (n : Nod) (w : World) (h : w.heap[b]? = some (.cells rulesL.toArray 131 (0, 0))) :
    Calls Try.prog 86 #[.pointer (some ⟨b, 0, none⟩), nodV { n with kind := 16 }] w fun e w' => e = .returned (.bool (mathB { n with kind := 16 })) ∧ Kept w w' := by
  refine g_enter (args := [.pointer (some ⟨b, 0, none⟩), nodV { n with kind := 16 }]) [] [.obj false b rulesL 131] Try.func86 rfl Try.ntmps86 (Nat.le_of_ble_eq_true (by kernel_rfl)) (sat1 h) ?_
  refine g_run 9999 [] 0 (by kernel_rfl) ?_
  refine g_new (fun b => by kernel_rfl) fun b1 hb1 => ?_
  refine g_run 9999 [] 0 (by kernel_rfl) ?_
  refine g_draw 19 (by kernel_rfl) (by kernel_rfl) ?_
  refine l_run 9999 ([1, 1, 1] ++ [0] ++ List.replicate 19 1) 10 (by kernel_rfl) ?_
  refine l_callq _ _ _ ?_ (fun w hs => math_any { n with kind := 16 } w) ?_
  · kernel_rfl
  refine l_run 9999 [] 0 (by kernel_rfl) ?_
  refine l_end (by kernel_rfl) ?_
  refine g_ret [] (Value.bool (mathB { kind := 16, font := n.font, char := n.char, w := n.w, h := n.h, d := n.d, shift := n.shift, nat := n.nat, str := n.str, shr := n.shr, so := n.so, sho := n.sho, sign := n.sign, ord := n.ord, num := n.num, den := n.den, pen := n.pen, sub := n.sub, text := n.text })) (by kernel_rfl) (by kernel_rfl) (by kernel_rfl) fun w' hs => ?_
  exact ⟨rfl, hs.kept.kept⟩
set_option maxRecDepth 100000 in
set_option maxHeartbeats 4000000 in
theorem hold17 (b : Nat) (n : Nod) (w : World) (h : w.heap[b]? = some (.cells rulesL.toArray 131 (0, 0))) :
    Calls Try.prog 86 #[.pointer (some ⟨b, 0, none⟩), nodV { n with kind := 17 }] w fun e w' => e = .returned (.bool (bareB { n with kind := 17 })) ∧ Kept w w' := by
  refine g_enter (args := [.pointer (some ⟨b, 0, none⟩), nodV { n with kind := 17 }]) [] [.obj false b rulesL 131] Try.func86 rfl Try.ntmps86 (Nat.le_of_ble_eq_true (by kernel_rfl)) (sat1 h) ?_
  refine g_run 9999 [] 0 (by kernel_rfl) ?_
  refine g_new (fun b => by kernel_rfl) fun b1 hb1 => ?_
  refine g_run 9999 [] 0 (by kernel_rfl) ?_
  refine g_draw 19 (by kernel_rfl) (by kernel_rfl) ?_
  refine l_run 9999 ([1, 1, 1] ++ [0] ++ List.replicate 19 1) 10 (by kernel_rfl) ?_
  refine l_callq _ _ _ ?_ (fun w hs => bare_any { n with kind := 17 } w) ?_
  · kernel_rfl
  refine l_run 9999 [] 0 (by kernel_rfl) ?_
  refine l_end (by kernel_rfl) ?_
  refine g_ret [] (Value.bool ((fun n => onlyB n zeroN) { kind := 17, font := n.font, char := n.char, w := n.w, h := n.h, d := n.d, shift := n.shift, nat := n.nat, str := n.str, shr := n.shr, so := n.so, sho := n.sho, sign := n.sign, ord := n.ord, num := n.num, den := n.den, pen := n.pen, sub := n.sub, text := n.text })) (by kernel_rfl) (by kernel_rfl) (by kernel_rfl) fun w' hs => ?_
  exact ⟨rfl, hs.kept.kept⟩
set_option maxRecDepth 100000 in
set_option maxHeartbeats 4000000 in
theorem hold_no (b : Nat) (n : Nod) (w : World) (h : w.heap[b]? = some (.cells rulesL.toArray 131 (0, 0))) (hk : n.kind < 1 ∨ 17 < n.kind) :
    Calls Try.prog 86 #[.pointer (some ⟨b, 0, none⟩), nodV n] w fun e w' => e = .returned (.bool false) ∧ Kept w w' := by
  refine g_enter (args := [.pointer (some ⟨b, 0, none⟩), nodV n]) [] [.obj false b rulesL 131] Try.func86 rfl Try.ntmps86 (Nat.le_of_ble_eq_true (by kernel_rfl)) (sat1 h) ?_
  refine g_run 9999 [] 0 (by kernel_rfl) ?_
  refine g_new (fun b => by kernel_rfl) fun b1 hb1 => ?_
  refine g_run 9999 [] 0 (by kernel_rfl) ?_
  refine g_draw 19 (by kernel_rfl) (by kernel_rfl) ?_
  refine l_run 9999 ([1]) 0 (by kernel_rfl) ?_
  refine l_dec 8 (decide (n.kind ≥ 1)) (by kernel_rfl) (fun h8 => ?_) (fun h8 => ?_)
  · refine l_run 9999 ([1]) 3 (by kernel_rfl) ?_
    refine l_dec 13 (decide (n.kind ≤ 17)) (by kernel_rfl) (fun h13 => ?_) (fun h13 => ?_)
    · exact absurd h13 (by simp only [decide_eq_true_eq] at *; omega)
    · refine l_run 9999 [] 8 (by kernel_rfl) ?_
      refine l_end (by kernel_rfl) ?_
      refine g_ret [] (Value.bool false) (by kernel_rfl) (by kernel_rfl) (by kernel_rfl) fun w' hs => ?_
      exact ⟨rfl, hs.kept.kept⟩
  · refine l_run 9999 [] 11 (by kernel_rfl) ?_
    refine l_end (by kernel_rfl) ?_
    refine g_ret [] (Value.bool false) (by kernel_rfl) (by kernel_rfl) (by kernel_rfl) fun w' hs => ?_
    exact ⟨rfl, hs.kept.kept⟩
def rightB (n : Nod) : Bool :=
  bif decide (n.kind = 1) then charB n else bif decide (n.kind = 2) then ligB n else bif decide (n.kind = 3) then ruleB n else bif decide (n.kind = 4) then boxB n else bif decide (n.kind = 5) then boxB n
  else bif decide (n.kind = 6) then bareB n else bif decide (n.kind = 7) then skipB n else bif decide (n.kind = 8) then kernB n else bif decide (n.kind = 9) then penB n else bif decide (n.kind = 10) then bareB n
  else bif decide (n.kind = 11) then bareB n else bif decide (n.kind = 12) then msgB n else bif decide (n.kind = 13) then insB n else bif decide (n.kind = 14) then msgB n else bif decide (n.kind = 15) then mathB n
  else bif decide (n.kind = 16) then mathB n else bif decide (n.kind = 17) then bareB n else false
theorem rightB_no (n : Nod) (h : n.kind < 1 ∨ 17 < n.kind) : rightB n = false := by
  unfold rightB
  repeat rw [decide_eq_false (by omega), cond_false]
theorem hold_any (b : Nat) (n : Nod) (w : World) (h : w.heap[b]? = some (.cells rulesL.toArray 131 (0, 0))) :
    Calls Try.prog 86 #[.pointer (some ⟨b, 0, none⟩), nodV n] w fun e w' => e = .returned (.bool (rightB n)) ∧ Kept w w' := by
  by_cases hk : n.kind < 1 ∨ 17 < n.kind
  · rw [rightB_no n hk]; exact hold_no b n w h hk
  · obtain ⟨kind, font, char, wd, ht, dp, shift, nat, str, shr, so, sho, sign, ord, num, den, pen, sub, text⟩ := n
    simp only at hk
    by_cases h1 : kind = 1
    · subst h1; exact hold1 b ⟨1, font, char, wd, ht, dp, shift, nat, str, shr, so, sho, sign, ord, num, den, pen, sub, text⟩ w h
    by_cases h2 : kind = 2
    · subst h2; exact hold2 b ⟨2, font, char, wd, ht, dp, shift, nat, str, shr, so, sho, sign, ord, num, den, pen, sub, text⟩ w h
    by_cases h3 : kind = 3
    · subst h3; exact hold3 b ⟨3, font, char, wd, ht, dp, shift, nat, str, shr, so, sho, sign, ord, num, den, pen, sub, text⟩ w h
    by_cases h4 : kind = 4
    · subst h4; exact hold4 b ⟨4, font, char, wd, ht, dp, shift, nat, str, shr, so, sho, sign, ord, num, den, pen, sub, text⟩ w h
    by_cases h5 : kind = 5
    · subst h5; exact hold5 b ⟨5, font, char, wd, ht, dp, shift, nat, str, shr, so, sho, sign, ord, num, den, pen, sub, text⟩ w h
    by_cases h6 : kind = 6
    · subst h6; exact hold6 b ⟨6, font, char, wd, ht, dp, shift, nat, str, shr, so, sho, sign, ord, num, den, pen, sub, text⟩ w h
    by_cases h7 : kind = 7
    · subst h7; exact hold7 b ⟨7, font, char, wd, ht, dp, shift, nat, str, shr, so, sho, sign, ord, num, den, pen, sub, text⟩ w h
    by_cases h8 : kind = 8
    · subst h8; exact hold8 b ⟨8, font, char, wd, ht, dp, shift, nat, str, shr, so, sho, sign, ord, num, den, pen, sub, text⟩ w h
    by_cases h9 : kind = 9
    · subst h9; exact hold9 b ⟨9, font, char, wd, ht, dp, shift, nat, str, shr, so, sho, sign, ord, num, den, pen, sub, text⟩ w h
    by_cases h10 : kind = 10
    · subst h10; exact hold10 b ⟨10, font, char, wd, ht, dp, shift, nat, str, shr, so, sho, sign, ord, num, den, pen, sub, text⟩ w h
    by_cases h11 : kind = 11
    · subst h11; exact hold11 b ⟨11, font, char, wd, ht, dp, shift, nat, str, shr, so, sho, sign, ord, num, den, pen, sub, text⟩ w h
    by_cases h12 : kind = 12
    · subst h12; exact hold12 b ⟨12, font, char, wd, ht, dp, shift, nat, str, shr, so, sho, sign, ord, num, den, pen, sub, text⟩ w h
    by_cases h13 : kind = 13
    · subst h13; exact hold13 b ⟨13, font, char, wd, ht, dp, shift, nat, str, shr, so, sho, sign, ord, num, den, pen, sub, text⟩ w h
    by_cases h14 : kind = 14
    · subst h14; exact hold14 b ⟨14, font, char, wd, ht, dp, shift, nat, str, shr, so, sho, sign, ord, num, den, pen, sub, text⟩ w h
    by_cases h15 : kind = 15
    · subst h15; exact hold15 b ⟨15, font, char, wd, ht, dp, shift, nat, str, shr, so, sho, sign, ord, num, den, pen, sub, text⟩ w h
    by_cases h16 : kind = 16
    · subst h16; exact hold16 b ⟨16, font, char, wd, ht, dp, shift, nat, str, shr, so, sho, sign, ord, num, den, pen, sub, text⟩ w h
    by_cases h17 : kind = 17
    · subst h17; exact hold17 b ⟨17, font, char, wd, ht, dp, shift, nat, str, shr, so, sho, sign, ord, num, den, pen, sub, text⟩ w h
    omega
end Go.Proofs.Ytcncfmjfgdbfeab
