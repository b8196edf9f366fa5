/- nodes: measures of a node, by its kind. -/
import Derived.Test.YtcncfmjfgdbfeaaNodSum
namespace Go.Proofs.Ytcncfmjfgdbfeaa
set_option maxRecDepth 100000
set_option maxHeartbeats 4000000
open Go.RowKit
def alongL : List Value := (List.range 18).map fun k => if k ∈ [1, 2, 3, 4, 5, 8, 15, 16] then .func (.func 124) #[] #[] else .nilFunc
def uprightL : List Value := (List.range 18).map fun k => if k ∈ [3, 4, 5] then .func (.func 123) #[] #[] else if k = 8 then .func (.func 124) #[] #[] else .nilFunc
theorem nwidth_any (n : Nod) (w : World) : Calls Try.prog 124 #[nodV n] w fun e w' => e = .returned (.int .i64 n.w) ∧ Kept w w' := by
 refine g_enter (args := [nodV n]) [] [] Try.func124 rfl Try.ntmps124 kL (sat0 w) ?_
 refine g0 ?_
 refine gN fun b0 hb0 => ?_
 refine gA ([0]) 0 ?_
 refine gR (Value.int IntKind.i64 n.w) fun w' hs => ?_
 exact ⟨rfl, hs.kk⟩
theorem nsize_any (n : Nod) (w : World) : Calls Try.prog 123 #[nodV n] w fun e w' => e = .returned (.int .i64 (wr n.h n.d)) ∧ Kept w w' := by
 refine g_enter (args := [nodV n]) [] [] Try.func123 rfl Try.ntmps123 kL (sat0 w) ?_
 refine g0 ?_
 refine gN fun b0 hb0 => ?_
 refine gA ([0, 0]) 0 ?_
 refine gR (Value.int IntKind.i64 (IntKind.i64.wrap (n.h + n.d))) fun w' hs => ?_
 exact ⟨rfl, hs.kk⟩
theorem of_along_1 (n : Nod) (b : Nat) (w : World) (hb : w.heap[b]? = some (.cells alongL.toArray 162 (0, 0))) : Calls Try.prog 118 #[.pointer (some ⟨b, 0, none⟩), nodV { n with kind := 1 }] w fun e w' => e = .returned (.int .i64 (n.w)) ∧ Kept w w' := by
 refine g_enter (args := [.pointer (some ⟨b, 0, none⟩), nodV { n with kind := 1 }]) [] [.obj false b alongL 162] Try.func118 rfl Try.ntmps118 kL (sat1 hb) ?_
 refine g0 ?_
 refine gN fun b1 hb1 => ?_
 refine g0 ?_
 refine gD 7 ?_
 refine lA ([1] ++ [0]) 0 ?_
 refine lE ?_
 refine gA [] 1 ?_
 refine gD 9 ?_
 refine lA ([1] ++ [0] ++ List.replicate 19 1) 0 ?_
 refine l_callq _ _ _ ?_ (fun w hs => nwidth_any { n with kind := 1 } w) ?_
 ·kernel_rfl
 refine l0 ?_
 refine lE ?_
 refine gR (Value.int IntKind.i64 (Nod.mk 1 n.font n.char n.w n.h n.d n.shift n.nat n.str n.shr n.so n.sho n.sign n.ord n.num n.den n.pen n.sub n.text).w) fun w' hs => ?_
 exact ⟨rfl, hs.kk⟩
theorem of_along_2 (n : Nod) (b : Nat) (w : World) (hb : w.heap[b]? = some (.cells alongL.toArray 162 (0, 0))) : Calls Try.prog 118 #[.pointer (some ⟨b, 0, none⟩), nodV { n with kind := 2 }] w fun e w' => e = .returned (.int .i64 (n.w)) ∧ Kept w w' := by
 refine g_enter (args := [.pointer (some ⟨b, 0, none⟩), nodV { n with kind := 2 }]) [] [.obj false b alongL 162] Try.func118 rfl Try.ntmps118 kL (sat1 hb) ?_
 refine g0 ?_
 refine gN fun b1 hb1 => ?_
 refine g0 ?_
 refine gD 7 ?_
 refine lA ([1] ++ [0]) 0 ?_
 refine lE ?_
 refine gA [] 1 ?_
 refine gD 9 ?_
 refine lA ([1] ++ [0] ++ List.replicate 19 1) 0 ?_
 refine l_callq _ _ _ ?_ (fun w hs => nwidth_any { n with kind := 2 } w) ?_
 ·kernel_rfl
 refine l0 ?_
 refine lE ?_
 refine gR (Value.int IntKind.i64 (Nod.mk 2 n.font n.char n.w n.h n.d n.shift n.nat n.str n.shr n.so n.sho n.sign n.ord n.num n.den n.pen n.sub n.text).w) fun w' hs => ?_
 exact ⟨rfl, hs.kk⟩
theorem of_along_3 (n : Nod) (b : Nat) (w : World) (hb : w.heap[b]? = some (.cells alongL.toArray 162 (0, 0))) : Calls Try.prog 118 #[.pointer (some ⟨b, 0, none⟩), nodV { n with kind := 3 }] w fun e w' => e = .returned (.int .i64 (n.w)) ∧ Kept w w' := by
 refine g_enter (args := [.pointer (some ⟨b, 0, none⟩), nodV { n with kind := 3 }]) [] [.obj false b alongL 162] Try.func118 rfl Try.ntmps118 kL (sat1 hb) ?_
 refine g0 ?_
 refine gN fun b1 hb1 => ?_
 refine g0 ?_
 refine gD 7 ?_
 refine lA ([1] ++ [0]) 0 ?_
 refine lE ?_
 refine gA [] 1 ?_
 refine gD 9 ?_
 refine lA ([1] ++ [0] ++ List.replicate 19 1) 0 ?_
 refine l_callq _ _ _ ?_ (fun w hs => nwidth_any { n with kind := 3 } w) ?_
 ·kernel_rfl
 refine l0 ?_
 refine lE ?_
 refine gR (Value.int IntKind.i64 (Nod.mk 3 n.font n.char n.w n.h n.d n.shift n.nat n.str n.shr n.so n.sho n.sign n.ord n.num n.den n.pen n.sub n.text).w) fun w' hs => ?_
 exact ⟨rfl, hs.kk⟩
theorem of_along_4 (n : Nod) (b : Nat) (w : World) (hb : w.heap[b]? = some (.cells alongL.toArray 162 (0, 0))) : Calls Try.prog 118 #[.pointer (some ⟨b, 0, none⟩), nodV { n with kind := 4 }] w fun e w' => e = .returned (.int .i64 (n.w)) ∧ Kept w w' := by
 refine g_enter (args := [.pointer (some ⟨b, 0, none⟩), nodV { n with kind := 4 }]) [] [.obj false b alongL 162] Try.func118 rfl Try.ntmps118 kL (sat1 hb) ?_
 refine g0 ?_
 refine gN fun b1 hb1 => ?_
 refine g0 ?_
 refine gD 7 ?_
 refine lA ([1] ++ [0]) 0 ?_
 refine lE ?_
 refine gA [] 1 ?_
 refine gD 9 ?_
 refine lA ([1] ++ [0] ++ List.replicate 19 1) 0 ?_
 refine l_callq _ _ _ ?_ (fun w hs => nwidth_any { n with kind := 4 } w) ?_
 ·kernel_rfl
 refine l0 ?_
 refine lE ?_
 refine gR (Value.int IntKind.i64 (Nod.mk 4 n.font n.char n.w n.h n.d n.shift n.nat n.str n.shr n.so n.sho n.sign n.ord n.num n.den n.pen n.sub n.text).w) fun w' hs => ?_
 exact ⟨rfl, hs.kk⟩
theorem of_along_5 (n : Nod) (b : Nat) (w : World) (hb : w.heap[b]? = some (.cells alongL.toArray 162 (0, 0))) : Calls Try.prog 118 #[.pointer (some ⟨b, 0, none⟩), nodV { n with kind := 5 }] w fun e w' => e = .returned (.int .i64 (n.w)) ∧ Kept w w' := by
 refine g_enter (args := [.pointer (some ⟨b, 0, none⟩), nodV { n with kind := 5 }]) [] [.obj false b alongL 162] Try.func118 rfl Try.ntmps118 kL (sat1 hb) ?_
 refine g0 ?_
 refine gN fun b1 hb1 => ?_
 refine g0 ?_
 refine gD 7 ?_
 refine lA ([1] ++ [0]) 0 ?_
 refine lE ?_
 refine gA [] 1 ?_
 refine gD 9 ?_
 refine lA ([1] ++ [0] ++ List.replicate 19 1) 0 ?_
 refine l_callq _ _ _ ?_ (fun w hs => nwidth_any { n with kind := 5 } w) ?_
 ·kernel_rfl
 refine l0 ?_
 refine lE ?_
 refine gR (Value.int IntKind.i64 (Nod.mk 5 n.font n.char n.w n.h n.d n.shift n.nat n.str n.shr n.so n.sho n.sign n.ord n.num n.den n.pen n.sub n.text).w) fun w' hs => ?_
 exact ⟨rfl, hs.kk⟩
theorem of_along_6 (n : Nod) (b : Nat) (w : World) (hb : w.heap[b]? = some (.cells alongL.toArray 162 (0, 0))) : Calls Try.prog 118 #[.pointer (some ⟨b, 0, none⟩), nodV { n with kind := 6 }] w fun e w' => e = .returned (.int .i64 (0)) ∧ Kept w w' := by
 refine g_enter (args := [.pointer (some ⟨b, 0, none⟩), nodV { n with kind := 6 }]) [] [.obj false b alongL 162] Try.func118 rfl Try.ntmps118 kL (sat1 hb) ?_
 refine g0 ?_
 refine gN fun b1 hb1 => ?_
 refine g0 ?_
 refine gD 7 ?_
 refine lA ([1] ++ [0]) 0 ?_
 refine lE ?_
 refine gA [] 1 ?_
 refine gR (Value.int IntKind.i64 0) fun w' hs => ?_
 exact ⟨rfl, hs.kk⟩
theorem of_along_7 (n : Nod) (b : Nat) (w : World) (hb : w.heap[b]? = some (.cells alongL.toArray 162 (0, 0))) : Calls Try.prog 118 #[.pointer (some ⟨b, 0, none⟩), nodV { n with kind := 7 }] w fun e w' => e = .returned (.int .i64 (0)) ∧ Kept w w' := by
 refine g_enter (args := [.pointer (some ⟨b, 0, none⟩), nodV { n with kind := 7 }]) [] [.obj false b alongL 162] Try.func118 rfl Try.ntmps118 kL (sat1 hb) ?_
 refine g0 ?_
 refine gN fun b1 hb1 => ?_
 refine g0 ?_
 refine gD 7 ?_
 refine lA ([1] ++ [0]) 0 ?_
 refine lE ?_
 refine gA [] 1 ?_
 refine gR (Value.int IntKind.i64 0) fun w' hs => ?_
 exact ⟨rfl, hs.kk⟩
theorem of_along_8 (n : Nod) (b : Nat) (w : World) (hb : w.heap[b]? = some (.cells alongL.toArray 162 (0, 0))) : Calls Try.prog 118 #[.pointer (some ⟨b, 0, none⟩), nodV { n with kind := 8 }] w fun e w' => e = .returned (.int .i64 (n.w)) ∧ Kept w w' := by
 refine g_enter (args := [.pointer (some ⟨b, 0, none⟩), nodV { n with kind := 8 }]) [] [.obj false b alongL 162] Try.func118 rfl Try.ntmps118 kL (sat1 hb) ?_
 refine g0 ?_
 refine gN fun b1 hb1 => ?_
 refine g0 ?_
 refine gD 7 ?_
 refine lA ([1] ++ [0]) 0 ?_
 refine lE ?_
 refine gA [] 1 ?_
 refine gD 9 ?_
 refine lA ([1] ++ [0] ++ List.replicate 19 1) 0 ?_
 refine l_callq _ _ _ ?_ (fun w hs => nwidth_any { n with kind := 8 } w) ?_
 ·kernel_rfl
 refine l0 ?_
 refine lE ?_
 refine gR (Value.int IntKind.i64 (Nod.mk 8 n.font n.char n.w n.h n.d n.shift n.nat n.str n.shr n.so n.sho n.sign n.ord n.num n.den n.pen n.sub n.text).w) fun w' hs => ?_
 exact ⟨rfl, hs.kk⟩
theorem of_along_9 (n : Nod) (b : Nat) (w : World) (hb : w.heap[b]? = some (.cells alongL.toArray 162 (0, 0))) : Calls Try.prog 118 #[.pointer (some ⟨b, 0, none⟩), nodV { n with kind := 9 }] w fun e w' => e = .returned (.int .i64 (0)) ∧ Kept w w' := by
 refine g_enter (args := [.pointer (some ⟨b, 0, none⟩), nodV { n with kind := 9 }]) [] [.obj false b alongL 162] Try.func118 rfl Try.ntmps118 kL (sat1 hb) ?_
 refine g0 ?_
 refine gN fun b1 hb1 => ?_
 refine g0 ?_
 refine gD 7 ?_
 refine lA ([1] ++ [0]) 0 ?_
 refine lE ?_
 refine gA [] 1 ?_
 refine gR (Value.int IntKind.i64 0) fun w' hs => ?_
 exact ⟨rfl, hs.kk⟩
theorem of_along_10 (n : Nod) (b : Nat) (w : World) (hb : w.heap[b]? = some (.cells alongL.toArray 162 (0, 0))) : Calls Try.prog 118 #[.pointer (some ⟨b, 0, none⟩), nodV { n with kind := 10 }] w fun e w' => e = .returned (.int .i64 (0)) ∧ Kept w w' := by
 refine g_enter (args := [.pointer (some ⟨b, 0, none⟩), nodV { n with kind := 10 }]) [] [.obj false b alongL 162] Try.func118 rfl Try.ntmps118 kL (sat1 hb) ?_
 refine g0 ?_
 refine gN fun b1 hb1 => ?_
 refine g0 ?_
 refine gD 7 ?_
 refine lA ([1] ++ [0]) 0 ?_
 refine lE ?_
 refine gA [] 1 ?_
 refine gR (Value.int IntKind.i64 0) fun w' hs => ?_
 exact ⟨rfl, hs.kk⟩
theorem of_along_11 (n : Nod) (b : Nat) (w : World) (hb : w.heap[b]? = some (.cells alongL.toArray 162 (0, 0))) : Calls Try.prog 118 #[.pointer (some ⟨b, 0, none⟩), nodV { n with kind := 11 }] w fun e w' => e = .returned (.int .i64 (0)) ∧ Kept w w' := by
 refine g_enter (args := [.pointer (some ⟨b, 0, none⟩), nodV { n with kind := 11 }]) [] [.obj false b alongL 162] Try.func118 rfl Try.ntmps118 kL (sat1 hb) ?_
 refine g0 ?_
 refine gN fun b1 hb1 => ?_
 refine g0 ?_
 refine gD 7 ?_
 refine lA ([1] ++ [0]) 0 ?_
 refine lE ?_
 refine gA [] 1 ?_
 refine gR (Value.int IntKind.i64 0) fun w' hs => ?_
 exact ⟨rfl, hs.kk⟩
theorem of_along_12 (n : Nod) (b : Nat) (w : World) (hb : w.heap[b]? = some (.cells alongL.toArray 162 (0, 0))) : Calls Try.prog 118 #[.pointer (some ⟨b, 0, none⟩), nodV { n with kind := 12 }] w fun e w' => e = .returned (.int .i64 (0)) ∧ Kept w w' := by
 refine g_enter (args := [.pointer (some ⟨b, 0, none⟩), nodV { n with kind := 12 }]) [] [.obj false b alongL 162] Try.func118 rfl Try.ntmps118 kL (sat1 hb) ?_
 refine g0 ?_
 refine gN fun b1 hb1 => ?_
 refine g0 ?_
 refine gD 7 ?_
 refine lA ([1] ++ [0]) 0 ?_
 refine lE ?_
 refine gA [] 1 ?_
 refine gR (Value.int IntKind.i64 0) fun w' hs => ?_
 exact ⟨rfl, hs.kk⟩
theorem of_along_13 (n : Nod) (b : Nat) (w : World) (hb : w.heap[b]? = some (.cells alongL.toArray 162 (0, 0))) : Calls Try.prog 118 #[.pointer (some ⟨b, 0, none⟩), nodV { n with kind := 13 }] w fun e w' => e = .returned (.int .i64 (0)) ∧ Kept w w' := by
 refine g_enter (args := [.pointer (some ⟨b, 0, none⟩), nodV { n with kind := 13 }]) [] [.obj false b alongL 162] Try.func118 rfl Try.ntmps118 kL (sat1 hb) ?_
 refine g0 ?_
 refine gN fun b1 hb1 => ?_
 refine g0 ?_
 refine gD 7 ?_
 refine lA ([1] ++ [0]) 0 ?_
 refine lE ?_
 refine gA [] 1 ?_
 refine gR (Value.int IntKind.i64 0) fun w' hs => ?_
 exact ⟨rfl, hs.kk⟩
theorem of_along_14 (n : Nod) (b : Nat) (w : World) (hb : w.heap[b]? = some (.cells alongL.toArray 162 (0, 0))) : Calls Try.prog 118 #[.pointer (some ⟨b, 0, none⟩), nodV { n with kind := 14 }] w fun e w' => e = .returned (.int .i64 (0)) ∧ Kept w w' := by
 refine g_enter (args := [.pointer (some ⟨b, 0, none⟩), nodV { n with kind := 14 }]) [] [.obj false b alongL 162] Try.func118 rfl Try.ntmps118 kL (sat1 hb) ?_
 refine g0 ?_
 refine gN fun b1 hb1 => ?_
 refine g0 ?_
 refine gD 7 ?_
 refine lA ([1] ++ [0]) 0 ?_
 refine lE ?_
 refine gA [] 1 ?_
 refine gR (Value.int IntKind.i64 0) fun w' hs => ?_
 exact ⟨rfl, hs.kk⟩
theorem of_along_15 (n : Nod) (b : Nat) (w : World) (hb : w.heap[b]? = some (.cells alongL.toArray 162 (0, 0))) : Calls Try.prog 118 #[.pointer (some ⟨b, 0, none⟩), nodV { n with kind := 15 }] w fun e w' => e = .returned (.int .i64 (n.w)) ∧ Kept w w' := by
 refine g_enter (args := [.pointer (some ⟨b, 0, none⟩), nodV { n with kind := 15 }]) [] [.obj false b alongL 162] Try.func118 rfl Try.ntmps118 kL (sat1 hb) ?_
 refine g0 ?_
 refine gN fun b1 hb1 => ?_
 refine g0 ?_
 refine gD 7 ?_
 refine lA ([1] ++ [0]) 0 ?_
 refine lE ?_
 refine gA [] 1 ?_
 refine gD 9 ?_
 refine lA ([1] ++ [0] ++ List.replicate 19 1) 0 ?_
 refine l_callq _ _ _ ?_ (fun w hs => nwidth_any { n with kind := 15 } w) ?_
 ·kernel_rfl
 refine l0 ?_
 refine lE ?_
 refine gR (Value.int IntKind.i64 (Nod.mk 15 n.font n.char n.w n.h n.d n.shift n.nat n.str n.shr n.so n.sho n.sign n.ord n.num n.den n.pen n.sub n.text).w) fun w' hs => ?_
 exact ⟨rfl, hs.kk⟩
theorem of_along_16 (n : Nod) (b : Nat) (w : World) (hb : w.heap[b]? = some (.cells alongL.toArray 162 (0, 0))) : Calls Try.prog 118 #[.pointer (some ⟨b, 0, none⟩), nodV { n with kind := 16 }] w fun e w' => e = .returned (.int .i64 (n.w)) ∧ Kept w w' := by
 refine g_enter (args := [.pointer (some ⟨b, 0, none⟩), nodV { n with kind := 16 }]) [] [.obj false b alongL 162] Try.func118 rfl Try.ntmps118 kL (sat1 hb) ?_
 refine g0 ?_
 refine gN fun b1 hb1 => ?_
 refine g0 ?_
 refine gD 7 ?_
 refine lA ([1] ++ [0]) 0 ?_
 refine lE ?_
 refine gA [] 1 ?_
 refine gD 9 ?_
 refine lA ([1] ++ [0] ++ List.replicate 19 1) 0 ?_
 refine l_callq _ _ _ ?_ (fun w hs => nwidth_any { n with kind := 16 } w) ?_
 ·kernel_rfl
 refine l0 ?_
 refine lE ?_
 refine gR (Value.int IntKind.i64 (Nod.mk 16 n.font n.char n.w n.h n.d n.shift n.nat n.str n.shr n.so n.sho n.sign n.ord n.num n.den n.pen n.sub n.text).w) fun w' hs => ?_
 exact ⟨rfl, hs.kk⟩
theorem of_along_17 (n : Nod) (b : Nat) (w : World) (hb : w.heap[b]? = some (.cells alongL.toArray 162 (0, 0))) : Calls Try.prog 118 #[.pointer (some ⟨b, 0, none⟩), nodV { n with kind := 17 }] w fun e w' => e = .returned (.int .i64 (0)) ∧ Kept w w' := by
 refine g_enter (args := [.pointer (some ⟨b, 0, none⟩), nodV { n with kind := 17 }]) [] [.obj false b alongL 162] Try.func118 rfl Try.ntmps118 kL (sat1 hb) ?_
 refine g0 ?_
 refine gN fun b1 hb1 => ?_
 refine g0 ?_
 refine gD 7 ?_
 refine lA ([1] ++ [0]) 0 ?_
 refine lE ?_
 refine gA [] 1 ?_
 refine gR (Value.int IntKind.i64 0) fun w' hs => ?_
 exact ⟨rfl, hs.kk⟩
theorem of_upright_1 (n : Nod) (b : Nat) (w : World) (hb : w.heap[b]? = some (.cells uprightL.toArray 162 (0, 0))) : Calls Try.prog 118 #[.pointer (some ⟨b, 0, none⟩), nodV { n with kind := 1 }] w fun e w' => e = .returned (.int .i64 (0)) ∧ Kept w w' := by
 refine g_enter (args := [.pointer (some ⟨b, 0, none⟩), nodV { n with kind := 1 }]) [] [.obj false b uprightL 162] Try.func118 rfl Try.ntmps118 kL (sat1 hb) ?_
 refine g0 ?_
 refine gN fun b1 hb1 => ?_
 refine g0 ?_
 refine gD 7 ?_
 refine lA ([1] ++ [0]) 0 ?_
 refine lE ?_
 refine gA [] 1 ?_
 refine gR (Value.int IntKind.i64 0) fun w' hs => ?_
 exact ⟨rfl, hs.kk⟩
theorem of_upright_2 (n : Nod) (b : Nat) (w : World) (hb : w.heap[b]? = some (.cells uprightL.toArray 162 (0, 0))) : Calls Try.prog 118 #[.pointer (some ⟨b, 0, none⟩), nodV { n with kind := 2 }] w fun e w' => e = .returned (.int .i64 (0)) ∧ Kept w w' := by
 refine g_enter (args := [.pointer (some ⟨b, 0, none⟩), nodV { n with kind := 2 }]) [] [.obj false b uprightL 162] Try.func118 rfl Try.ntmps118 kL (sat1 hb) ?_
 refine g0 ?_
 refine gN fun b1 hb1 => ?_
 refine g0 ?_
 refine gD 7 ?_
 refine lA ([1] ++ [0]) 0 ?_
 refine lE ?_
 refine gA [] 1 ?_
 refine gR (Value.int IntKind.i64 0) fun w' hs => ?_
 exact ⟨rfl, hs.kk⟩
theorem of_upright_3 (n : Nod) (b : Nat) (w : World) (hb : w.heap[b]? = some (.cells uprightL.toArray 162 (0, 0))) : Calls Try.prog 118 #[.pointer (some ⟨b, 0, none⟩), nodV { n with kind := 3 }] w fun e w' => e = .returned (.int .i64 (wr n.h n.d)) ∧ Kept w w' := by
 refine g_enter (args := [.pointer (some ⟨b, 0, none⟩), nodV { n with kind := 3 }]) [] [.obj false b uprightL 162] Try.func118 rfl Try.ntmps118 kL (sat1 hb) ?_
 refine g0 ?_
 refine gN fun b1 hb1 => ?_
 refine g0 ?_
 refine gD 7 ?_
 refine lA ([1] ++ [0]) 0 ?_
 refine lE ?_
 refine gA [] 1 ?_
 refine gD 9 ?_
 refine lA ([1] ++ [0] ++ List.replicate 19 1) 0 ?_
 refine l_callq _ _ _ ?_ (fun w hs => nsize_any { n with kind := 3 } w) ?_
 ·kernel_rfl
 refine l0 ?_
 refine lE ?_
 refine gR (Value.int IntKind.i64 (wr (Nod.mk 3 n.font n.char n.w n.h n.d n.shift n.nat n.str n.shr n.so n.sho n.sign n.ord n.num n.den n.pen n.sub n.text).h (Nod.mk 3 n.font n.char n.w n.h n.d n.shift n.nat n.str n.shr n.so n.sho n.sign n.ord n.num n.den n.pen n.sub n.text).d)) fun w' hs => ?_
 exact ⟨rfl, hs.kk⟩
theorem of_upright_4 (n : Nod) (b : Nat) (w : World) (hb : w.heap[b]? = some (.cells uprightL.toArray 162 (0, 0))) : Calls Try.prog 118 #[.pointer (some ⟨b, 0, none⟩), nodV { n with kind := 4 }] w fun e w' => e = .returned (.int .i64 (wr n.h n.d)) ∧ Kept w w' := by
 refine g_enter (args := [.pointer (some ⟨b, 0, none⟩), nodV { n with kind := 4 }]) [] [.obj false b uprightL 162] Try.func118 rfl Try.ntmps118 kL (sat1 hb) ?_
 refine g0 ?_
 refine gN fun b1 hb1 => ?_
 refine g0 ?_
 refine gD 7 ?_
 refine lA ([1] ++ [0]) 0 ?_
 refine lE ?_
 refine gA [] 1 ?_
 refine gD 9 ?_
 refine lA ([1] ++ [0] ++ List.replicate 19 1) 0 ?_
 refine l_callq _ _ _ ?_ (fun w hs => nsize_any { n with kind := 4 } w) ?_
 ·kernel_rfl
 refine l0 ?_
 refine lE ?_
 refine gR (Value.int IntKind.i64 (wr (Nod.mk 4 n.font n.char n.w n.h n.d n.shift n.nat n.str n.shr n.so n.sho n.sign n.ord n.num n.den n.pen n.sub n.text).h (Nod.mk 4 n.font n.char n.w n.h n.d n.shift n.nat n.str n.shr n.so n.sho n.sign n.ord n.num n.den n.pen n.sub n.text).d)) fun w' hs => ?_
 exact ⟨rfl, hs.kk⟩
theorem of_upright_5 (n : Nod) (b : Nat) (w : World) (hb : w.heap[b]? = some (.cells uprightL.toArray 162 (0, 0))) : Calls Try.prog 118 #[.pointer (some ⟨b, 0, none⟩), nodV { n with kind := 5 }] w fun e w' => e = .returned (.int .i64 (wr n.h n.d)) ∧ Kept w w' := by
 refine g_enter (args := [.pointer (some ⟨b, 0, none⟩), nodV { n with kind := 5 }]) [] [.obj false b uprightL 162] Try.func118 rfl Try.ntmps118 kL (sat1 hb) ?_
 refine g0 ?_
 refine gN fun b1 hb1 => ?_
 refine g0 ?_
 refine gD 7 ?_
 refine lA ([1] ++ [0]) 0 ?_
 refine lE ?_
 refine gA [] 1 ?_
 refine gD 9 ?_
 refine lA ([1] ++ [0] ++ List.replicate 19 1) 0 ?_
 refine l_callq _ _ _ ?_ (fun w hs => nsize_any { n with kind := 5 } w) ?_
 ·kernel_rfl
 refine l0 ?_
 refine lE ?_
 refine gR (Value.int IntKind.i64 (wr (Nod.mk 5 n.font n.char n.w n.h n.d n.shift n.nat n.str n.shr n.so n.sho n.sign n.ord n.num n.den n.pen n.sub n.text).h (Nod.mk 5 n.font n.char n.w n.h n.d n.shift n.nat n.str n.shr n.so n.sho n.sign n.ord n.num n.den n.pen n.sub n.text).d)) fun w' hs => ?_
 exact ⟨rfl, hs.kk⟩
theorem of_upright_6 (n : Nod) (b : Nat) (w : World) (hb : w.heap[b]? = some (.cells uprightL.toArray 162 (0, 0))) : Calls Try.prog 118 #[.pointer (some ⟨b, 0, none⟩), nodV { n with kind := 6 }] w fun e w' => e = .returned (.int .i64 (0)) ∧ Kept w w' := by
 refine g_enter (args := [.pointer (some ⟨b, 0, none⟩), nodV { n with kind := 6 }]) [] [.obj false b uprightL 162] Try.func118 rfl Try.ntmps118 kL (sat1 hb) ?_
 refine g0 ?_
 refine gN fun b1 hb1 => ?_
 refine g0 ?_
 refine gD 7 ?_
 refine lA ([1] ++ [0]) 0 ?_
 refine lE ?_
 refine gA [] 1 ?_
 refine gR (Value.int IntKind.i64 0) fun w' hs => ?_
 exact ⟨rfl, hs.kk⟩
theorem of_upright_7 (n : Nod) (b : Nat) (w : World) (hb : w.heap[b]? = some (.cells uprightL.toArray 162 (0, 0))) : Calls Try.prog 118 #[.pointer (some ⟨b, 0, none⟩), nodV { n with kind := 7 }] w fun e w' => e = .returned (.int .i64 (0)) ∧ Kept w w' := by
 refine g_enter (args := [.pointer (some ⟨b, 0, none⟩), nodV { n with kind := 7 }]) [] [.obj false b uprightL 162] Try.func118 rfl Try.ntmps118 kL (sat1 hb) ?_
 refine g0 ?_
 refine gN fun b1 hb1 => ?_
 refine g0 ?_
 refine gD 7 ?_
 refine lA ([1] ++ [0]) 0 ?_
 refine lE ?_
 refine gA [] 1 ?_
 refine gR (Value.int IntKind.i64 0) fun w' hs => ?_
 exact ⟨rfl, hs.kk⟩
theorem of_upright_8 (n : Nod) (b : Nat) (w : World) (hb : w.heap[b]? = some (.cells uprightL.toArray 162 (0, 0))) : Calls Try.prog 118 #[.pointer (some ⟨b, 0, none⟩), nodV { n with kind := 8 }] w fun e w' => e = .returned (.int .i64 (n.w)) ∧ Kept w w' := by
 refine g_enter (args := [.pointer (some ⟨b, 0, none⟩), nodV { n with kind := 8 }]) [] [.obj false b uprightL 162] Try.func118 rfl Try.ntmps118 kL (sat1 hb) ?_
 refine g0 ?_
 refine gN fun b1 hb1 => ?_
 refine g0 ?_
 refine gD 7 ?_
 refine lA ([1] ++ [0]) 0 ?_
 refine lE ?_
 refine gA [] 1 ?_
 refine gD 9 ?_
 refine lA ([1] ++ [0] ++ List.replicate 19 1) 0 ?_
 refine l_callq _ _ _ ?_ (fun w hs => nwidth_any { n with kind := 8 } w) ?_
 ·kernel_rfl
 refine l0 ?_
 refine lE ?_
 refine gR (Value.int IntKind.i64 (Nod.mk 8 n.font n.char n.w n.h n.d n.shift n.nat n.str n.shr n.so n.sho n.sign n.ord n.num n.den n.pen n.sub n.text).w) fun w' hs => ?_
 exact ⟨rfl, hs.kk⟩
theorem of_upright_9 (n : Nod) (b : Nat) (w : World) (hb : w.heap[b]? = some (.cells uprightL.toArray 162 (0, 0))) : Calls Try.prog 118 #[.pointer (some ⟨b, 0, none⟩), nodV { n with kind := 9 }] w fun e w' => e = .returned (.int .i64 (0)) ∧ Kept w w' := by
 refine g_enter (args := [.pointer (some ⟨b, 0, none⟩), nodV { n with kind := 9 }]) [] [.obj false b uprightL 162] Try.func118 rfl Try.ntmps118 kL (sat1 hb) ?_
 refine g0 ?_
 refine gN fun b1 hb1 => ?_
 refine g0 ?_
 refine gD 7 ?_
 refine lA ([1] ++ [0]) 0 ?_
 refine lE ?_
 refine gA [] 1 ?_
 refine gR (Value.int IntKind.i64 0) fun w' hs => ?_
 exact ⟨rfl, hs.kk⟩
theorem of_upright_10 (n : Nod) (b : Nat) (w : World) (hb : w.heap[b]? = some (.cells uprightL.toArray 162 (0, 0))) : Calls Try.prog 118 #[.pointer (some ⟨b, 0, none⟩), nodV { n with kind := 10 }] w fun e w' => e = .returned (.int .i64 (0)) ∧ Kept w w' := by
 refine g_enter (args := [.pointer (some ⟨b, 0, none⟩), nodV { n with kind := 10 }]) [] [.obj false b uprightL 162] Try.func118 rfl Try.ntmps118 kL (sat1 hb) ?_
 refine g0 ?_
 refine gN fun b1 hb1 => ?_
 refine g0 ?_
 refine gD 7 ?_
 refine lA ([1] ++ [0]) 0 ?_
 refine lE ?_
 refine gA [] 1 ?_
 refine gR (Value.int IntKind.i64 0) fun w' hs => ?_
 exact ⟨rfl, hs.kk⟩
theorem of_upright_11 (n : Nod) (b : Nat) (w : World) (hb : w.heap[b]? = some (.cells uprightL.toArray 162 (0, 0))) : Calls Try.prog 118 #[.pointer (some ⟨b, 0, none⟩), nodV { n with kind := 11 }] w fun e w' => e = .returned (.int .i64 (0)) ∧ Kept w w' := by
 refine g_enter (args := [.pointer (some ⟨b, 0, none⟩), nodV { n with kind := 11 }]) [] [.obj false b uprightL 162] Try.func118 rfl Try.ntmps118 kL (sat1 hb) ?_
 refine g0 ?_
 refine gN fun b1 hb1 => ?_
 refine g0 ?_
 refine gD 7 ?_
 refine lA ([1] ++ [0]) 0 ?_
 refine lE ?_
 refine gA [] 1 ?_
 refine gR (Value.int IntKind.i64 0) fun w' hs => ?_
 exact ⟨rfl, hs.kk⟩
theorem of_upright_12 (n : Nod) (b : Nat) (w : World) (hb : w.heap[b]? = some (.cells uprightL.toArray 162 (0, 0))) : Calls Try.prog 118 #[.pointer (some ⟨b, 0, none⟩), nodV { n with kind := 12 }] w fun e w' => e = .returned (.int .i64 (0)) ∧ Kept w w' := by
 refine g_enter (args := [.pointer (some ⟨b, 0, none⟩), nodV { n with kind := 12 }]) [] [.obj false b uprightL 162] Try.func118 rfl Try.ntmps118 kL (sat1 hb) ?_
 refine g0 ?_
 refine gN fun b1 hb1 => ?_
 refine g0 ?_
 refine gD 7 ?_
 refine lA ([1] ++ [0]) 0 ?_
 refine lE ?_
 refine gA [] 1 ?_
 refine gR (Value.int IntKind.i64 0) fun w' hs => ?_
 exact ⟨rfl, hs.kk⟩
theorem of_upright_13 (n : Nod) (b : Nat) (w : World) (hb : w.heap[b]? = some (.cells uprightL.toArray 162 (0, 0))) : Calls Try.prog 118 #[.pointer (some ⟨b, 0, none⟩), nodV { n with kind := 13 }] w fun e w' => e = .returned (.int .i64 (0)) ∧ Kept w w' := by
 refine g_enter (args := [.pointer (some ⟨b, 0, none⟩), nodV { n with kind := 13 }]) [] [.obj false b uprightL 162] Try.func118 rfl Try.ntmps118 kL (sat1 hb) ?_
 refine g0 ?_
 refine gN fun b1 hb1 => ?_
 refine g0 ?_
 refine gD 7 ?_
 refine lA ([1] ++ [0]) 0 ?_
 refine lE ?_
 refine gA [] 1 ?_
 refine gR (Value.int IntKind.i64 0) fun w' hs => ?_
 exact ⟨rfl, hs.kk⟩
theorem of_upright_14 (n : Nod) (b : Nat) (w : World) (hb : w.heap[b]? = some (.cells uprightL.toArray 162 (0, 0))) : Calls Try.prog 118 #[.pointer (some ⟨b, 0, none⟩), nodV { n with kind := 14 }] w fun e w' => e = .returned (.int .i64 (0)) ∧ Kept w w' := by
 refine g_enter (args := [.pointer (some ⟨b, 0, none⟩), nodV { n with kind := 14 }]) [] [.obj false b uprightL 162] Try.func118 rfl Try.ntmps118 kL (sat1 hb) ?_
 refine g0 ?_
 refine gN fun b1 hb1 => ?_
 refine g0 ?_
 refine gD 7 ?_
 refine lA ([1] ++ [0]) 0 ?_
 refine lE ?_
 refine gA [] 1 ?_
 refine gR (Value.int IntKind.i64 0) fun w' hs => ?_
 exact ⟨rfl, hs.kk⟩
theorem of_upright_15 (n : Nod) (b : Nat) (w : World) (hb : w.heap[b]? = some (.cells uprightL.toArray 162 (0, 0))) : Calls Try.prog 118 #[.pointer (some ⟨b, 0, none⟩), nodV { n with kind := 15 }] w fun e w' => e = .returned (.int .i64 (0)) ∧ Kept w w' := by
 refine g_enter (args := [.pointer (some ⟨b, 0, none⟩), nodV { n with kind := 15 }]) [] [.obj false b uprightL 162] Try.func118 rfl Try.ntmps118 kL (sat1 hb) ?_
 refine g0 ?_
 refine gN fun b1 hb1 => ?_
 refine g0 ?_
 refine gD 7 ?_
 refine lA ([1] ++ [0]) 0 ?_
 refine lE ?_
 refine gA [] 1 ?_
 refine gR (Value.int IntKind.i64 0) fun w' hs => ?_
 exact ⟨rfl, hs.kk⟩
theorem of_upright_16 (n : Nod) (b : Nat) (w : World) (hb : w.heap[b]? = some (.cells uprightL.toArray 162 (0, 0))) : Calls Try.prog 118 #[.pointer (some ⟨b, 0, none⟩), nodV { n with kind := 16 }] w fun e w' => e = .returned (.int .i64 (0)) ∧ Kept w w' := by
 refine g_enter (args := [.pointer (some ⟨b, 0, none⟩), nodV { n with kind := 16 }]) [] [.obj false b uprightL 162] Try.func118 rfl Try.ntmps118 kL (sat1 hb) ?_
 refine g0 ?_
 refine gN fun b1 hb1 => ?_
 refine g0 ?_
 refine gD 7 ?_
 refine lA ([1] ++ [0]) 0 ?_
 refine lE ?_
 refine gA [] 1 ?_
 refine gR (Value.int IntKind.i64 0) fun w' hs => ?_
 exact ⟨rfl, hs.kk⟩
theorem of_upright_17 (n : Nod) (b : Nat) (w : World) (hb : w.heap[b]? = some (.cells uprightL.toArray 162 (0, 0))) : Calls Try.prog 118 #[.pointer (some ⟨b, 0, none⟩), nodV { n with kind := 17 }] w fun e w' => e = .returned (.int .i64 (0)) ∧ Kept w w' := by
 refine g_enter (args := [.pointer (some ⟨b, 0, none⟩), nodV { n with kind := 17 }]) [] [.obj false b uprightL 162] Try.func118 rfl Try.ntmps118 kL (sat1 hb) ?_
 refine g0 ?_
 refine gN fun b1 hb1 => ?_
 refine g0 ?_
 refine gD 7 ?_
 refine lA ([1] ++ [0]) 0 ?_
 refine lE ?_
 refine gA [] 1 ?_
 refine gR (Value.int IntKind.i64 0) fun w' hs => ?_
 exact ⟨rfl, hs.kk⟩
end Go.Proofs.Ytcncfmjfgdbfeaa
