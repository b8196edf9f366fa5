/- nodes: measures of extents, by the kind. -/
import Derived.Test.YtcncfmjfgdbfeaaM31
namespace Go.Proofs.Ytcncfmjfgdbfeaa
set_option maxRecDepth 100000
set_option maxHeartbeats 4000000
open Go.RowKit
def wsub (a b : Int) : Int := IntKind.i64.wrap (a - b)
theorem nheight_any (n : Nod) (w : World) : Calls Try.prog 128 #[nodV n] w fun e w' => e = .returned (.int .i64 (n.h)) ∧ Kept w w' := by
 refine g_enter (args := [nodV n]) [] [] Try.func128 rfl Try.ntmps128 kL (sat0 w) ?_
 refine g0 ?_
 refine gN fun b0 hb0 => ?_
 refine gA ([0]) 0 ?_
 refine gR (Value.int IntKind.i64 n.h) fun w' hs => ?_
 exact ⟨rfl, hs.kk⟩
theorem ndepth_any (n : Nod) (w : World) : Calls Try.prog 127 #[nodV n] w fun e w' => e = .returned (.int .i64 (n.d)) ∧ Kept w w' := by
 refine g_enter (args := [nodV n]) [] [] Try.func127 rfl Try.ntmps127 kL (sat0 w) ?_
 refine g0 ?_
 refine gN fun b0 hb0 => ?_
 refine gA ([0]) 0 ?_
 refine gR (Value.int IntKind.i64 n.d) fun w' hs => ?_
 exact ⟨rfl, hs.kk⟩
theorem nraised_any (n : Nod) (w : World) : Calls Try.prog 129 #[nodV n] w fun e w' => e = .returned (.int .i64 (wsub n.h n.shift)) ∧ Kept w w' := by
 refine g_enter (args := [nodV n]) [] [] Try.func129 rfl Try.ntmps129 kL (sat0 w) ?_
 refine g0 ?_
 refine gN fun b0 hb0 => ?_
 refine gA ([0, 0]) 0 ?_
 refine gR (Value.int IntKind.i64 (IntKind.i64.wrap (n.h - n.shift))) fun w' hs => ?_
 exact ⟨rfl, hs.kk⟩
theorem nlowered_any (n : Nod) (w : World) : Calls Try.prog 130 #[nodV n] w fun e w' => e = .returned (.int .i64 (wr n.d n.shift)) ∧ Kept w w' := by
 refine g_enter (args := [nodV n]) [] [] Try.func130 rfl Try.ntmps130 kL (sat0 w) ?_
 refine g0 ?_
 refine gN fun b0 hb0 => ?_
 refine gA ([0, 0]) 0 ?_
 refine gR (Value.int IntKind.i64 (IntKind.i64.wrap (n.d + n.shift))) fun w' hs => ?_
 exact ⟨rfl, hs.kk⟩
theorem nmoved_any (n : Nod) (w : World) : Calls Try.prog 126 #[nodV n] w fun e w' => e = .returned (.int .i64 (wr n.w n.shift)) ∧ Kept w w' := by
 refine g_enter (args := [nodV n]) [] [] Try.func126 rfl Try.ntmps126 kL (sat0 w) ?_
 refine g0 ?_
 refine gN fun b0 hb0 => ?_
 refine gA ([0, 0]) 0 ?_
 refine gR (Value.int IntKind.i64 (IntKind.i64.wrap (n.w + n.shift))) fun w' hs => ?_
 exact ⟨rfl, hs.kk⟩
def aboveL : List Value := (List.range 18).map fun k => if k ∈ [1, 2, 3] then .func (.func 128) #[] #[] else if k ∈ [4, 5] then .func (.func 129) #[] #[] else .nilFunc
def aboveV (n : Nod) : Int := if n.kind ∈ ([1, 2, 3] : List Int) then n.h else if n.kind ∈ ([4, 5] : List Int) then wsub n.h n.shift else 0
theorem above_run (w : World) : Calls Try.prog 86 #[] w fun e w' => e = .returned (.agg aboveL.toArray) ∧ Kept w w' := by
 refine g_enter (args := []) [] [] Try.func86 rfl Try.ntmps86 kL (sat0 w) ?_
 refine g0 ?_
 refine gN fun b0 hb0 => ?_
 refine gA (List.replicate 18 0) 0 ?_
 refine g_ret (List.replicate 18 0) (.agg aboveL.toArray) kR kR kR fun w' hs => ?_
 exact ⟨rfl, hs.kk⟩
theorem of_above_1 (n : Nod) (b : Nat) (w : World) (hb : w.heap[b]? = some (.cells aboveL.toArray 162 (0, 0))) : Calls Try.prog 118 #[.pointer (some ⟨b, 0, none⟩), nodV { n with kind := 1 }] w fun e w' => e = .returned (.int .i64 (n.h)) ∧ Kept w w' := by
 refine g_enter (args := [.pointer (some ⟨b, 0, none⟩), nodV { n with kind := 1 }]) [] [.obj false b aboveL 162] Try.func118 rfl Try.ntmps118 kL (sat1 hb) ?_
 refine g0 ?_
 refine gN fun b1 hb1 => ?_
 refine g0 ?_
 refine gD 7 ?_
 refine lA ([1] ++ [0]) 0 ?_
 refine lE ?_
 refine gA [] 1 ?_
 refine gD 9 ?_
 refine lA ([1] ++ [0] ++ List.replicate 19 1) 0 ?_
 refine l_callq _ _ _ ?_ (fun w hs => nheight_any { n with kind := 1 } w) ?_
 ·kernel_rfl
 refine l0 ?_
 refine lE ?_
 refine gR (Value.int IntKind.i64 (Nod.mk 1 n.font n.char n.w n.h n.d n.shift n.nat n.str n.shr n.so n.sho n.sign n.ord n.num n.den n.pen n.sub n.text).h) fun w' hs => ?_
 exact ⟨rfl, hs.kk⟩
theorem of_above_2 (n : Nod) (b : Nat) (w : World) (hb : w.heap[b]? = some (.cells aboveL.toArray 162 (0, 0))) : Calls Try.prog 118 #[.pointer (some ⟨b, 0, none⟩), nodV { n with kind := 2 }] w fun e w' => e = .returned (.int .i64 (n.h)) ∧ Kept w w' := by
 refine g_enter (args := [.pointer (some ⟨b, 0, none⟩), nodV { n with kind := 2 }]) [] [.obj false b aboveL 162] Try.func118 rfl Try.ntmps118 kL (sat1 hb) ?_
 refine g0 ?_
 refine gN fun b1 hb1 => ?_
 refine g0 ?_
 refine gD 7 ?_
 refine lA ([1] ++ [0]) 0 ?_
 refine lE ?_
 refine gA [] 1 ?_
 refine gD 9 ?_
 refine lA ([1] ++ [0] ++ List.replicate 19 1) 0 ?_
 refine l_callq _ _ _ ?_ (fun w hs => nheight_any { n with kind := 2 } w) ?_
 ·kernel_rfl
 refine l0 ?_
 refine lE ?_
 refine gR (Value.int IntKind.i64 (Nod.mk 2 n.font n.char n.w n.h n.d n.shift n.nat n.str n.shr n.so n.sho n.sign n.ord n.num n.den n.pen n.sub n.text).h) fun w' hs => ?_
 exact ⟨rfl, hs.kk⟩
theorem of_above_3 (n : Nod) (b : Nat) (w : World) (hb : w.heap[b]? = some (.cells aboveL.toArray 162 (0, 0))) : Calls Try.prog 118 #[.pointer (some ⟨b, 0, none⟩), nodV { n with kind := 3 }] w fun e w' => e = .returned (.int .i64 (n.h)) ∧ Kept w w' := by
 refine g_enter (args := [.pointer (some ⟨b, 0, none⟩), nodV { n with kind := 3 }]) [] [.obj false b aboveL 162] Try.func118 rfl Try.ntmps118 kL (sat1 hb) ?_
 refine g0 ?_
 refine gN fun b1 hb1 => ?_
 refine g0 ?_
 refine gD 7 ?_
 refine lA ([1] ++ [0]) 0 ?_
 refine lE ?_
 refine gA [] 1 ?_
 refine gD 9 ?_
 refine lA ([1] ++ [0] ++ List.replicate 19 1) 0 ?_
 refine l_callq _ _ _ ?_ (fun w hs => nheight_any { n with kind := 3 } w) ?_
 ·kernel_rfl
 refine l0 ?_
 refine lE ?_
 refine gR (Value.int IntKind.i64 (Nod.mk 3 n.font n.char n.w n.h n.d n.shift n.nat n.str n.shr n.so n.sho n.sign n.ord n.num n.den n.pen n.sub n.text).h) fun w' hs => ?_
 exact ⟨rfl, hs.kk⟩
theorem of_above_4 (n : Nod) (b : Nat) (w : World) (hb : w.heap[b]? = some (.cells aboveL.toArray 162 (0, 0))) : Calls Try.prog 118 #[.pointer (some ⟨b, 0, none⟩), nodV { n with kind := 4 }] w fun e w' => e = .returned (.int .i64 (wsub n.h n.shift)) ∧ Kept w w' := by
 refine g_enter (args := [.pointer (some ⟨b, 0, none⟩), nodV { n with kind := 4 }]) [] [.obj false b aboveL 162] Try.func118 rfl Try.ntmps118 kL (sat1 hb) ?_
 refine g0 ?_
 refine gN fun b1 hb1 => ?_
 refine g0 ?_
 refine gD 7 ?_
 refine lA ([1] ++ [0]) 0 ?_
 refine lE ?_
 refine gA [] 1 ?_
 refine gD 9 ?_
 refine lA ([1] ++ [0] ++ List.replicate 19 1) 0 ?_
 refine l_callq _ _ _ ?_ (fun w hs => nraised_any { n with kind := 4 } w) ?_
 ·kernel_rfl
 refine l0 ?_
 refine lE ?_
 refine gR (Value.int IntKind.i64 (wsub (Nod.mk 4 n.font n.char n.w n.h n.d n.shift n.nat n.str n.shr n.so n.sho n.sign n.ord n.num n.den n.pen n.sub n.text).h (Nod.mk 4 n.font n.char n.w n.h n.d n.shift n.nat n.str n.shr n.so n.sho n.sign n.ord n.num n.den n.pen n.sub n.text).shift)) fun w' hs => ?_
 exact ⟨rfl, hs.kk⟩
theorem of_above_5 (n : Nod) (b : Nat) (w : World) (hb : w.heap[b]? = some (.cells aboveL.toArray 162 (0, 0))) : Calls Try.prog 118 #[.pointer (some ⟨b, 0, none⟩), nodV { n with kind := 5 }] w fun e w' => e = .returned (.int .i64 (wsub n.h n.shift)) ∧ Kept w w' := by
 refine g_enter (args := [.pointer (some ⟨b, 0, none⟩), nodV { n with kind := 5 }]) [] [.obj false b aboveL 162] Try.func118 rfl Try.ntmps118 kL (sat1 hb) ?_
 refine g0 ?_
 refine gN fun b1 hb1 => ?_
 refine g0 ?_
 refine gD 7 ?_
 refine lA ([1] ++ [0]) 0 ?_
 refine lE ?_
 refine gA [] 1 ?_
 refine gD 9 ?_
 refine lA ([1] ++ [0] ++ List.replicate 19 1) 0 ?_
 refine l_callq _ _ _ ?_ (fun w hs => nraised_any { n with kind := 5 } w) ?_
 ·kernel_rfl
 refine l0 ?_
 refine lE ?_
 refine gR (Value.int IntKind.i64 (wsub (Nod.mk 5 n.font n.char n.w n.h n.d n.shift n.nat n.str n.shr n.so n.sho n.sign n.ord n.num n.den n.pen n.sub n.text).h (Nod.mk 5 n.font n.char n.w n.h n.d n.shift n.nat n.str n.shr n.so n.sho n.sign n.ord n.num n.den n.pen n.sub n.text).shift)) fun w' hs => ?_
 exact ⟨rfl, hs.kk⟩
theorem of_above_6 (n : Nod) (b : Nat) (w : World) (hb : w.heap[b]? = some (.cells aboveL.toArray 162 (0, 0))) : Calls Try.prog 118 #[.pointer (some ⟨b, 0, none⟩), nodV { n with kind := 6 }] w fun e w' => e = .returned (.int .i64 (0)) ∧ Kept w w' := by
 refine g_enter (args := [.pointer (some ⟨b, 0, none⟩), nodV { n with kind := 6 }]) [] [.obj false b aboveL 162] Try.func118 rfl Try.ntmps118 kL (sat1 hb) ?_
 refine g0 ?_
 refine gN fun b1 hb1 => ?_
 refine g0 ?_
 refine gD 7 ?_
 refine lA ([1] ++ [0]) 0 ?_
 refine lE ?_
 refine gA [] 1 ?_
 refine gR (Value.int IntKind.i64 0) fun w' hs => ?_
 exact ⟨rfl, hs.kk⟩
theorem of_above_7 (n : Nod) (b : Nat) (w : World) (hb : w.heap[b]? = some (.cells aboveL.toArray 162 (0, 0))) : Calls Try.prog 118 #[.pointer (some ⟨b, 0, none⟩), nodV { n with kind := 7 }] w fun e w' => e = .returned (.int .i64 (0)) ∧ Kept w w' := by
 refine g_enter (args := [.pointer (some ⟨b, 0, none⟩), nodV { n with kind := 7 }]) [] [.obj false b aboveL 162] Try.func118 rfl Try.ntmps118 kL (sat1 hb) ?_
 refine g0 ?_
 refine gN fun b1 hb1 => ?_
 refine g0 ?_
 refine gD 7 ?_
 refine lA ([1] ++ [0]) 0 ?_
 refine lE ?_
 refine gA [] 1 ?_
 refine gR (Value.int IntKind.i64 0) fun w' hs => ?_
 exact ⟨rfl, hs.kk⟩
theorem of_above_8 (n : Nod) (b : Nat) (w : World) (hb : w.heap[b]? = some (.cells aboveL.toArray 162 (0, 0))) : Calls Try.prog 118 #[.pointer (some ⟨b, 0, none⟩), nodV { n with kind := 8 }] w fun e w' => e = .returned (.int .i64 (0)) ∧ Kept w w' := by
 refine g_enter (args := [.pointer (some ⟨b, 0, none⟩), nodV { n with kind := 8 }]) [] [.obj false b aboveL 162] Try.func118 rfl Try.ntmps118 kL (sat1 hb) ?_
 refine g0 ?_
 refine gN fun b1 hb1 => ?_
 refine g0 ?_
 refine gD 7 ?_
 refine lA ([1] ++ [0]) 0 ?_
 refine lE ?_
 refine gA [] 1 ?_
 refine gR (Value.int IntKind.i64 0) fun w' hs => ?_
 exact ⟨rfl, hs.kk⟩
theorem of_above_9 (n : Nod) (b : Nat) (w : World) (hb : w.heap[b]? = some (.cells aboveL.toArray 162 (0, 0))) : Calls Try.prog 118 #[.pointer (some ⟨b, 0, none⟩), nodV { n with kind := 9 }] w fun e w' => e = .returned (.int .i64 (0)) ∧ Kept w w' := by
 refine g_enter (args := [.pointer (some ⟨b, 0, none⟩), nodV { n with kind := 9 }]) [] [.obj false b aboveL 162] Try.func118 rfl Try.ntmps118 kL (sat1 hb) ?_
 refine g0 ?_
 refine gN fun b1 hb1 => ?_
 refine g0 ?_
 refine gD 7 ?_
 refine lA ([1] ++ [0]) 0 ?_
 refine lE ?_
 refine gA [] 1 ?_
 refine gR (Value.int IntKind.i64 0) fun w' hs => ?_
 exact ⟨rfl, hs.kk⟩
theorem of_above_10 (n : Nod) (b : Nat) (w : World) (hb : w.heap[b]? = some (.cells aboveL.toArray 162 (0, 0))) : Calls Try.prog 118 #[.pointer (some ⟨b, 0, none⟩), nodV { n with kind := 10 }] w fun e w' => e = .returned (.int .i64 (0)) ∧ Kept w w' := by
 refine g_enter (args := [.pointer (some ⟨b, 0, none⟩), nodV { n with kind := 10 }]) [] [.obj false b aboveL 162] Try.func118 rfl Try.ntmps118 kL (sat1 hb) ?_
 refine g0 ?_
 refine gN fun b1 hb1 => ?_
 refine g0 ?_
 refine gD 7 ?_
 refine lA ([1] ++ [0]) 0 ?_
 refine lE ?_
 refine gA [] 1 ?_
 refine gR (Value.int IntKind.i64 0) fun w' hs => ?_
 exact ⟨rfl, hs.kk⟩
theorem of_above_11 (n : Nod) (b : Nat) (w : World) (hb : w.heap[b]? = some (.cells aboveL.toArray 162 (0, 0))) : Calls Try.prog 118 #[.pointer (some ⟨b, 0, none⟩), nodV { n with kind := 11 }] w fun e w' => e = .returned (.int .i64 (0)) ∧ Kept w w' := by
 refine g_enter (args := [.pointer (some ⟨b, 0, none⟩), nodV { n with kind := 11 }]) [] [.obj false b aboveL 162] Try.func118 rfl Try.ntmps118 kL (sat1 hb) ?_
 refine g0 ?_
 refine gN fun b1 hb1 => ?_
 refine g0 ?_
 refine gD 7 ?_
 refine lA ([1] ++ [0]) 0 ?_
 refine lE ?_
 refine gA [] 1 ?_
 refine gR (Value.int IntKind.i64 0) fun w' hs => ?_
 exact ⟨rfl, hs.kk⟩
theorem of_above_12 (n : Nod) (b : Nat) (w : World) (hb : w.heap[b]? = some (.cells aboveL.toArray 162 (0, 0))) : Calls Try.prog 118 #[.pointer (some ⟨b, 0, none⟩), nodV { n with kind := 12 }] w fun e w' => e = .returned (.int .i64 (0)) ∧ Kept w w' := by
 refine g_enter (args := [.pointer (some ⟨b, 0, none⟩), nodV { n with kind := 12 }]) [] [.obj false b aboveL 162] Try.func118 rfl Try.ntmps118 kL (sat1 hb) ?_
 refine g0 ?_
 refine gN fun b1 hb1 => ?_
 refine g0 ?_
 refine gD 7 ?_
 refine lA ([1] ++ [0]) 0 ?_
 refine lE ?_
 refine gA [] 1 ?_
 refine gR (Value.int IntKind.i64 0) fun w' hs => ?_
 exact ⟨rfl, hs.kk⟩
theorem of_above_13 (n : Nod) (b : Nat) (w : World) (hb : w.heap[b]? = some (.cells aboveL.toArray 162 (0, 0))) : Calls Try.prog 118 #[.pointer (some ⟨b, 0, none⟩), nodV { n with kind := 13 }] w fun e w' => e = .returned (.int .i64 (0)) ∧ Kept w w' := by
 refine g_enter (args := [.pointer (some ⟨b, 0, none⟩), nodV { n with kind := 13 }]) [] [.obj false b aboveL 162] Try.func118 rfl Try.ntmps118 kL (sat1 hb) ?_
 refine g0 ?_
 refine gN fun b1 hb1 => ?_
 refine g0 ?_
 refine gD 7 ?_
 refine lA ([1] ++ [0]) 0 ?_
 refine lE ?_
 refine gA [] 1 ?_
 refine gR (Value.int IntKind.i64 0) fun w' hs => ?_
 exact ⟨rfl, hs.kk⟩
theorem of_above_14 (n : Nod) (b : Nat) (w : World) (hb : w.heap[b]? = some (.cells aboveL.toArray 162 (0, 0))) : Calls Try.prog 118 #[.pointer (some ⟨b, 0, none⟩), nodV { n with kind := 14 }] w fun e w' => e = .returned (.int .i64 (0)) ∧ Kept w w' := by
 refine g_enter (args := [.pointer (some ⟨b, 0, none⟩), nodV { n with kind := 14 }]) [] [.obj false b aboveL 162] Try.func118 rfl Try.ntmps118 kL (sat1 hb) ?_
 refine g0 ?_
 refine gN fun b1 hb1 => ?_
 refine g0 ?_
 refine gD 7 ?_
 refine lA ([1] ++ [0]) 0 ?_
 refine lE ?_
 refine gA [] 1 ?_
 refine gR (Value.int IntKind.i64 0) fun w' hs => ?_
 exact ⟨rfl, hs.kk⟩
theorem of_above_15 (n : Nod) (b : Nat) (w : World) (hb : w.heap[b]? = some (.cells aboveL.toArray 162 (0, 0))) : Calls Try.prog 118 #[.pointer (some ⟨b, 0, none⟩), nodV { n with kind := 15 }] w fun e w' => e = .returned (.int .i64 (0)) ∧ Kept w w' := by
 refine g_enter (args := [.pointer (some ⟨b, 0, none⟩), nodV { n with kind := 15 }]) [] [.obj false b aboveL 162] Try.func118 rfl Try.ntmps118 kL (sat1 hb) ?_
 refine g0 ?_
 refine gN fun b1 hb1 => ?_
 refine g0 ?_
 refine gD 7 ?_
 refine lA ([1] ++ [0]) 0 ?_
 refine lE ?_
 refine gA [] 1 ?_
 refine gR (Value.int IntKind.i64 0) fun w' hs => ?_
 exact ⟨rfl, hs.kk⟩
theorem of_above_16 (n : Nod) (b : Nat) (w : World) (hb : w.heap[b]? = some (.cells aboveL.toArray 162 (0, 0))) : Calls Try.prog 118 #[.pointer (some ⟨b, 0, none⟩), nodV { n with kind := 16 }] w fun e w' => e = .returned (.int .i64 (0)) ∧ Kept w w' := by
 refine g_enter (args := [.pointer (some ⟨b, 0, none⟩), nodV { n with kind := 16 }]) [] [.obj false b aboveL 162] Try.func118 rfl Try.ntmps118 kL (sat1 hb) ?_
 refine g0 ?_
 refine gN fun b1 hb1 => ?_
 refine g0 ?_
 refine gD 7 ?_
 refine lA ([1] ++ [0]) 0 ?_
 refine lE ?_
 refine gA [] 1 ?_
 refine gR (Value.int IntKind.i64 0) fun w' hs => ?_
 exact ⟨rfl, hs.kk⟩
theorem of_above_17 (n : Nod) (b : Nat) (w : World) (hb : w.heap[b]? = some (.cells aboveL.toArray 162 (0, 0))) : Calls Try.prog 118 #[.pointer (some ⟨b, 0, none⟩), nodV { n with kind := 17 }] w fun e w' => e = .returned (.int .i64 (0)) ∧ Kept w w' := by
 refine g_enter (args := [.pointer (some ⟨b, 0, none⟩), nodV { n with kind := 17 }]) [] [.obj false b aboveL 162] Try.func118 rfl Try.ntmps118 kL (sat1 hb) ?_
 refine g0 ?_
 refine gN fun b1 hb1 => ?_
 refine g0 ?_
 refine gD 7 ?_
 refine lA ([1] ++ [0]) 0 ?_
 refine lE ?_
 refine gA [] 1 ?_
 refine gR (Value.int IntKind.i64 0) fun w' hs => ?_
 exact ⟨rfl, hs.kk⟩
theorem of_above_any (n : Nod) (h1 : 1 ≤ n.kind) (h2 : n.kind ≤ 17) (b : Nat) (w : World) (hb : w.heap[b]? = some (.cells aboveL.toArray 162 (0, 0))) : Calls Try.prog 118 #[.pointer (some ⟨b, 0, none⟩), nodV n] w fun e w' => e = .returned (.int .i64 (aboveV n)) ∧ Kept w w' := by
 rcases kinds_of h1 h2 with h | h | h | h | h | h | h | h | h | h | h | h | h | h | h | h | h
 ·have := of_above_1 n b w hb
  rw [kind_eq h] at this
  simpa [aboveV, h] using this
 ·have := of_above_2 n b w hb
  rw [kind_eq h] at this
  simpa [aboveV, h] using this
 ·have := of_above_3 n b w hb
  rw [kind_eq h] at this
  simpa [aboveV, h] using this
 ·have := of_above_4 n b w hb
  rw [kind_eq h] at this
  simpa [aboveV, h] using this
 ·have := of_above_5 n b w hb
  rw [kind_eq h] at this
  simpa [aboveV, h] using this
 ·have := of_above_6 n b w hb
  rw [kind_eq h] at this
  simpa [aboveV, h] using this
 ·have := of_above_7 n b w hb
  rw [kind_eq h] at this
  simpa [aboveV, h] using this
 ·have := of_above_8 n b w hb
  rw [kind_eq h] at this
  simpa [aboveV, h] using this
 ·have := of_above_9 n b w hb
  rw [kind_eq h] at this
  simpa [aboveV, h] using this
 ·have := of_above_10 n b w hb
  rw [kind_eq h] at this
  simpa [aboveV, h] using this
 ·have := of_above_11 n b w hb
  rw [kind_eq h] at this
  simpa [aboveV, h] using this
 ·have := of_above_12 n b w hb
  rw [kind_eq h] at this
  simpa [aboveV, h] using this
 ·have := of_above_13 n b w hb
  rw [kind_eq h] at this
  simpa [aboveV, h] using this
 ·have := of_above_14 n b w hb
  rw [kind_eq h] at this
  simpa [aboveV, h] using this
 ·have := of_above_15 n b w hb
  rw [kind_eq h] at this
  simpa [aboveV, h] using this
 ·have := of_above_16 n b w hb
  rw [kind_eq h] at this
  simpa [aboveV, h] using this
 have := of_above_17 n b w hb
 rw [kind_eq h] at this
 simpa [aboveV, h] using this
def belowL : List Value := (List.range 18).map fun k => if k ∈ [1, 2, 3] then .func (.func 127) #[] #[] else if k ∈ [4, 5] then .func (.func 130) #[] #[] else .nilFunc
def belowV (n : Nod) : Int := if n.kind ∈ ([1, 2, 3] : List Int) then n.d else if n.kind ∈ ([4, 5] : List Int) then wr n.d n.shift else 0
theorem below_run (w : World) : Calls Try.prog 87 #[] w fun e w' => e = .returned (.agg belowL.toArray) ∧ Kept w w' := by
 refine g_enter (args := []) [] [] Try.func87 rfl Try.ntmps87 kL (sat0 w) ?_
 refine g0 ?_
 refine gN fun b0 hb0 => ?_
 refine gA (List.replicate 18 0) 0 ?_
 refine g_ret (List.replicate 18 0) (.agg belowL.toArray) kR kR kR fun w' hs => ?_
 exact ⟨rfl, hs.kk⟩
theorem of_below_1 (n : Nod) (b : Nat) (w : World) (hb : w.heap[b]? = some (.cells belowL.toArray 162 (0, 0))) : Calls Try.prog 118 #[.pointer (some ⟨b, 0, none⟩), nodV { n with kind := 1 }] w fun e w' => e = .returned (.int .i64 (n.d)) ∧ Kept w w' := by
 refine g_enter (args := [.pointer (some ⟨b, 0, none⟩), nodV { n with kind := 1 }]) [] [.obj false b belowL 162] Try.func118 rfl Try.ntmps118 kL (sat1 hb) ?_
 refine g0 ?_
 refine gN fun b1 hb1 => ?_
 refine g0 ?_
 refine gD 7 ?_
 refine lA ([1] ++ [0]) 0 ?_
 refine lE ?_
 refine gA [] 1 ?_
 refine gD 9 ?_
 refine lA ([1] ++ [0] ++ List.replicate 19 1) 0 ?_
 refine l_callq _ _ _ ?_ (fun w hs => ndepth_any { n with kind := 1 } w) ?_
 ·kernel_rfl
 refine l0 ?_
 refine lE ?_
 refine gR (Value.int IntKind.i64 (Nod.mk 1 n.font n.char n.w n.h n.d n.shift n.nat n.str n.shr n.so n.sho n.sign n.ord n.num n.den n.pen n.sub n.text).d) fun w' hs => ?_
 exact ⟨rfl, hs.kk⟩
theorem of_below_2 (n : Nod) (b : Nat) (w : World) (hb : w.heap[b]? = some (.cells belowL.toArray 162 (0, 0))) : Calls Try.prog 118 #[.pointer (some ⟨b, 0, none⟩), nodV { n with kind := 2 }] w fun e w' => e = .returned (.int .i64 (n.d)) ∧ Kept w w' := by
 refine g_enter (args := [.pointer (some ⟨b, 0, none⟩), nodV { n with kind := 2 }]) [] [.obj false b belowL 162] Try.func118 rfl Try.ntmps118 kL (sat1 hb) ?_
 refine g0 ?_
 refine gN fun b1 hb1 => ?_
 refine g0 ?_
 refine gD 7 ?_
 refine lA ([1] ++ [0]) 0 ?_
 refine lE ?_
 refine gA [] 1 ?_
 refine gD 9 ?_
 refine lA ([1] ++ [0] ++ List.replicate 19 1) 0 ?_
 refine l_callq _ _ _ ?_ (fun w hs => ndepth_any { n with kind := 2 } w) ?_
 ·kernel_rfl
 refine l0 ?_
 refine lE ?_
 refine gR (Value.int IntKind.i64 (Nod.mk 2 n.font n.char n.w n.h n.d n.shift n.nat n.str n.shr n.so n.sho n.sign n.ord n.num n.den n.pen n.sub n.text).d) fun w' hs => ?_
 exact ⟨rfl, hs.kk⟩
theorem of_below_3 (n : Nod) (b : Nat) (w : World) (hb : w.heap[b]? = some (.cells belowL.toArray 162 (0, 0))) : Calls Try.prog 118 #[.pointer (some ⟨b, 0, none⟩), nodV { n with kind := 3 }] w fun e w' => e = .returned (.int .i64 (n.d)) ∧ Kept w w' := by
 refine g_enter (args := [.pointer (some ⟨b, 0, none⟩), nodV { n with kind := 3 }]) [] [.obj false b belowL 162] Try.func118 rfl Try.ntmps118 kL (sat1 hb) ?_
 refine g0 ?_
 refine gN fun b1 hb1 => ?_
 refine g0 ?_
 refine gD 7 ?_
 refine lA ([1] ++ [0]) 0 ?_
 refine lE ?_
 refine gA [] 1 ?_
 refine gD 9 ?_
 refine lA ([1] ++ [0] ++ List.replicate 19 1) 0 ?_
 refine l_callq _ _ _ ?_ (fun w hs => ndepth_any { n with kind := 3 } w) ?_
 ·kernel_rfl
 refine l0 ?_
 refine lE ?_
 refine gR (Value.int IntKind.i64 (Nod.mk 3 n.font n.char n.w n.h n.d n.shift n.nat n.str n.shr n.so n.sho n.sign n.ord n.num n.den n.pen n.sub n.text).d) fun w' hs => ?_
 exact ⟨rfl, hs.kk⟩
theorem of_below_4 (n : Nod) (b : Nat) (w : World) (hb : w.heap[b]? = some (.cells belowL.toArray 162 (0, 0))) : Calls Try.prog 118 #[.pointer (some ⟨b, 0, none⟩), nodV { n with kind := 4 }] w fun e w' => e = .returned (.int .i64 (wr n.d n.shift)) ∧ Kept w w' := by
 refine g_enter (args := [.pointer (some ⟨b, 0, none⟩), nodV { n with kind := 4 }]) [] [.obj false b belowL 162] Try.func118 rfl Try.ntmps118 kL (sat1 hb) ?_
 refine g0 ?_
 refine gN fun b1 hb1 => ?_
 refine g0 ?_
 refine gD 7 ?_
 refine lA ([1] ++ [0]) 0 ?_
 refine lE ?_
 refine gA [] 1 ?_
 refine gD 9 ?_
 refine lA ([1] ++ [0] ++ List.replicate 19 1) 0 ?_
 refine l_callq _ _ _ ?_ (fun w hs => nlowered_any { n with kind := 4 } w) ?_
 ·kernel_rfl
 refine l0 ?_
 refine lE ?_
 refine gR (Value.int IntKind.i64 (wr (Nod.mk 4 n.font n.char n.w n.h n.d n.shift n.nat n.str n.shr n.so n.sho n.sign n.ord n.num n.den n.pen n.sub n.text).d (Nod.mk 4 n.font n.char n.w n.h n.d n.shift n.nat n.str n.shr n.so n.sho n.sign n.ord n.num n.den n.pen n.sub n.text).shift)) fun w' hs => ?_
 exact ⟨rfl, hs.kk⟩
theorem of_below_5 (n : Nod) (b : Nat) (w : World) (hb : w.heap[b]? = some (.cells belowL.toArray 162 (0, 0))) : Calls Try.prog 118 #[.pointer (some ⟨b, 0, none⟩), nodV { n with kind := 5 }] w fun e w' => e = .returned (.int .i64 (wr n.d n.shift)) ∧ Kept w w' := by
 refine g_enter (args := [.pointer (some ⟨b, 0, none⟩), nodV { n with kind := 5 }]) [] [.obj false b belowL 162] Try.func118 rfl Try.ntmps118 kL (sat1 hb) ?_
 refine g0 ?_
 refine gN fun b1 hb1 => ?_
 refine g0 ?_
 refine gD 7 ?_
 refine lA ([1] ++ [0]) 0 ?_
 refine lE ?_
 refine gA [] 1 ?_
 refine gD 9 ?_
 refine lA ([1] ++ [0] ++ List.replicate 19 1) 0 ?_
 refine l_callq _ _ _ ?_ (fun w hs => nlowered_any { n with kind := 5 } w) ?_
 ·kernel_rfl
 refine l0 ?_
 refine lE ?_
 refine gR (Value.int IntKind.i64 (wr (Nod.mk 5 n.font n.char n.w n.h n.d n.shift n.nat n.str n.shr n.so n.sho n.sign n.ord n.num n.den n.pen n.sub n.text).d (Nod.mk 5 n.font n.char n.w n.h n.d n.shift n.nat n.str n.shr n.so n.sho n.sign n.ord n.num n.den n.pen n.sub n.text).shift)) fun w' hs => ?_
 exact ⟨rfl, hs.kk⟩
theorem of_below_6 (n : Nod) (b : Nat) (w : World) (hb : w.heap[b]? = some (.cells belowL.toArray 162 (0, 0))) : Calls Try.prog 118 #[.pointer (some ⟨b, 0, none⟩), nodV { n with kind := 6 }] w fun e w' => e = .returned (.int .i64 (0)) ∧ Kept w w' := by
 refine g_enter (args := [.pointer (some ⟨b, 0, none⟩), nodV { n with kind := 6 }]) [] [.obj false b belowL 162] Try.func118 rfl Try.ntmps118 kL (sat1 hb) ?_
 refine g0 ?_
 refine gN fun b1 hb1 => ?_
 refine g0 ?_
 refine gD 7 ?_
 refine lA ([1] ++ [0]) 0 ?_
 refine lE ?_
 refine gA [] 1 ?_
 refine gR (Value.int IntKind.i64 0) fun w' hs => ?_
 exact ⟨rfl, hs.kk⟩
theorem of_below_7 (n : Nod) (b : Nat) (w : World) (hb : w.heap[b]? = some (.cells belowL.toArray 162 (0, 0))) : Calls Try.prog 118 #[.pointer (some ⟨b, 0, none⟩), nodV { n with kind := 7 }] w fun e w' => e = .returned (.int .i64 (0)) ∧ Kept w w' := by
 refine g_enter (args := [.pointer (some ⟨b, 0, none⟩), nodV { n with kind := 7 }]) [] [.obj false b belowL 162] Try.func118 rfl Try.ntmps118 kL (sat1 hb) ?_
 refine g0 ?_
 refine gN fun b1 hb1 => ?_
 refine g0 ?_
 refine gD 7 ?_
 refine lA ([1] ++ [0]) 0 ?_
 refine lE ?_
 refine gA [] 1 ?_
 refine gR (Value.int IntKind.i64 0) fun w' hs => ?_
 exact ⟨rfl, hs.kk⟩
theorem of_below_8 (n : Nod) (b : Nat) (w : World) (hb : w.heap[b]? = some (.cells belowL.toArray 162 (0, 0))) : Calls Try.prog 118 #[.pointer (some ⟨b, 0, none⟩), nodV { n with kind := 8 }] w fun e w' => e = .returned (.int .i64 (0)) ∧ Kept w w' := by
 refine g_enter (args := [.pointer (some ⟨b, 0, none⟩), nodV { n with kind := 8 }]) [] [.obj false b belowL 162] Try.func118 rfl Try.ntmps118 kL (sat1 hb) ?_
 refine g0 ?_
 refine gN fun b1 hb1 => ?_
 refine g0 ?_
 refine gD 7 ?_
 refine lA ([1] ++ [0]) 0 ?_
 refine lE ?_
 refine gA [] 1 ?_
 refine gR (Value.int IntKind.i64 0) fun w' hs => ?_
 exact ⟨rfl, hs.kk⟩
theorem of_below_9 (n : Nod) (b : Nat) (w : World) (hb : w.heap[b]? = some (.cells belowL.toArray 162 (0, 0))) : Calls Try.prog 118 #[.pointer (some ⟨b, 0, none⟩), nodV { n with kind := 9 }] w fun e w' => e = .returned (.int .i64 (0)) ∧ Kept w w' := by
 refine g_enter (args := [.pointer (some ⟨b, 0, none⟩), nodV { n with kind := 9 }]) [] [.obj false b belowL 162] Try.func118 rfl Try.ntmps118 kL (sat1 hb) ?_
 refine g0 ?_
 refine gN fun b1 hb1 => ?_
 refine g0 ?_
 refine gD 7 ?_
 refine lA ([1] ++ [0]) 0 ?_
 refine lE ?_
 refine gA [] 1 ?_
 refine gR (Value.int IntKind.i64 0) fun w' hs => ?_
 exact ⟨rfl, hs.kk⟩
theorem of_below_10 (n : Nod) (b : Nat) (w : World) (hb : w.heap[b]? = some (.cells belowL.toArray 162 (0, 0))) : Calls Try.prog 118 #[.pointer (some ⟨b, 0, none⟩), nodV { n with kind := 10 }] w fun e w' => e = .returned (.int .i64 (0)) ∧ Kept w w' := by
 refine g_enter (args := [.pointer (some ⟨b, 0, none⟩), nodV { n with kind := 10 }]) [] [.obj false b belowL 162] Try.func118 rfl Try.ntmps118 kL (sat1 hb) ?_
 refine g0 ?_
 refine gN fun b1 hb1 => ?_
 refine g0 ?_
 refine gD 7 ?_
 refine lA ([1] ++ [0]) 0 ?_
 refine lE ?_
 refine gA [] 1 ?_
 refine gR (Value.int IntKind.i64 0) fun w' hs => ?_
 exact ⟨rfl, hs.kk⟩
theorem of_below_11 (n : Nod) (b : Nat) (w : World) (hb : w.heap[b]? = some (.cells belowL.toArray 162 (0, 0))) : Calls Try.prog 118 #[.pointer (some ⟨b, 0, none⟩), nodV { n with kind := 11 }] w fun e w' => e = .returned (.int .i64 (0)) ∧ Kept w w' := by
 refine g_enter (args := [.pointer (some ⟨b, 0, none⟩), nodV { n with kind := 11 }]) [] [.obj false b belowL 162] Try.func118 rfl Try.ntmps118 kL (sat1 hb) ?_
 refine g0 ?_
 refine gN fun b1 hb1 => ?_
 refine g0 ?_
 refine gD 7 ?_
 refine lA ([1] ++ [0]) 0 ?_
 refine lE ?_
 refine gA [] 1 ?_
 refine gR (Value.int IntKind.i64 0) fun w' hs => ?_
 exact ⟨rfl, hs.kk⟩
theorem of_below_12 (n : Nod) (b : Nat) (w : World) (hb : w.heap[b]? = some (.cells belowL.toArray 162 (0, 0))) : Calls Try.prog 118 #[.pointer (some ⟨b, 0, none⟩), nodV { n with kind := 12 }] w fun e w' => e = .returned (.int .i64 (0)) ∧ Kept w w' := by
 refine g_enter (args := [.pointer (some ⟨b, 0, none⟩), nodV { n with kind := 12 }]) [] [.obj false b belowL 162] Try.func118 rfl Try.ntmps118 kL (sat1 hb) ?_
 refine g0 ?_
 refine gN fun b1 hb1 => ?_
 refine g0 ?_
 refine gD 7 ?_
 refine lA ([1] ++ [0]) 0 ?_
 refine lE ?_
 refine gA [] 1 ?_
 refine gR (Value.int IntKind.i64 0) fun w' hs => ?_
 exact ⟨rfl, hs.kk⟩
theorem of_below_13 (n : Nod) (b : Nat) (w : World) (hb : w.heap[b]? = some (.cells belowL.toArray 162 (0, 0))) : Calls Try.prog 118 #[.pointer (some ⟨b, 0, none⟩), nodV { n with kind := 13 }] w fun e w' => e = .returned (.int .i64 (0)) ∧ Kept w w' := by
 refine g_enter (args := [.pointer (some ⟨b, 0, none⟩), nodV { n with kind := 13 }]) [] [.obj false b belowL 162] Try.func118 rfl Try.ntmps118 kL (sat1 hb) ?_
 refine g0 ?_
 refine gN fun b1 hb1 => ?_
 refine g0 ?_
 refine gD 7 ?_
 refine lA ([1] ++ [0]) 0 ?_
 refine lE ?_
 refine gA [] 1 ?_
 refine gR (Value.int IntKind.i64 0) fun w' hs => ?_
 exact ⟨rfl, hs.kk⟩
theorem of_below_14 (n : Nod) (b : Nat) (w : World) (hb : w.heap[b]? = some (.cells belowL.toArray 162 (0, 0))) : Calls Try.prog 118 #[.pointer (some ⟨b, 0, none⟩), nodV { n with kind := 14 }] w fun e w' => e = .returned (.int .i64 (0)) ∧ Kept w w' := by
 refine g_enter (args := [.pointer (some ⟨b, 0, none⟩), nodV { n with kind := 14 }]) [] [.obj false b belowL 162] Try.func118 rfl Try.ntmps118 kL (sat1 hb) ?_
 refine g0 ?_
 refine gN fun b1 hb1 => ?_
 refine g0 ?_
 refine gD 7 ?_
 refine lA ([1] ++ [0]) 0 ?_
 refine lE ?_
 refine gA [] 1 ?_
 refine gR (Value.int IntKind.i64 0) fun w' hs => ?_
 exact ⟨rfl, hs.kk⟩
theorem of_below_15 (n : Nod) (b : Nat) (w : World) (hb : w.heap[b]? = some (.cells belowL.toArray 162 (0, 0))) : Calls Try.prog 118 #[.pointer (some ⟨b, 0, none⟩), nodV { n with kind := 15 }] w fun e w' => e = .returned (.int .i64 (0)) ∧ Kept w w' := by
 refine g_enter (args := [.pointer (some ⟨b, 0, none⟩), nodV { n with kind := 15 }]) [] [.obj false b belowL 162] Try.func118 rfl Try.ntmps118 kL (sat1 hb) ?_
 refine g0 ?_
 refine gN fun b1 hb1 => ?_
 refine g0 ?_
 refine gD 7 ?_
 refine lA ([1] ++ [0]) 0 ?_
 refine lE ?_
 refine gA [] 1 ?_
 refine gR (Value.int IntKind.i64 0) fun w' hs => ?_
 exact ⟨rfl, hs.kk⟩
theorem of_below_16 (n : Nod) (b : Nat) (w : World) (hb : w.heap[b]? = some (.cells belowL.toArray 162 (0, 0))) : Calls Try.prog 118 #[.pointer (some ⟨b, 0, none⟩), nodV { n with kind := 16 }] w fun e w' => e = .returned (.int .i64 (0)) ∧ Kept w w' := by
 refine g_enter (args := [.pointer (some ⟨b, 0, none⟩), nodV { n with kind := 16 }]) [] [.obj false b belowL 162] Try.func118 rfl Try.ntmps118 kL (sat1 hb) ?_
 refine g0 ?_
 refine gN fun b1 hb1 => ?_
 refine g0 ?_
 refine gD 7 ?_
 refine lA ([1] ++ [0]) 0 ?_
 refine lE ?_
 refine gA [] 1 ?_
 refine gR (Value.int IntKind.i64 0) fun w' hs => ?_
 exact ⟨rfl, hs.kk⟩
theorem of_below_17 (n : Nod) (b : Nat) (w : World) (hb : w.heap[b]? = some (.cells belowL.toArray 162 (0, 0))) : Calls Try.prog 118 #[.pointer (some ⟨b, 0, none⟩), nodV { n with kind := 17 }] w fun e w' => e = .returned (.int .i64 (0)) ∧ Kept w w' := by
 refine g_enter (args := [.pointer (some ⟨b, 0, none⟩), nodV { n with kind := 17 }]) [] [.obj false b belowL 162] Try.func118 rfl Try.ntmps118 kL (sat1 hb) ?_
 refine g0 ?_
 refine gN fun b1 hb1 => ?_
 refine g0 ?_
 refine gD 7 ?_
 refine lA ([1] ++ [0]) 0 ?_
 refine lE ?_
 refine gA [] 1 ?_
 refine gR (Value.int IntKind.i64 0) fun w' hs => ?_
 exact ⟨rfl, hs.kk⟩
theorem of_below_any (n : Nod) (h1 : 1 ≤ n.kind) (h2 : n.kind ≤ 17) (b : Nat) (w : World) (hb : w.heap[b]? = some (.cells belowL.toArray 162 (0, 0))) : Calls Try.prog 118 #[.pointer (some ⟨b, 0, none⟩), nodV n] w fun e w' => e = .returned (.int .i64 (belowV n)) ∧ Kept w w' := by
 rcases kinds_of h1 h2 with h | h | h | h | h | h | h | h | h | h | h | h | h | h | h | h | h
 ·have := of_below_1 n b w hb
  rw [kind_eq h] at this
  simpa [belowV, h] using this
 ·have := of_below_2 n b w hb
  rw [kind_eq h] at this
  simpa [belowV, h] using this
 ·have := of_below_3 n b w hb
  rw [kind_eq h] at this
  simpa [belowV, h] using this
 ·have := of_below_4 n b w hb
  rw [kind_eq h] at this
  simpa [belowV, h] using this
 ·have := of_below_5 n b w hb
  rw [kind_eq h] at this
  simpa [belowV, h] using this
 ·have := of_below_6 n b w hb
  rw [kind_eq h] at this
  simpa [belowV, h] using this
 ·have := of_below_7 n b w hb
  rw [kind_eq h] at this
  simpa [belowV, h] using this
 ·have := of_below_8 n b w hb
  rw [kind_eq h] at this
  simpa [belowV, h] using this
 ·have := of_below_9 n b w hb
  rw [kind_eq h] at this
  simpa [belowV, h] using this
 ·have := of_below_10 n b w hb
  rw [kind_eq h] at this
  simpa [belowV, h] using this
 ·have := of_below_11 n b w hb
  rw [kind_eq h] at this
  simpa [belowV, h] using this
 ·have := of_below_12 n b w hb
  rw [kind_eq h] at this
  simpa [belowV, h] using this
 ·have := of_below_13 n b w hb
  rw [kind_eq h] at this
  simpa [belowV, h] using this
 ·have := of_below_14 n b w hb
  rw [kind_eq h] at this
  simpa [belowV, h] using this
 ·have := of_below_15 n b w hb
  rw [kind_eq h] at this
  simpa [belowV, h] using this
 ·have := of_below_16 n b w hb
  rw [kind_eq h] at this
  simpa [belowV, h] using this
 have := of_below_17 n b w hb
 rw [kind_eq h] at this
 simpa [belowV, h] using this
def acrossL : List Value := (List.range 18).map fun k => if k ∈ [3] then .func (.func 124) #[] #[] else if k ∈ [4, 5] then .func (.func 126) #[] #[] else .nilFunc
def acrossV (n : Nod) : Int := if n.kind ∈ ([3] : List Int) then n.w else if n.kind ∈ ([4, 5] : List Int) then wr n.w n.shift else 0
theorem across_run (w : World) : Calls Try.prog 83 #[] w fun e w' => e = .returned (.agg acrossL.toArray) ∧ Kept w w' := by
 refine g_enter (args := []) [] [] Try.func83 rfl Try.ntmps83 kL (sat0 w) ?_
 refine g0 ?_
 refine gN fun b0 hb0 => ?_
 refine gA (List.replicate 18 0) 0 ?_
 refine g_ret (List.replicate 18 0) (.agg acrossL.toArray) kR kR kR fun w' hs => ?_
 exact ⟨rfl, hs.kk⟩
theorem of_across_1 (n : Nod) (b : Nat) (w : World) (hb : w.heap[b]? = some (.cells acrossL.toArray 162 (0, 0))) : Calls Try.prog 118 #[.pointer (some ⟨b, 0, none⟩), nodV { n with kind := 1 }] w fun e w' => e = .returned (.int .i64 (0)) ∧ Kept w w' := by
 refine g_enter (args := [.pointer (some ⟨b, 0, none⟩), nodV { n with kind := 1 }]) [] [.obj false b acrossL 162] Try.func118 rfl Try.ntmps118 kL (sat1 hb) ?_
 refine g0 ?_
 refine gN fun b1 hb1 => ?_
 refine g0 ?_
 refine gD 7 ?_
 refine lA ([1] ++ [0]) 0 ?_
 refine lE ?_
 refine gA [] 1 ?_
 refine gR (Value.int IntKind.i64 0) fun w' hs => ?_
 exact ⟨rfl, hs.kk⟩
theorem of_across_2 (n : Nod) (b : Nat) (w : World) (hb : w.heap[b]? = some (.cells acrossL.toArray 162 (0, 0))) : Calls Try.prog 118 #[.pointer (some ⟨b, 0, none⟩), nodV { n with kind := 2 }] w fun e w' => e = .returned (.int .i64 (0)) ∧ Kept w w' := by
 refine g_enter (args := [.pointer (some ⟨b, 0, none⟩), nodV { n with kind := 2 }]) [] [.obj false b acrossL 162] Try.func118 rfl Try.ntmps118 kL (sat1 hb) ?_
 refine g0 ?_
 refine gN fun b1 hb1 => ?_
 refine g0 ?_
 refine gD 7 ?_
 refine lA ([1] ++ [0]) 0 ?_
 refine lE ?_
 refine gA [] 1 ?_
 refine gR (Value.int IntKind.i64 0) fun w' hs => ?_
 exact ⟨rfl, hs.kk⟩
theorem of_across_3 (n : Nod) (b : Nat) (w : World) (hb : w.heap[b]? = some (.cells acrossL.toArray 162 (0, 0))) : Calls Try.prog 118 #[.pointer (some ⟨b, 0, none⟩), nodV { n with kind := 3 }] w fun e w' => e = .returned (.int .i64 (n.w)) ∧ Kept w w' := by
 refine g_enter (args := [.pointer (some ⟨b, 0, none⟩), nodV { n with kind := 3 }]) [] [.obj false b acrossL 162] Try.func118 rfl Try.ntmps118 kL (sat1 hb) ?_
 refine g0 ?_
 refine gN fun b1 hb1 => ?_
 refine g0 ?_
 refine gD 7 ?_
 refine lA ([1] ++ [0]) 0 ?_
 refine lE ?_
 refine gA [] 1 ?_
 refine gD 9 ?_
 refine lA ([1] ++ [0] ++ List.replicate 19 1) 0 ?_
 refine l_callq _ _ _ ?_ (fun w hs => nwidth_any { n with kind := 3 } w) ?_
 ·kernel_rfl
 refine l0 ?_
 refine lE ?_
 refine gR (Value.int IntKind.i64 (Nod.mk 3 n.font n.char n.w n.h n.d n.shift n.nat n.str n.shr n.so n.sho n.sign n.ord n.num n.den n.pen n.sub n.text).w) fun w' hs => ?_
 exact ⟨rfl, hs.kk⟩
theorem of_across_4 (n : Nod) (b : Nat) (w : World) (hb : w.heap[b]? = some (.cells acrossL.toArray 162 (0, 0))) : Calls Try.prog 118 #[.pointer (some ⟨b, 0, none⟩), nodV { n with kind := 4 }] w fun e w' => e = .returned (.int .i64 (wr n.w n.shift)) ∧ Kept w w' := by
 refine g_enter (args := [.pointer (some ⟨b, 0, none⟩), nodV { n with kind := 4 }]) [] [.obj false b acrossL 162] Try.func118 rfl Try.ntmps118 kL (sat1 hb) ?_
 refine g0 ?_
 refine gN fun b1 hb1 => ?_
 refine g0 ?_
 refine gD 7 ?_
 refine lA ([1] ++ [0]) 0 ?_
 refine lE ?_
 refine gA [] 1 ?_
 refine gD 9 ?_
 refine lA ([1] ++ [0] ++ List.replicate 19 1) 0 ?_
 refine l_callq _ _ _ ?_ (fun w hs => nmoved_any { n with kind := 4 } w) ?_
 ·kernel_rfl
 refine l0 ?_
 refine lE ?_
 refine gR (Value.int IntKind.i64 (wr (Nod.mk 4 n.font n.char n.w n.h n.d n.shift n.nat n.str n.shr n.so n.sho n.sign n.ord n.num n.den n.pen n.sub n.text).w (Nod.mk 4 n.font n.char n.w n.h n.d n.shift n.nat n.str n.shr n.so n.sho n.sign n.ord n.num n.den n.pen n.sub n.text).shift)) fun w' hs => ?_
 exact ⟨rfl, hs.kk⟩
theorem of_across_5 (n : Nod) (b : Nat) (w : World) (hb : w.heap[b]? = some (.cells acrossL.toArray 162 (0, 0))) : Calls Try.prog 118 #[.pointer (some ⟨b, 0, none⟩), nodV { n with kind := 5 }] w fun e w' => e = .returned (.int .i64 (wr n.w n.shift)) ∧ Kept w w' := by
 refine g_enter (args := [.pointer (some ⟨b, 0, none⟩), nodV { n with kind := 5 }]) [] [.obj false b acrossL 162] Try.func118 rfl Try.ntmps118 kL (sat1 hb) ?_
 refine g0 ?_
 refine gN fun b1 hb1 => ?_
 refine g0 ?_
 refine gD 7 ?_
 refine lA ([1] ++ [0]) 0 ?_
 refine lE ?_
 refine gA [] 1 ?_
 refine gD 9 ?_
 refine lA ([1] ++ [0] ++ List.replicate 19 1) 0 ?_
 refine l_callq _ _ _ ?_ (fun w hs => nmoved_any { n with kind := 5 } w) ?_
 ·kernel_rfl
 refine l0 ?_
 refine lE ?_
 refine gR (Value.int IntKind.i64 (wr (Nod.mk 5 n.font n.char n.w n.h n.d n.shift n.nat n.str n.shr n.so n.sho n.sign n.ord n.num n.den n.pen n.sub n.text).w (Nod.mk 5 n.font n.char n.w n.h n.d n.shift n.nat n.str n.shr n.so n.sho n.sign n.ord n.num n.den n.pen n.sub n.text).shift)) fun w' hs => ?_
 exact ⟨rfl, hs.kk⟩
theorem of_across_6 (n : Nod) (b : Nat) (w : World) (hb : w.heap[b]? = some (.cells acrossL.toArray 162 (0, 0))) : Calls Try.prog 118 #[.pointer (some ⟨b, 0, none⟩), nodV { n with kind := 6 }] w fun e w' => e = .returned (.int .i64 (0)) ∧ Kept w w' := by
 refine g_enter (args := [.pointer (some ⟨b, 0, none⟩), nodV { n with kind := 6 }]) [] [.obj false b acrossL 162] Try.func118 rfl Try.ntmps118 kL (sat1 hb) ?_
 refine g0 ?_
 refine gN fun b1 hb1 => ?_
 refine g0 ?_
 refine gD 7 ?_
 refine lA ([1] ++ [0]) 0 ?_
 refine lE ?_
 refine gA [] 1 ?_
 refine gR (Value.int IntKind.i64 0) fun w' hs => ?_
 exact ⟨rfl, hs.kk⟩
theorem of_across_7 (n : Nod) (b : Nat) (w : World) (hb : w.heap[b]? = some (.cells acrossL.toArray 162 (0, 0))) : Calls Try.prog 118 #[.pointer (some ⟨b, 0, none⟩), nodV { n with kind := 7 }] w fun e w' => e = .returned (.int .i64 (0)) ∧ Kept w w' := by
 refine g_enter (args := [.pointer (some ⟨b, 0, none⟩), nodV { n with kind := 7 }]) [] [.obj false b acrossL 162] Try.func118 rfl Try.ntmps118 kL (sat1 hb) ?_
 refine g0 ?_
 refine gN fun b1 hb1 => ?_
 refine g0 ?_
 refine gD 7 ?_
 refine lA ([1] ++ [0]) 0 ?_
 refine lE ?_
 refine gA [] 1 ?_
 refine gR (Value.int IntKind.i64 0) fun w' hs => ?_
 exact ⟨rfl, hs.kk⟩
theorem of_across_8 (n : Nod) (b : Nat) (w : World) (hb : w.heap[b]? = some (.cells acrossL.toArray 162 (0, 0))) : Calls Try.prog 118 #[.pointer (some ⟨b, 0, none⟩), nodV { n with kind := 8 }] w fun e w' => e = .returned (.int .i64 (0)) ∧ Kept w w' := by
 refine g_enter (args := [.pointer (some ⟨b, 0, none⟩), nodV { n with kind := 8 }]) [] [.obj false b acrossL 162] Try.func118 rfl Try.ntmps118 kL (sat1 hb) ?_
 refine g0 ?_
 refine gN fun b1 hb1 => ?_
 refine g0 ?_
 refine gD 7 ?_
 refine lA ([1] ++ [0]) 0 ?_
 refine lE ?_
 refine gA [] 1 ?_
 refine gR (Value.int IntKind.i64 0) fun w' hs => ?_
 exact ⟨rfl, hs.kk⟩
theorem of_across_9 (n : Nod) (b : Nat) (w : World) (hb : w.heap[b]? = some (.cells acrossL.toArray 162 (0, 0))) : Calls Try.prog 118 #[.pointer (some ⟨b, 0, none⟩), nodV { n with kind := 9 }] w fun e w' => e = .returned (.int .i64 (0)) ∧ Kept w w' := by
 refine g_enter (args := [.pointer (some ⟨b, 0, none⟩), nodV { n with kind := 9 }]) [] [.obj false b acrossL 162] Try.func118 rfl Try.ntmps118 kL (sat1 hb) ?_
 refine g0 ?_
 refine gN fun b1 hb1 => ?_
 refine g0 ?_
 refine gD 7 ?_
 refine lA ([1] ++ [0]) 0 ?_
 refine lE ?_
 refine gA [] 1 ?_
 refine gR (Value.int IntKind.i64 0) fun w' hs => ?_
 exact ⟨rfl, hs.kk⟩
theorem of_across_10 (n : Nod) (b : Nat) (w : World) (hb : w.heap[b]? = some (.cells acrossL.toArray 162 (0, 0))) : Calls Try.prog 118 #[.pointer (some ⟨b, 0, none⟩), nodV { n with kind := 10 }] w fun e w' => e = .returned (.int .i64 (0)) ∧ Kept w w' := by
 refine g_enter (args := [.pointer (some ⟨b, 0, none⟩), nodV { n with kind := 10 }]) [] [.obj false b acrossL 162] Try.func118 rfl Try.ntmps118 kL (sat1 hb) ?_
 refine g0 ?_
 refine gN fun b1 hb1 => ?_
 refine g0 ?_
 refine gD 7 ?_
 refine lA ([1] ++ [0]) 0 ?_
 refine lE ?_
 refine gA [] 1 ?_
 refine gR (Value.int IntKind.i64 0) fun w' hs => ?_
 exact ⟨rfl, hs.kk⟩
theorem of_across_11 (n : Nod) (b : Nat) (w : World) (hb : w.heap[b]? = some (.cells acrossL.toArray 162 (0, 0))) : Calls Try.prog 118 #[.pointer (some ⟨b, 0, none⟩), nodV { n with kind := 11 }] w fun e w' => e = .returned (.int .i64 (0)) ∧ Kept w w' := by
 refine g_enter (args := [.pointer (some ⟨b, 0, none⟩), nodV { n with kind := 11 }]) [] [.obj false b acrossL 162] Try.func118 rfl Try.ntmps118 kL (sat1 hb) ?_
 refine g0 ?_
 refine gN fun b1 hb1 => ?_
 refine g0 ?_
 refine gD 7 ?_
 refine lA ([1] ++ [0]) 0 ?_
 refine lE ?_
 refine gA [] 1 ?_
 refine gR (Value.int IntKind.i64 0) fun w' hs => ?_
 exact ⟨rfl, hs.kk⟩
theorem of_across_12 (n : Nod) (b : Nat) (w : World) (hb : w.heap[b]? = some (.cells acrossL.toArray 162 (0, 0))) : Calls Try.prog 118 #[.pointer (some ⟨b, 0, none⟩), nodV { n with kind := 12 }] w fun e w' => e = .returned (.int .i64 (0)) ∧ Kept w w' := by
 refine g_enter (args := [.pointer (some ⟨b, 0, none⟩), nodV { n with kind := 12 }]) [] [.obj false b acrossL 162] Try.func118 rfl Try.ntmps118 kL (sat1 hb) ?_
 refine g0 ?_
 refine gN fun b1 hb1 => ?_
 refine g0 ?_
 refine gD 7 ?_
 refine lA ([1] ++ [0]) 0 ?_
 refine lE ?_
 refine gA [] 1 ?_
 refine gR (Value.int IntKind.i64 0) fun w' hs => ?_
 exact ⟨rfl, hs.kk⟩
theorem of_across_13 (n : Nod) (b : Nat) (w : World) (hb : w.heap[b]? = some (.cells acrossL.toArray 162 (0, 0))) : Calls Try.prog 118 #[.pointer (some ⟨b, 0, none⟩), nodV { n with kind := 13 }] w fun e w' => e = .returned (.int .i64 (0)) ∧ Kept w w' := by
 refine g_enter (args := [.pointer (some ⟨b, 0, none⟩), nodV { n with kind := 13 }]) [] [.obj false b acrossL 162] Try.func118 rfl Try.ntmps118 kL (sat1 hb) ?_
 refine g0 ?_
 refine gN fun b1 hb1 => ?_
 refine g0 ?_
 refine gD 7 ?_
 refine lA ([1] ++ [0]) 0 ?_
 refine lE ?_
 refine gA [] 1 ?_
 refine gR (Value.int IntKind.i64 0) fun w' hs => ?_
 exact ⟨rfl, hs.kk⟩
theorem of_across_14 (n : Nod) (b : Nat) (w : World) (hb : w.heap[b]? = some (.cells acrossL.toArray 162 (0, 0))) : Calls Try.prog 118 #[.pointer (some ⟨b, 0, none⟩), nodV { n with kind := 14 }] w fun e w' => e = .returned (.int .i64 (0)) ∧ Kept w w' := by
 refine g_enter (args := [.pointer (some ⟨b, 0, none⟩), nodV { n with kind := 14 }]) [] [.obj false b acrossL 162] Try.func118 rfl Try.ntmps118 kL (sat1 hb) ?_
 refine g0 ?_
 refine gN fun b1 hb1 => ?_
 refine g0 ?_
 refine gD 7 ?_
 refine lA ([1] ++ [0]) 0 ?_
 refine lE ?_
 refine gA [] 1 ?_
 refine gR (Value.int IntKind.i64 0) fun w' hs => ?_
 exact ⟨rfl, hs.kk⟩
theorem of_across_15 (n : Nod) (b : Nat) (w : World) (hb : w.heap[b]? = some (.cells acrossL.toArray 162 (0, 0))) : Calls Try.prog 118 #[.pointer (some ⟨b, 0, none⟩), nodV { n with kind := 15 }] w fun e w' => e = .returned (.int .i64 (0)) ∧ Kept w w' := by
 refine g_enter (args := [.pointer (some ⟨b, 0, none⟩), nodV { n with kind := 15 }]) [] [.obj false b acrossL 162] Try.func118 rfl Try.ntmps118 kL (sat1 hb) ?_
 refine g0 ?_
 refine gN fun b1 hb1 => ?_
 refine g0 ?_
 refine gD 7 ?_
 refine lA ([1] ++ [0]) 0 ?_
 refine lE ?_
 refine gA [] 1 ?_
 refine gR (Value.int IntKind.i64 0) fun w' hs => ?_
 exact ⟨rfl, hs.kk⟩
theorem of_across_16 (n : Nod) (b : Nat) (w : World) (hb : w.heap[b]? = some (.cells acrossL.toArray 162 (0, 0))) : Calls Try.prog 118 #[.pointer (some ⟨b, 0, none⟩), nodV { n with kind := 16 }] w fun e w' => e = .returned (.int .i64 (0)) ∧ Kept w w' := by
 refine g_enter (args := [.pointer (some ⟨b, 0, none⟩), nodV { n with kind := 16 }]) [] [.obj false b acrossL 162] Try.func118 rfl Try.ntmps118 kL (sat1 hb) ?_
 refine g0 ?_
 refine gN fun b1 hb1 => ?_
 refine g0 ?_
 refine gD 7 ?_
 refine lA ([1] ++ [0]) 0 ?_
 refine lE ?_
 refine gA [] 1 ?_
 refine gR (Value.int IntKind.i64 0) fun w' hs => ?_
 exact ⟨rfl, hs.kk⟩
theorem of_across_17 (n : Nod) (b : Nat) (w : World) (hb : w.heap[b]? = some (.cells acrossL.toArray 162 (0, 0))) : Calls Try.prog 118 #[.pointer (some ⟨b, 0, none⟩), nodV { n with kind := 17 }] w fun e w' => e = .returned (.int .i64 (0)) ∧ Kept w w' := by
 refine g_enter (args := [.pointer (some ⟨b, 0, none⟩), nodV { n with kind := 17 }]) [] [.obj false b acrossL 162] Try.func118 rfl Try.ntmps118 kL (sat1 hb) ?_
 refine g0 ?_
 refine gN fun b1 hb1 => ?_
 refine g0 ?_
 refine gD 7 ?_
 refine lA ([1] ++ [0]) 0 ?_
 refine lE ?_
 refine gA [] 1 ?_
 refine gR (Value.int IntKind.i64 0) fun w' hs => ?_
 exact ⟨rfl, hs.kk⟩
theorem of_across_any (n : Nod) (h1 : 1 ≤ n.kind) (h2 : n.kind ≤ 17) (b : Nat) (w : World) (hb : w.heap[b]? = some (.cells acrossL.toArray 162 (0, 0))) : Calls Try.prog 118 #[.pointer (some ⟨b, 0, none⟩), nodV n] w fun e w' => e = .returned (.int .i64 (acrossV n)) ∧ Kept w w' := by
 rcases kinds_of h1 h2 with h | h | h | h | h | h | h | h | h | h | h | h | h | h | h | h | h
 ·have := of_across_1 n b w hb
  rw [kind_eq h] at this
  simpa [acrossV, h] using this
 ·have := of_across_2 n b w hb
  rw [kind_eq h] at this
  simpa [acrossV, h] using this
 ·have := of_across_3 n b w hb
  rw [kind_eq h] at this
  simpa [acrossV, h] using this
 ·have := of_across_4 n b w hb
  rw [kind_eq h] at this
  simpa [acrossV, h] using this
 ·have := of_across_5 n b w hb
  rw [kind_eq h] at this
  simpa [acrossV, h] using this
 ·have := of_across_6 n b w hb
  rw [kind_eq h] at this
  simpa [acrossV, h] using this
 ·have := of_across_7 n b w hb
  rw [kind_eq h] at this
  simpa [acrossV, h] using this
 ·have := of_across_8 n b w hb
  rw [kind_eq h] at this
  simpa [acrossV, h] using this
 ·have := of_across_9 n b w hb
  rw [kind_eq h] at this
  simpa [acrossV, h] using this
 ·have := of_across_10 n b w hb
  rw [kind_eq h] at this
  simpa [acrossV, h] using this
 ·have := of_across_11 n b w hb
  rw [kind_eq h] at this
  simpa [acrossV, h] using this
 ·have := of_across_12 n b w hb
  rw [kind_eq h] at this
  simpa [acrossV, h] using this
 ·have := of_across_13 n b w hb
  rw [kind_eq h] at this
  simpa [acrossV, h] using this
 ·have := of_across_14 n b w hb
  rw [kind_eq h] at this
  simpa [acrossV, h] using this
 ·have := of_across_15 n b w hb
  rw [kind_eq h] at this
  simpa [acrossV, h] using this
 ·have := of_across_16 n b w hb
  rw [kind_eq h] at this
  simpa [acrossV, h] using this
 have := of_across_17 n b w hb
 rw [kind_eq h] at this
 simpa [acrossV, h] using this
def hangingL : List Value := (List.range 18).map fun k => if k ∈ [3, 4, 5] then .func (.func 127) #[] #[] else .nilFunc
def hangingV (n : Nod) : Int := if n.kind ∈ ([3, 4, 5] : List Int) then n.d else 0
theorem hanging_run (w : World) : Calls Try.prog 85 #[] w fun e w' => e = .returned (.agg hangingL.toArray) ∧ Kept w w' := by
 refine g_enter (args := []) [] [] Try.func85 rfl Try.ntmps85 kL (sat0 w) ?_
 refine g0 ?_
 refine gN fun b0 hb0 => ?_
 refine gA (List.replicate 18 0) 0 ?_
 refine g_ret (List.replicate 18 0) (.agg hangingL.toArray) kR kR kR fun w' hs => ?_
 exact ⟨rfl, hs.kk⟩
theorem of_hanging_1 (n : Nod) (b : Nat) (w : World) (hb : w.heap[b]? = some (.cells hangingL.toArray 162 (0, 0))) : Calls Try.prog 118 #[.pointer (some ⟨b, 0, none⟩), nodV { n with kind := 1 }] w fun e w' => e = .returned (.int .i64 (0)) ∧ Kept w w' := by
 refine g_enter (args := [.pointer (some ⟨b, 0, none⟩), nodV { n with kind := 1 }]) [] [.obj false b hangingL 162] Try.func118 rfl Try.ntmps118 kL (sat1 hb) ?_
 refine g0 ?_
 refine gN fun b1 hb1 => ?_
 refine g0 ?_
 refine gD 7 ?_
 refine lA ([1] ++ [0]) 0 ?_
 refine lE ?_
 refine gA [] 1 ?_
 refine gR (Value.int IntKind.i64 0) fun w' hs => ?_
 exact ⟨rfl, hs.kk⟩
theorem of_hanging_2 (n : Nod) (b : Nat) (w : World) (hb : w.heap[b]? = some (.cells hangingL.toArray 162 (0, 0))) : Calls Try.prog 118 #[.pointer (some ⟨b, 0, none⟩), nodV { n with kind := 2 }] w fun e w' => e = .returned (.int .i64 (0)) ∧ Kept w w' := by
 refine g_enter (args := [.pointer (some ⟨b, 0, none⟩), nodV { n with kind := 2 }]) [] [.obj false b hangingL 162] Try.func118 rfl Try.ntmps118 kL (sat1 hb) ?_
 refine g0 ?_
 refine gN fun b1 hb1 => ?_
 refine g0 ?_
 refine gD 7 ?_
 refine lA ([1] ++ [0]) 0 ?_
 refine lE ?_
 refine gA [] 1 ?_
 refine gR (Value.int IntKind.i64 0) fun w' hs => ?_
 exact ⟨rfl, hs.kk⟩
theorem of_hanging_3 (n : Nod) (b : Nat) (w : World) (hb : w.heap[b]? = some (.cells hangingL.toArray 162 (0, 0))) : Calls Try.prog 118 #[.pointer (some ⟨b, 0, none⟩), nodV { n with kind := 3 }] w fun e w' => e = .returned (.int .i64 (n.d)) ∧ Kept w w' := by
 refine g_enter (args := [.pointer (some ⟨b, 0, none⟩), nodV { n with kind := 3 }]) [] [.obj false b hangingL 162] Try.func118 rfl Try.ntmps118 kL (sat1 hb) ?_
 refine g0 ?_
 refine gN fun b1 hb1 => ?_
 refine g0 ?_
 refine gD 7 ?_
 refine lA ([1] ++ [0]) 0 ?_
 refine lE ?_
 refine gA [] 1 ?_
 refine gD 9 ?_
 refine lA ([1] ++ [0] ++ List.replicate 19 1) 0 ?_
 refine l_callq _ _ _ ?_ (fun w hs => ndepth_any { n with kind := 3 } w) ?_
 ·kernel_rfl
 refine l0 ?_
 refine lE ?_
 refine gR (Value.int IntKind.i64 (Nod.mk 3 n.font n.char n.w n.h n.d n.shift n.nat n.str n.shr n.so n.sho n.sign n.ord n.num n.den n.pen n.sub n.text).d) fun w' hs => ?_
 exact ⟨rfl, hs.kk⟩
theorem of_hanging_4 (n : Nod) (b : Nat) (w : World) (hb : w.heap[b]? = some (.cells hangingL.toArray 162 (0, 0))) : Calls Try.prog 118 #[.pointer (some ⟨b, 0, none⟩), nodV { n with kind := 4 }] w fun e w' => e = .returned (.int .i64 (n.d)) ∧ Kept w w' := by
 refine g_enter (args := [.pointer (some ⟨b, 0, none⟩), nodV { n with kind := 4 }]) [] [.obj false b hangingL 162] Try.func118 rfl Try.ntmps118 kL (sat1 hb) ?_
 refine g0 ?_
 refine gN fun b1 hb1 => ?_
 refine g0 ?_
 refine gD 7 ?_
 refine lA ([1] ++ [0]) 0 ?_
 refine lE ?_
 refine gA [] 1 ?_
 refine gD 9 ?_
 refine lA ([1] ++ [0] ++ List.replicate 19 1) 0 ?_
 refine l_callq _ _ _ ?_ (fun w hs => ndepth_any { n with kind := 4 } w) ?_
 ·kernel_rfl
 refine l0 ?_
 refine lE ?_
 refine gR (Value.int IntKind.i64 (Nod.mk 4 n.font n.char n.w n.h n.d n.shift n.nat n.str n.shr n.so n.sho n.sign n.ord n.num n.den n.pen n.sub n.text).d) fun w' hs => ?_
 exact ⟨rfl, hs.kk⟩
theorem of_hanging_5 (n : Nod) (b : Nat) (w : World) (hb : w.heap[b]? = some (.cells hangingL.toArray 162 (0, 0))) : Calls Try.prog 118 #[.pointer (some ⟨b, 0, none⟩), nodV { n with kind := 5 }] w fun e w' => e = .returned (.int .i64 (n.d)) ∧ Kept w w' := by
 refine g_enter (args := [.pointer (some ⟨b, 0, none⟩), nodV { n with kind := 5 }]) [] [.obj false b hangingL 162] Try.func118 rfl Try.ntmps118 kL (sat1 hb) ?_
 refine g0 ?_
 refine gN fun b1 hb1 => ?_
 refine g0 ?_
 refine gD 7 ?_
 refine lA ([1] ++ [0]) 0 ?_
 refine lE ?_
 refine gA [] 1 ?_
 refine gD 9 ?_
 refine lA ([1] ++ [0] ++ List.replicate 19 1) 0 ?_
 refine l_callq _ _ _ ?_ (fun w hs => ndepth_any { n with kind := 5 } w) ?_
 ·kernel_rfl
 refine l0 ?_
 refine lE ?_
 refine gR (Value.int IntKind.i64 (Nod.mk 5 n.font n.char n.w n.h n.d n.shift n.nat n.str n.shr n.so n.sho n.sign n.ord n.num n.den n.pen n.sub n.text).d) fun w' hs => ?_
 exact ⟨rfl, hs.kk⟩
theorem of_hanging_6 (n : Nod) (b : Nat) (w : World) (hb : w.heap[b]? = some (.cells hangingL.toArray 162 (0, 0))) : Calls Try.prog 118 #[.pointer (some ⟨b, 0, none⟩), nodV { n with kind := 6 }] w fun e w' => e = .returned (.int .i64 (0)) ∧ Kept w w' := by
 refine g_enter (args := [.pointer (some ⟨b, 0, none⟩), nodV { n with kind := 6 }]) [] [.obj false b hangingL 162] Try.func118 rfl Try.ntmps118 kL (sat1 hb) ?_
 refine g0 ?_
 refine gN fun b1 hb1 => ?_
 refine g0 ?_
 refine gD 7 ?_
 refine lA ([1] ++ [0]) 0 ?_
 refine lE ?_
 refine gA [] 1 ?_
 refine gR (Value.int IntKind.i64 0) fun w' hs => ?_
 exact ⟨rfl, hs.kk⟩
theorem of_hanging_7 (n : Nod) (b : Nat) (w : World) (hb : w.heap[b]? = some (.cells hangingL.toArray 162 (0, 0))) : Calls Try.prog 118 #[.pointer (some ⟨b, 0, none⟩), nodV { n with kind := 7 }] w fun e w' => e = .returned (.int .i64 (0)) ∧ Kept w w' := by
 refine g_enter (args := [.pointer (some ⟨b, 0, none⟩), nodV { n with kind := 7 }]) [] [.obj false b hangingL 162] Try.func118 rfl Try.ntmps118 kL (sat1 hb) ?_
 refine g0 ?_
 refine gN fun b1 hb1 => ?_
 refine g0 ?_
 refine gD 7 ?_
 refine lA ([1] ++ [0]) 0 ?_
 refine lE ?_
 refine gA [] 1 ?_
 refine gR (Value.int IntKind.i64 0) fun w' hs => ?_
 exact ⟨rfl, hs.kk⟩
theorem of_hanging_8 (n : Nod) (b : Nat) (w : World) (hb : w.heap[b]? = some (.cells hangingL.toArray 162 (0, 0))) : Calls Try.prog 118 #[.pointer (some ⟨b, 0, none⟩), nodV { n with kind := 8 }] w fun e w' => e = .returned (.int .i64 (0)) ∧ Kept w w' := by
 refine g_enter (args := [.pointer (some ⟨b, 0, none⟩), nodV { n with kind := 8 }]) [] [.obj false b hangingL 162] Try.func118 rfl Try.ntmps118 kL (sat1 hb) ?_
 refine g0 ?_
 refine gN fun b1 hb1 => ?_
 refine g0 ?_
 refine gD 7 ?_
 refine lA ([1] ++ [0]) 0 ?_
 refine lE ?_
 refine gA [] 1 ?_
 refine gR (Value.int IntKind.i64 0) fun w' hs => ?_
 exact ⟨rfl, hs.kk⟩
theorem of_hanging_9 (n : Nod) (b : Nat) (w : World) (hb : w.heap[b]? = some (.cells hangingL.toArray 162 (0, 0))) : Calls Try.prog 118 #[.pointer (some ⟨b, 0, none⟩), nodV { n with kind := 9 }] w fun e w' => e = .returned (.int .i64 (0)) ∧ Kept w w' := by
 refine g_enter (args := [.pointer (some ⟨b, 0, none⟩), nodV { n with kind := 9 }]) [] [.obj false b hangingL 162] Try.func118 rfl Try.ntmps118 kL (sat1 hb) ?_
 refine g0 ?_
 refine gN fun b1 hb1 => ?_
 refine g0 ?_
 refine gD 7 ?_
 refine lA ([1] ++ [0]) 0 ?_
 refine lE ?_
 refine gA [] 1 ?_
 refine gR (Value.int IntKind.i64 0) fun w' hs => ?_
 exact ⟨rfl, hs.kk⟩
theorem of_hanging_10 (n : Nod) (b : Nat) (w : World) (hb : w.heap[b]? = some (.cells hangingL.toArray 162 (0, 0))) : Calls Try.prog 118 #[.pointer (some ⟨b, 0, none⟩), nodV { n with kind := 10 }] w fun e w' => e = .returned (.int .i64 (0)) ∧ Kept w w' := by
 refine g_enter (args := [.pointer (some ⟨b, 0, none⟩), nodV { n with kind := 10 }]) [] [.obj false b hangingL 162] Try.func118 rfl Try.ntmps118 kL (sat1 hb) ?_
 refine g0 ?_
 refine gN fun b1 hb1 => ?_
 refine g0 ?_
 refine gD 7 ?_
 refine lA ([1] ++ [0]) 0 ?_
 refine lE ?_
 refine gA [] 1 ?_
 refine gR (Value.int IntKind.i64 0) fun w' hs => ?_
 exact ⟨rfl, hs.kk⟩
theorem of_hanging_11 (n : Nod) (b : Nat) (w : World) (hb : w.heap[b]? = some (.cells hangingL.toArray 162 (0, 0))) : Calls Try.prog 118 #[.pointer (some ⟨b, 0, none⟩), nodV { n with kind := 11 }] w fun e w' => e = .returned (.int .i64 (0)) ∧ Kept w w' := by
 refine g_enter (args := [.pointer (some ⟨b, 0, none⟩), nodV { n with kind := 11 }]) [] [.obj false b hangingL 162] Try.func118 rfl Try.ntmps118 kL (sat1 hb) ?_
 refine g0 ?_
 refine gN fun b1 hb1 => ?_
 refine g0 ?_
 refine gD 7 ?_
 refine lA ([1] ++ [0]) 0 ?_
 refine lE ?_
 refine gA [] 1 ?_
 refine gR (Value.int IntKind.i64 0) fun w' hs => ?_
 exact ⟨rfl, hs.kk⟩
theorem of_hanging_12 (n : Nod) (b : Nat) (w : World) (hb : w.heap[b]? = some (.cells hangingL.toArray 162 (0, 0))) : Calls Try.prog 118 #[.pointer (some ⟨b, 0, none⟩), nodV { n with kind := 12 }] w fun e w' => e = .returned (.int .i64 (0)) ∧ Kept w w' := by
 refine g_enter (args := [.pointer (some ⟨b, 0, none⟩), nodV { n with kind := 12 }]) [] [.obj false b hangingL 162] Try.func118 rfl Try.ntmps118 kL (sat1 hb) ?_
 refine g0 ?_
 refine gN fun b1 hb1 => ?_
 refine g0 ?_
 refine gD 7 ?_
 refine lA ([1] ++ [0]) 0 ?_
 refine lE ?_
 refine gA [] 1 ?_
 refine gR (Value.int IntKind.i64 0) fun w' hs => ?_
 exact ⟨rfl, hs.kk⟩
theorem of_hanging_13 (n : Nod) (b : Nat) (w : World) (hb : w.heap[b]? = some (.cells hangingL.toArray 162 (0, 0))) : Calls Try.prog 118 #[.pointer (some ⟨b, 0, none⟩), nodV { n with kind := 13 }] w fun e w' => e = .returned (.int .i64 (0)) ∧ Kept w w' := by
 refine g_enter (args := [.pointer (some ⟨b, 0, none⟩), nodV { n with kind := 13 }]) [] [.obj false b hangingL 162] Try.func118 rfl Try.ntmps118 kL (sat1 hb) ?_
 refine g0 ?_
 refine gN fun b1 hb1 => ?_
 refine g0 ?_
 refine gD 7 ?_
 refine lA ([1] ++ [0]) 0 ?_
 refine lE ?_
 refine gA [] 1 ?_
 refine gR (Value.int IntKind.i64 0) fun w' hs => ?_
 exact ⟨rfl, hs.kk⟩
theorem of_hanging_14 (n : Nod) (b : Nat) (w : World) (hb : w.heap[b]? = some (.cells hangingL.toArray 162 (0, 0))) : Calls Try.prog 118 #[.pointer (some ⟨b, 0, none⟩), nodV { n with kind := 14 }] w fun e w' => e = .returned (.int .i64 (0)) ∧ Kept w w' := by
 refine g_enter (args := [.pointer (some ⟨b, 0, none⟩), nodV { n with kind := 14 }]) [] [.obj false b hangingL 162] Try.func118 rfl Try.ntmps118 kL (sat1 hb) ?_
 refine g0 ?_
 refine gN fun b1 hb1 => ?_
 refine g0 ?_
 refine gD 7 ?_
 refine lA ([1] ++ [0]) 0 ?_
 refine lE ?_
 refine gA [] 1 ?_
 refine gR (Value.int IntKind.i64 0) fun w' hs => ?_
 exact ⟨rfl, hs.kk⟩
theorem of_hanging_15 (n : Nod) (b : Nat) (w : World) (hb : w.heap[b]? = some (.cells hangingL.toArray 162 (0, 0))) : Calls Try.prog 118 #[.pointer (some ⟨b, 0, none⟩), nodV { n with kind := 15 }] w fun e w' => e = .returned (.int .i64 (0)) ∧ Kept w w' := by
 refine g_enter (args := [.pointer (some ⟨b, 0, none⟩), nodV { n with kind := 15 }]) [] [.obj false b hangingL 162] Try.func118 rfl Try.ntmps118 kL (sat1 hb) ?_
 refine g0 ?_
 refine gN fun b1 hb1 => ?_
 refine g0 ?_
 refine gD 7 ?_
 refine lA ([1] ++ [0]) 0 ?_
 refine lE ?_
 refine gA [] 1 ?_
 refine gR (Value.int IntKind.i64 0) fun w' hs => ?_
 exact ⟨rfl, hs.kk⟩
theorem of_hanging_16 (n : Nod) (b : Nat) (w : World) (hb : w.heap[b]? = some (.cells hangingL.toArray 162 (0, 0))) : Calls Try.prog 118 #[.pointer (some ⟨b, 0, none⟩), nodV { n with kind := 16 }] w fun e w' => e = .returned (.int .i64 (0)) ∧ Kept w w' := by
 refine g_enter (args := [.pointer (some ⟨b, 0, none⟩), nodV { n with kind := 16 }]) [] [.obj false b hangingL 162] Try.func118 rfl Try.ntmps118 kL (sat1 hb) ?_
 refine g0 ?_
 refine gN fun b1 hb1 => ?_
 refine g0 ?_
 refine gD 7 ?_
 refine lA ([1] ++ [0]) 0 ?_
 refine lE ?_
 refine gA [] 1 ?_
 refine gR (Value.int IntKind.i64 0) fun w' hs => ?_
 exact ⟨rfl, hs.kk⟩
theorem of_hanging_17 (n : Nod) (b : Nat) (w : World) (hb : w.heap[b]? = some (.cells hangingL.toArray 162 (0, 0))) : Calls Try.prog 118 #[.pointer (some ⟨b, 0, none⟩), nodV { n with kind := 17 }] w fun e w' => e = .returned (.int .i64 (0)) ∧ Kept w w' := by
 refine g_enter (args := [.pointer (some ⟨b, 0, none⟩), nodV { n with kind := 17 }]) [] [.obj false b hangingL 162] Try.func118 rfl Try.ntmps118 kL (sat1 hb) ?_
 refine g0 ?_
 refine gN fun b1 hb1 => ?_
 refine g0 ?_
 refine gD 7 ?_
 refine lA ([1] ++ [0]) 0 ?_
 refine lE ?_
 refine gA [] 1 ?_
 refine gR (Value.int IntKind.i64 0) fun w' hs => ?_
 exact ⟨rfl, hs.kk⟩
theorem of_hanging_any (n : Nod) (h1 : 1 ≤ n.kind) (h2 : n.kind ≤ 17) (b : Nat) (w : World) (hb : w.heap[b]? = some (.cells hangingL.toArray 162 (0, 0))) : Calls Try.prog 118 #[.pointer (some ⟨b, 0, none⟩), nodV n] w fun e w' => e = .returned (.int .i64 (hangingV n)) ∧ Kept w w' := by
 rcases kinds_of h1 h2 with h | h | h | h | h | h | h | h | h | h | h | h | h | h | h | h | h
 ·have := of_hanging_1 n b w hb
  rw [kind_eq h] at this
  simpa [hangingV, h] using this
 ·have := of_hanging_2 n b w hb
  rw [kind_eq h] at this
  simpa [hangingV, h] using this
 ·have := of_hanging_3 n b w hb
  rw [kind_eq h] at this
  simpa [hangingV, h] using this
 ·have := of_hanging_4 n b w hb
  rw [kind_eq h] at this
  simpa [hangingV, h] using this
 ·have := of_hanging_5 n b w hb
  rw [kind_eq h] at this
  simpa [hangingV, h] using this
 ·have := of_hanging_6 n b w hb
  rw [kind_eq h] at this
  simpa [hangingV, h] using this
 ·have := of_hanging_7 n b w hb
  rw [kind_eq h] at this
  simpa [hangingV, h] using this
 ·have := of_hanging_8 n b w hb
  rw [kind_eq h] at this
  simpa [hangingV, h] using this
 ·have := of_hanging_9 n b w hb
  rw [kind_eq h] at this
  simpa [hangingV, h] using this
 ·have := of_hanging_10 n b w hb
  rw [kind_eq h] at this
  simpa [hangingV, h] using this
 ·have := of_hanging_11 n b w hb
  rw [kind_eq h] at this
  simpa [hangingV, h] using this
 ·have := of_hanging_12 n b w hb
  rw [kind_eq h] at this
  simpa [hangingV, h] using this
 ·have := of_hanging_13 n b w hb
  rw [kind_eq h] at this
  simpa [hangingV, h] using this
 ·have := of_hanging_14 n b w hb
  rw [kind_eq h] at this
  simpa [hangingV, h] using this
 ·have := of_hanging_15 n b w hb
  rw [kind_eq h] at this
  simpa [hangingV, h] using this
 ·have := of_hanging_16 n b w hb
  rw [kind_eq h] at this
  simpa [hangingV, h] using this
 have := of_hanging_17 n b w hb
 rw [kind_eq h] at this
 simpa [hangingV, h] using this
end Go.Proofs.Ytcncfmjfgdbfeaa
