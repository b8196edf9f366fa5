/- NodEz NodSl Fast17 NodSa. -/
import Derived.Test.YtcncfmjfgdbfeaaNodEy
import Derived.Test.YtcncfmjfgdbfeaaM35
import Derived.Test.YtcncfmjfgdbfeaaNodRo
import Derived.Test.YtcncfmjfgdbfeaaFast16
namespace Go.Proofs.Ytcncfmjfgdbfeaa
set_option maxRecDepth 100000
set_option maxHeartbeats 4000000
open Go.RowKit
def exA (d : Bool) (l : List Nod) (W : Wk) : Int := bif d then (colN l W).foldl (mxS acrossV) 0 else (rowN l W).foldl (mxS aboveV) 0
def exB (d : Bool) (l : List Nod) (W : Wk) : Int := bif d then (colN l W).foldl (lastS hangingV) 0 else (rowN l W).foldl (mxS belowV) 0
def IsIt (F : FuncId) (cs : List Value) (v : Value) (w : World) : Prop := ∃ x, v = .func (.func F) #[] #[.pointer (some ⟨x, 0, none⟩)] ∧ w.heap[x]? = some (.cells cs.toArray 141 (0, 0))
theorem IsIt.kept {F : FuncId} {cs : List Value} {v : Value} {w w' : World} (h : IsIt F cs v w) (k : Kept w w') : IsIt F cs v w' := by
 obtain ⟨x, h1, h2⟩ := h
 refine ⟨x, h1, ?_⟩
 rw [k.block x (Array.getElem?_eq_some_iff.1 h2).1]
 exact h2
theorem Sat.plus {w : World} {hp : List HE} {x : Nat} {cs : List Value} {T : TypeId} (h : Sat w [] hp w) (hn : ∀ e ∈ hp, e.own = false) (hx : w.heap[x]? = some (.cells cs.toArray T (0, 0))) : Sat w [] (hp ++ [.obj false x cs T]) w := by
 refine ⟨.refl _ _, fun e he => ?_, fun i j e e' _ hi _ ho => ?_⟩
 ·rcases List.mem_append.1 he with he | he
  ·exact h.holds e he
  rw [List.mem_singleton.1 he]
  exact ⟨hx, fun h => by cases h⟩
 rcases List.mem_append.1 (List.mem_of_getElem? hi) with q | q
 ·rw [hn e q] at ho; cases ho
 rw [List.mem_singleton.1 q] at ho; cases ho
theorem kept_obj {w w' : World} {x : Nat} {cs : List Value} {T : TypeId} (h : Sat w [] [.obj true x cs T] w') : Kept w w' ∧ w'.heap[x]? = some (.cells cs.toArray T (0, 0)) := ⟨h.kept.kept, h.obj (i := 0) (o := true) rfl⟩
theorem ext_big {a b : Int} (h : decide (mx a b > 1073741823) = true) : Ending.returned (.tuple #[.int .i64 0, .int .i64 0, .int .i64 20]) = Ending.returned (.tuple (bif decide (mx a b > 1073741823) then #[.int .i64 0, .int .i64 0, .int .i64 20] else #[.int .i64 a, .int .i64 b, .int .i64 0])) := by rw [h]; rfl
theorem ext_ok {a b : Int} (h : decide (mx a b > 1073741823) = false) : Ending.returned (.tuple #[.int .i64 a, .int .i64 b, .int .i64 0]) = Ending.returned (.tuple (bif decide (mx a b > 1073741823) then #[.int .i64 0, .int .i64 0, .int .i64 20] else #[.int .i64 a, .int .i64 b, .int .i64 0])) := by rw [h]; rfl
def WextDown (cs : List Value) (a b : Int) : VP := fun s v w => match s with
 | 17 => v = .agg cs.toArray
 | 18 => IsIt 121 cs v w
 | 19 => v = .agg acrossL.toArray
 | 20 => v = .int .i64 a
 | 21 => v = .agg cs.toArray
 | 22 => IsIt 121 cs v w
 | 23 => v = .agg hangingL.toArray
 | 24 => v = .int .i64 b
 | 4 => v = .int .i64 a
 | 5 => v = .int .i64 b
 | _ => True
theorem WextDown_kept (cs : List Value) (a b : Int) : ∀ s v w w', WextDown cs a b s v w → Kept w w' → WextDown cs a b s v w' := by
 intro s v w w' h k
 revert h
 unfold WextDown
 split <;> intro h <;> first | exact h | exact h.kept k
theorem extDown (l : List Nod) (bl ol cl : Nat) (W : Wk) (hG : Good l W) (a b : Int) (ha : (colN l W).foldl (mxS acrossV) 0 = a) (hb : (colN l W).foldl (lastS hangingV) 0 = b) (w : World) (hq : Sat w [] [.row bl ol 19 l.length (rowOf l)] w) :
  Calls Try.prog 42 #[.slice (some ⟨bl, ol, none⟩) l.length cl, .bool true] w fun e w' => e = .returned (.tuple (bif decide (mx a b > 1073741823) then #[.int .i64 0, .int .i64 0, .int .i64 20] else #[.int .i64 a, .int .i64 b, .int .i64 0])) ∧ Kept w w' := by
 have hrt := fun k hk => hG.right k hk
 refine g_enter (args := [.slice (some ⟨bl, ol, none⟩) l.length cl, .bool true]) [] [.row bl ol 19 l.length (rowOf l)] Try.func42 rfl Try.ntmps42 kL hq ?_
 refine g0 ?_
 refine g_call (X := Nat) _ _ ?_ (fun bb => .tuple #[.agg #[.slice (some ⟨bl, ol, none⟩) l.length cl, .slice (some ⟨bb, 0, none⟩) l.length l.length], .int .i64 0]) (fun bb => [.row bl ol 19 l.length (rowOf l)] ++ [.obj true bb (behC W.beh) 3])
  (fun w1 hs => (outline_ok l bl ol cl w1 (hs.read [0] [.row bl ol 19 l.length (rowOf l)] kR) W hG.le hG.whole hG.walk hG.d).mono fun e w2 ⟨bb, h1, h2, h3, h4⟩ => ⟨bb, h1, (Sat.at hs kR).more (Sat.one h4 h2 h3) (by simp [HE.own])⟩) (fun bb => ?_)
 ·kernel_rfl
 refine g0 ?_
 refine gN fun b2 hb2 => ?_
 refine gA ([2, 2]) 2 ?_
 refine g_drawU 10 (WextDown [.slice (some ⟨bl, ol, none⟩) l.length cl, .slice (some ⟨bb, 0, none⟩) l.length l.length] a b) [(4, .int .i64 a), (5, .int .i64 b)] [.row bl ol 19 l.length (rowOf l), .obj true bb (behC W.beh) 3, .obj true b2 [.slice (some ⟨bl, ol, none⟩) l.length cl, .slice (some ⟨bb, 0, none⟩) l.length l.length] 141] kR kR kR (WextDown_kept _ a b) kR ⟨fun u w h => h, fun u w h => h, trivial⟩ kR ⟨⟨⟨⟨⟨⟨⟨⟨⟨⟨trivial, ?o0⟩, ?o1⟩, ?o2⟩, ?o3⟩, ?o4⟩, ?o5⟩, ?o6⟩, ?o7⟩, ?o8⟩, ?o9⟩ ?_
 case o0 =>
  exact aVal1 17 [(7, some (.pointer (some ⟨b2, 0, none⟩)))] [2, 2] kR kR kR kR fun w hs => ⟨.agg #[.slice (some ⟨bl, ol, none⟩) l.length cl, .slice (some ⟨bb, 0, none⟩) l.length l.length], by kernel_rfl, by kernel_rfl, rfl⟩
 case o1 =>
  exact aCall1 18 [(17, none)] kR kR kR kR fun w hs v hv => by
   obtain rfl := (show v = .agg #[.slice (some ⟨bl, ol, none⟩) l.length cl, .slice (some ⟨bb, 0, none⟩) l.length l.length] from hv)
   exact ⟨78, #[.agg #[.slice (some ⟨bl, ol, none⟩) l.length cl, .slice (some ⟨bb, 0, none⟩) l.length l.length]], by kernel_rfl, (column_any _ _ _ _ _ _ w).mono fun e w' ⟨x, he, hx⟩ => ⟨_, he, (kept_obj hx).1, x, rfl, (kept_obj hx).2⟩⟩
 case o2 =>
  exact aCall1 19 [] kR kR kR kR fun w hs => ⟨83, #[], by kernel_rfl, (across_run w).mono fun e w' ⟨he, hk⟩ => ⟨_, he, hk, rfl⟩⟩
 case o3 =>
  exact aCall1 20 [(18, none), (19, none)] kR kR kR kR fun w hs v hv v2 hv2 => by
   obtain ⟨x, rfl, hx⟩ := (show IsIt 121 [.slice (some ⟨bl, ol, none⟩) l.length cl, .slice (some ⟨bb, 0, none⟩) l.length l.length] v w from hv)
   obtain rfl := (show v2 = .agg acrossL.toArray from hv2)
   exact ⟨82, #[.func (.func 121) #[] #[.pointer (some ⟨x, 0, none⟩)], .agg acrossL.toArray], by kernel_rfl, (greatestCol_across l W hG a ha hrt bl ol cl bb x w (((hs.read [0, 1] [.row bl ol 19 l.length (rowOf l), .obj false bb (behC W.beh) 3] kR).plus (by simp [HE.own]) hx).at' rfl)).mono fun e w' ⟨he, hk⟩ => ⟨_, he, hk, rfl⟩⟩
 case o4 =>
  exact aVal1 21 [(7, some (.pointer (some ⟨b2, 0, none⟩)))] [2, 2] kR kR kR kR fun w hs => ⟨.agg #[.slice (some ⟨bl, ol, none⟩) l.length cl, .slice (some ⟨bb, 0, none⟩) l.length l.length], by kernel_rfl, by kernel_rfl, rfl⟩
 case o5 =>
  exact aCall1 22 [(21, none)] kR kR kR kR fun w hs v hv => by
   obtain rfl := (show v = .agg #[.slice (some ⟨bl, ol, none⟩) l.length cl, .slice (some ⟨bb, 0, none⟩) l.length l.length] from hv)
   exact ⟨78, #[.agg #[.slice (some ⟨bl, ol, none⟩) l.length cl, .slice (some ⟨bb, 0, none⟩) l.length l.length]], by kernel_rfl, (column_any _ _ _ _ _ _ w).mono fun e w' ⟨x, he, hx⟩ => ⟨_, he, (kept_obj hx).1, x, rfl, (kept_obj hx).2⟩⟩
 case o6 =>
  exact aCall1 23 [] kR kR kR kR fun w hs => ⟨85, #[], by kernel_rfl, (hanging_run w).mono fun e w' ⟨he, hk⟩ => ⟨_, he, hk, rfl⟩⟩
 case o7 =>
  exact aCall1 24 [(22, none), (23, none)] kR kR kR kR fun w hs v hv v2 hv2 => by
   obtain ⟨x, rfl, hx⟩ := (show IsIt 121 [.slice (some ⟨bl, ol, none⟩) l.length cl, .slice (some ⟨bb, 0, none⟩) l.length l.length] v w from hv)
   obtain rfl := (show v2 = .agg hangingL.toArray from hv2)
   exact ⟨84, #[.func (.func 121) #[] #[.pointer (some ⟨x, 0, none⟩)], .agg hangingL.toArray], by kernel_rfl, (lastCol_hanging l W hG b hb hrt bl ol cl bb x w (((hs.read [0, 1] [.row bl ol 19 l.length (rowOf l), .obj false bb (behC W.beh) 3] kR).plus (by simp [HE.own]) hx).at' rfl)).mono fun e w' ⟨he, hk⟩ => ⟨_, he, hk, rfl⟩⟩
 case o8 =>
  exact aVal1 4 [(20, none)] [] kR kR kR kR fun w hs v hv => by
   obtain rfl := (show v = .int .i64 a from hv)
   exact ⟨.int .i64 a, by kernel_rfl, by kernel_rfl, rfl⟩
 case o9 =>
  exact aVal1 5 [(24, none)] [] kR kR kR kR fun w hs v hv => by
   obtain rfl := (show v = .int .i64 b from hv)
   exact ⟨.int .i64 b, by kernel_rfl, by kernel_rfl, rfl⟩
 refine g0 ?_
 refine g_dec 36 (decide ((if b > a then b else a) > 1073741823)) kR (fun h36 => ?_) (fun h36 => ?_)
 ·refine gA [] 1 ?_
  refine gR (Value.tuple (Array.mk [Value.int IntKind.i64 0, Value.int IntKind.i64 0, Value.int IntKind.i64 20])) fun w' hs => ?_
  first | exact ⟨ext_big h36, hs.kk⟩ | exact ⟨ext_ok h36, hs.kk⟩
 refine gA [] 1 ?_
 refine gR (Value.tuple (Array.mk [Value.int IntKind.i64 a, Value.int IntKind.i64 b, Value.int IntKind.i64 0])) fun w' hs => ?_
 first | exact ⟨ext_big h36, hs.kk⟩ | exact ⟨ext_ok h36, hs.kk⟩
def WextAcross (cs : List Value) (a b : Int) : VP := fun s v w => match s with
 | 25 => v = .agg cs.toArray
 | 26 => IsIt 125 cs v w
 | 27 => v = .agg aboveL.toArray
 | 28 => v = .int .i64 a
 | 29 => v = .agg cs.toArray
 | 30 => IsIt 125 cs v w
 | 31 => v = .agg belowL.toArray
 | 32 => v = .int .i64 b
 | 4 => v = .int .i64 a
 | 5 => v = .int .i64 b
 | _ => True
theorem WextAcross_kept (cs : List Value) (a b : Int) : ∀ s v w w', WextAcross cs a b s v w → Kept w w' → WextAcross cs a b s v w' := by
 intro s v w w' h k
 revert h
 unfold WextAcross
 split <;> intro h <;> first | exact h | exact h.kept k
theorem extAcross (l : List Nod) (bl ol cl : Nat) (W : Wk) (hG : Good l W) (a b : Int) (ha : (rowN l W).foldl (mxS aboveV) 0 = a) (hb : (rowN l W).foldl (mxS belowV) 0 = b) (w : World) (hq : Sat w [] [.row bl ol 19 l.length (rowOf l)] w) :
  Calls Try.prog 42 #[.slice (some ⟨bl, ol, none⟩) l.length cl, .bool false] w fun e w' => e = .returned (.tuple (bif decide (mx a b > 1073741823) then #[.int .i64 0, .int .i64 0, .int .i64 20] else #[.int .i64 a, .int .i64 b, .int .i64 0])) ∧ Kept w w' := by
 have hrt := fun k hk => hG.right k hk
 refine g_enter (args := [.slice (some ⟨bl, ol, none⟩) l.length cl, .bool false]) [] [.row bl ol 19 l.length (rowOf l)] Try.func42 rfl Try.ntmps42 kL hq ?_
 refine g0 ?_
 refine g_call (X := Nat) _ _ ?_ (fun bb => .tuple #[.agg #[.slice (some ⟨bl, ol, none⟩) l.length cl, .slice (some ⟨bb, 0, none⟩) l.length l.length], .int .i64 0]) (fun bb => [.row bl ol 19 l.length (rowOf l)] ++ [.obj true bb (behC W.beh) 3])
  (fun w1 hs => (outline_ok l bl ol cl w1 (hs.read [0] [.row bl ol 19 l.length (rowOf l)] kR) W hG.le hG.whole hG.walk hG.d).mono fun e w2 ⟨bb, h1, h2, h3, h4⟩ => ⟨bb, h1, (Sat.at hs kR).more (Sat.one h4 h2 h3) (by simp [HE.own])⟩) (fun bb => ?_)
 ·kernel_rfl
 refine g0 ?_
 refine gN fun b2 hb2 => ?_
 refine gA ([2, 2]) 2 ?_
 refine g_drawU 10 (WextAcross [.slice (some ⟨bl, ol, none⟩) l.length cl, .slice (some ⟨bb, 0, none⟩) l.length l.length] a b) [(4, .int .i64 a), (5, .int .i64 b)] [.row bl ol 19 l.length (rowOf l), .obj true bb (behC W.beh) 3, .obj true b2 [.slice (some ⟨bl, ol, none⟩) l.length cl, .slice (some ⟨bb, 0, none⟩) l.length l.length] 141] kR kR kR (WextAcross_kept _ a b) kR ⟨fun u w h => h, fun u w h => h, trivial⟩ kR ⟨⟨⟨⟨⟨⟨⟨⟨⟨⟨trivial, ?o0⟩, ?o1⟩, ?o2⟩, ?o3⟩, ?o4⟩, ?o5⟩, ?o6⟩, ?o7⟩, ?o8⟩, ?o9⟩ ?_
 case o0 =>
  exact aVal1 25 [(7, some (.pointer (some ⟨b2, 0, none⟩)))] [2, 2] kR kR kR kR fun w hs => ⟨.agg #[.slice (some ⟨bl, ol, none⟩) l.length cl, .slice (some ⟨bb, 0, none⟩) l.length l.length], by kernel_rfl, by kernel_rfl, rfl⟩
 case o1 =>
  exact aCall1 26 [(25, none)] kR kR kR kR fun w hs v hv => by
   obtain rfl := (show v = .agg #[.slice (some ⟨bl, ol, none⟩) l.length cl, .slice (some ⟨bb, 0, none⟩) l.length l.length] from hv)
   exact ⟨80, #[.agg #[.slice (some ⟨bl, ol, none⟩) l.length cl, .slice (some ⟨bb, 0, none⟩) l.length l.length]], by kernel_rfl, (row_any _ _ _ _ _ _ w).mono fun e w' ⟨x, he, hx⟩ => ⟨_, he, (kept_obj hx).1, x, rfl, (kept_obj hx).2⟩⟩
 case o2 =>
  exact aCall1 27 [] kR kR kR kR fun w hs => ⟨86, #[], by kernel_rfl, (above_run w).mono fun e w' ⟨he, hk⟩ => ⟨_, he, hk, rfl⟩⟩
 case o3 =>
  exact aCall1 28 [(26, none), (27, none)] kR kR kR kR fun w hs v hv v2 hv2 => by
   obtain ⟨x, rfl, hx⟩ := (show IsIt 125 [.slice (some ⟨bl, ol, none⟩) l.length cl, .slice (some ⟨bb, 0, none⟩) l.length l.length] v w from hv)
   obtain rfl := (show v2 = .agg aboveL.toArray from hv2)
   exact ⟨82, #[.func (.func 125) #[] #[.pointer (some ⟨x, 0, none⟩)], .agg aboveL.toArray], by kernel_rfl, (greatestRow_above l W hG a ha hrt bl ol cl bb x w (((hs.read [0, 1] [.row bl ol 19 l.length (rowOf l), .obj false bb (behC W.beh) 3] kR).plus (by simp [HE.own]) hx).at' rfl)).mono fun e w' ⟨he, hk⟩ => ⟨_, he, hk, rfl⟩⟩
 case o4 =>
  exact aVal1 29 [(7, some (.pointer (some ⟨b2, 0, none⟩)))] [2, 2] kR kR kR kR fun w hs => ⟨.agg #[.slice (some ⟨bl, ol, none⟩) l.length cl, .slice (some ⟨bb, 0, none⟩) l.length l.length], by kernel_rfl, by kernel_rfl, rfl⟩
 case o5 =>
  exact aCall1 30 [(29, none)] kR kR kR kR fun w hs v hv => by
   obtain rfl := (show v = .agg #[.slice (some ⟨bl, ol, none⟩) l.length cl, .slice (some ⟨bb, 0, none⟩) l.length l.length] from hv)
   exact ⟨80, #[.agg #[.slice (some ⟨bl, ol, none⟩) l.length cl, .slice (some ⟨bb, 0, none⟩) l.length l.length]], by kernel_rfl, (row_any _ _ _ _ _ _ w).mono fun e w' ⟨x, he, hx⟩ => ⟨_, he, (kept_obj hx).1, x, rfl, (kept_obj hx).2⟩⟩
 case o6 =>
  exact aCall1 31 [] kR kR kR kR fun w hs => ⟨87, #[], by kernel_rfl, (below_run w).mono fun e w' ⟨he, hk⟩ => ⟨_, he, hk, rfl⟩⟩
 case o7 =>
  exact aCall1 32 [(30, none), (31, none)] kR kR kR kR fun w hs v hv v2 hv2 => by
   obtain ⟨x, rfl, hx⟩ := (show IsIt 125 [.slice (some ⟨bl, ol, none⟩) l.length cl, .slice (some ⟨bb, 0, none⟩) l.length l.length] v w from hv)
   obtain rfl := (show v2 = .agg belowL.toArray from hv2)
   exact ⟨82, #[.func (.func 125) #[] #[.pointer (some ⟨x, 0, none⟩)], .agg belowL.toArray], by kernel_rfl, (greatestRow_below l W hG b hb hrt bl ol cl bb x w (((hs.read [0, 1] [.row bl ol 19 l.length (rowOf l), .obj false bb (behC W.beh) 3] kR).plus (by simp [HE.own]) hx).at' rfl)).mono fun e w' ⟨he, hk⟩ => ⟨_, he, hk, rfl⟩⟩
 case o8 =>
  exact aVal1 4 [(28, none)] [] kR kR kR kR fun w hs v hv => by
   obtain rfl := (show v = .int .i64 a from hv)
   exact ⟨.int .i64 a, by kernel_rfl, by kernel_rfl, rfl⟩
 case o9 =>
  exact aVal1 5 [(32, none)] [] kR kR kR kR fun w hs v hv => by
   obtain rfl := (show v = .int .i64 b from hv)
   exact ⟨.int .i64 b, by kernel_rfl, by kernel_rfl, rfl⟩
 refine g0 ?_
 refine g_dec 36 (decide ((if b > a then b else a) > 1073741823)) kR (fun h36 => ?_) (fun h36 => ?_)
 ·refine gA [] 1 ?_
  refine gR (Value.tuple (Array.mk [Value.int IntKind.i64 0, Value.int IntKind.i64 0, Value.int IntKind.i64 20])) fun w' hs => ?_
  first | exact ⟨ext_big h36, hs.kk⟩ | exact ⟨ext_ok h36, hs.kk⟩
 refine gA [] 1 ?_
 refine gR (Value.tuple (Array.mk [Value.int IntKind.i64 a, Value.int IntKind.i64 b, Value.int IntKind.i64 0])) fun w' hs => ?_
 first | exact ⟨ext_big h36, hs.kk⟩ | exact ⟨ext_ok h36, hs.kk⟩
end Go.Proofs.Ytcncfmjfgdbfeaa
namespace Go.Proofs.Ytcncfmjfgdbfeaa
open Go.RowKit
theorem seg_seg {l : List Nod} {s e a b : Nat} (hb : b ≤ e - s) : seg (seg l s e) a b = seg l (s + a) (s + b) := by
 unfold seg
 rw [List.drop_take, List.take_take, List.drop_drop]
 congr 1
 omega
theorem bal_seg {l : List Nod} {s e a b : Nat} (hb : b ≤ e - s) (_he : e ≤ l.length) : balS (seg l s e) a b = balS l (s + a) (s + b) := by
 unfold balS
 rw [seg_seg hb]
theorem Itm.of_seg {l : List Nod} {s e k r : Nat} (he : e ≤ l.length) (hse : s ≤ e) (h : Itm (seg l s e) k r) : Itm l (s + k) (s + r) := by
 have hl := h.le
 rw [seg_len he] at hl
 have h1 := h.lt
 refine ⟨by omega, by omega, by rw [← bal_seg (by omega) he]; exact h.zero, fun j h2 h3 => ?_⟩
 have h4 := h.pos (j - s) (by omega) (by omega)
 rw [bal_seg (by omega) he, show s + (j - s) = j by omega] at h4
 exact h4
theorem Itm.uniq {l : List Nod} {p e e' : Nat} (h : Itm l p e) (h' : Itm l p e') : e = e' := by
 have key : ∀ {a b : Nat}, Itm l p a → Itm l p b → a < b → False := fun {a b} ha hb hab => by
  have h1 := hb.pos a ha.lt hab
  rw [ha.zero] at h1
  omega
 rcases Nat.lt_trichotomy e e' with q | q | q
 ·exact absurd q fun q => key h h' q
 ·exact q
 exact absurd q fun q => key h' h q
section
variable {l : List Nod} {W V : Wk} {s e : Nat}
theorem sub_next (hG : Good l W) (hV : Good (seg l s e) V) (he : e ≤ l.length) (hse : s ≤ e) {k : Nat} (h1 : V.beh.getD k 0 ≠ 0) (h2 : W.beh.getD (s + k) 0 ≠ 0) : W.beh.getD (s + k) 0 = s + V.beh.getD k 0 :=
 Itm.uniq (hG.itm rfl h2) ((hV.itm rfl h1).of_seg he hse)
theorem sub_items (hG : Good l W) (hV : Good (seg l s e) V) (he : e ≤ l.length) (hse : s ≤ e) {n1 n2 : Nat} (h1 : e - s ≤ n1) (h2 : e ≤ n2) : ∀ d k, e - s - k ≤ d → Ch V.beh k (e - s) → Ch W.beh (s + k) e → (itemsF V.beh (e - s) n1 k).map (fun x => s + x) = itemsF W.beh e n2 (s + k) := by
 intro d
 induction d with
 | zero =>
  intro k hd _ _
  rw [items_end (by omega), items_end (by omega)]
  rfl
 | succ d ih =>
  intro k hd hc1 hc2
  by_cases hk : k < e - s
  ·obtain ⟨q1, _, q2, q3⟩ := items_unroll hc1 hk h1
   obtain ⟨r1, _, r2, r3⟩ := items_unroll hc2 (by omega) h2
   have hn := sub_next hG hV he hse (k := k) (by omega) (by omega)
   rw [q1, r1, List.map_cons, hn]
   rw [hn] at r3
   rw [ih _ (by omega) q3 r3]
  rw [items_end hk, items_end (by omega)]
  rfl
theorem sub_starts (hG : Good l W) (hV : Good (seg l s e) V) (he : e ≤ l.length) (hc : Ch W.beh s e) : (startsN (seg l s e) V).map (fun x => s + x) = itemsF W.beh e l.length s := by
 have hse := hc.le
 have hl := seg_len (a := s) he
 have hch := (good_ch hV.walk hV.os).1
 rw [hl] at hch
 unfold startsN
 rw [hl]
 exact sub_items hG hV he hse (Nat.le_refl _) he (e - s) 0 (by omega) hch hc
theorem sub_map (hG : Good l W) (hV : Good (seg l s e) V) (he : e ≤ l.length) (hc : Ch W.beh s e) : (startsN (seg l s e) V).map (nth (seg l s e)) = (itemsF W.beh e l.length s).map (nth l) := by
 rw [← sub_starts hG hV he hc, List.map_map]
 refine List.map_congr_left fun k hk => ?_
 have hch := good_ch hV.walk hV.os
 have := items_mem (f := (seg l s e).length) hch.1 (k := k) hk
 rw [hch.2, seg_len he] at this
 exact seg_nth this.1
end
section
variable {l : List Nod} {W : Wk} {p s1 s2 e : Nat}
theorem Dsc.part (d : Dsc l W p s1 s2 e) : partN l W.beh p = (itemsF W.beh e l.length (s2 + 1)).map (nth l) := by
 unfold partN hereF
 rw [if_pos d.kind, d.t.third]
theorem Dsc.broken (d : Dsc l W p s1 s2 e) : ∀ q ∈ itemsF W.beh e l.length (s2 + 1), brokenB (nth l q) = true := by
 have t := d.t
 have h := d.be
 have he : e = W.beh.getD p 0 - 1 := by omega
 subst he
 exact t.small d.good d.kind l.length
theorem Dsc.parts (d : Dsc l W p s1 s2 e) : ∀ n ∈ partN l W.beh p, brokenB n = true := by
 rw [d.part]
 intro n hn
 obtain ⟨q, hq, rfl⟩ := List.mem_map.1 hn
 exact d.broken q hq
theorem Dsc.sub (d : Dsc l W p s1 s2 e) : ∃ V, Good (seg l (s2 + 1) e) V ∧ (startsN (seg l (s2 + 1) e) V).map (nth (seg l (s2 + 1) e)) = partN l W.beh p := by
 have hl := d.lens
 obtain ⟨V, hV⟩ := d.good.chain d.t.h3 (by omega)
 exact ⟨V, hV, by rw [d.part]; exact sub_map d.good hV (by omega) d.t.h3⟩
end
theorem brok_kind {n : Nod} (h : brokenB n = true) : n.kind ≠ 7 ∧ n.kind ≠ 10 := by
 constructor <;> intro h' <;> simp [brokenB, h'] at h
/-! ### Row -/
theorem fold_row {y : List Nod} {v : Nod → Int} {fa : Nat → Int} : ∀ {ss : List Nat} {x : Int}, (∀ q ∈ ss, (nth y q).kind ≠ 10) → ss.foldl (rowS y v fa) x = (ss.map (nth y)).foldl (mxS v) x
 | [], _, _ => rfl
 | q :: r, x, h => by
  rw [List.foldl_cons, List.map_cons, List.foldl_cons, fold_row fun q hq => h q (List.mem_cons_of_mem _ hq)]
  unfold rowS
  rw [if_neg (h q (List.mem_cons_self ..))]
  rfl
theorem mx_max (a b : Int) : mx a b = max a b := by unfold mx; split <;> omega
theorem fold_mx {v : Nod → Int} : ∀ {ns : List Nod} {x : Int}, 0 ≤ x → mx x (ns.foldl (mxS v) 0) = ns.foldl (mxS v) x
 | [], x, h => by rw [List.foldl_nil, List.foldl_nil, mx_zero h]
 | n :: r, x, h => by
  rw [List.foldl_cons, List.foldl_cons, ← fold_mx (show 0 ≤ mxS v x n from mx_pos h), ← fold_mx (show 0 ≤ mxS v 0 n from mx_pos (Int.le_refl _))]
  simp only [mxS, mx_max]
  omega
theorem fold_pos {v : Nod → Int} : ∀ {ns : List Nod} {x : Int}, 0 ≤ x → 0 ≤ ns.foldl (mxS v) x
 | [], _, h => h
 | n :: r, x, h => by rw [List.foldl_cons]; exact fold_pos (mx_pos h)
theorem part_one {l : List Nod} {W : Wk} (hG : Good l W) {p : Nat} (hl : p < W.beh.length) (hp : p < W.beh.getD p 0) (h10 : (nth l p).kind ≠ 10) : partN l W.beh p = [nth l p] := by
 have hi := hG.items p (by omega)
 have h2 := hi.le
 unfold partN hereF
 rw [if_neg h10]
 obtain ⟨h, _⟩ := items_unroll (n := l.length) (Ch.step hl hp (.refl _)) hp h2
 rw [h, items_end (by simp)]
 rfl
theorem fold_rowN {l : List Nod} {W : Wk} (hG : Good l W) {v : Nod → Int} : ∀ {ss : List Nat} {x : Int}, (∀ q ∈ ss, q < W.beh.length ∧ q < W.beh.getD q 0) → 0 ≤ x → ss.foldl (rowS l v fun p => (partN l W.beh p).foldl (mxS v) 0) x = (ss.flatMap (partN l W.beh)).foldl (mxS v) x
 | [], _, _, _ => rfl
 | q :: r, x, h, hx => by
  have hq := h q (List.mem_cons_self ..)
  rw [List.foldl_cons, List.flatMap_cons, List.foldl_append]
  have e : rowS l v (fun p => (partN l W.beh p).foldl (mxS v) 0) x q = (partN l W.beh q).foldl (mxS v) x := by
   unfold rowS
   split
   ·exact fold_mx hx
   rename_i h10
   rw [part_one hG hq.1 hq.2 h10]
   rfl
  rw [e]
  exact fold_rowN hG (fun q hq => h q (List.mem_cons_of_mem _ hq)) (fold_pos hx)
theorem starts_ok {l : List Nod} {W : Wk} (hG : Good l W) : ∀ q ∈ startsN l W, q < W.beh.length ∧ q < W.beh.getD q 0 := fun q hq => by
 have hch := (good_ch hG.walk hG.os).1
 have := items_mem (f := l.length) hch (k := q) hq
 exact ⟨this.1, this.2.1⟩
theorem exA_row {l : List Nod} {W : Wk} (hG : Good l W) : (startsN l W).foldl (rowS l aboveV fun p => (partN l W.beh p).foldl (mxS aboveV) 0) 0 = exA false l W := fold_rowN hG (starts_ok hG) (Int.le_refl _)
theorem exB_row {l : List Nod} {W : Wk} (hG : Good l W) : (startsN l W).foldl (rowS l belowV fun p => (partN l W.beh p).foldl (mxS belowV) 0) 0 = exB false l W := fold_rowN hG (starts_ok hG) (Int.le_refl _)
theorem fold_col {l : List Nod} {f : Int → Nod → Int} : ∀ {ss : List Nat} {x : Int}, ss.foldl (fun x p => f x (nth l p)) x = (ss.map (nth l)).foldl f x
 | [], _ => rfl
 | q :: r, x => by rw [List.foldl_cons, List.map_cons, List.foldl_cons]; exact fold_col
theorem exA_col {l : List Nod} {W : Wk} : (startsN l W).foldl (fun x p => mxS acrossV x (nth l p)) 0 = exA true l W := fold_col
theorem exB_col {l : List Nod} {W : Wk} : (startsN l W).foldl (fun x p => lastS hangingV x (nth l p)) 0 = exB true l W := fold_col
end Go.Proofs.Ytcncfmjfgdbfeaa
namespace Go.Proofs.Ytcncfmjfgdbfeaa
open Go.RowKit
noncomputable section
variable {P : Program} {w0 : World} {bs : List Nat} {st : St}
def semAt (st : St) (i : Nat) (T : Tr) : Option (Sem Next) := match opAt st i with
 | some (ops, o) => match wanted? ops T o with
  | some true => opSem T o
  | _ => none
 | none => none
theorem aSem1 {h i : Nat} {W : VP} (d : Nat) (sl : List (Nat × Option Value)) (hdst : dstAt st i = some d) (hc : (outsA st h).contains d = true) (h1 : slotsOk st h i sl = true) (h2 : slotsEq st sl = slotsVal sl)
  (hk : ∀ w, Sat w0 bs st.hp w → AllL W w sl (fun T => ∃ s v, semAt st i T = some s ∧ s.run P w = .ok (.value v) w ∧ W d v w) .nil) : AAt P w0 bs st h W i := by
 refine ⟨fun ops o ho => ?_⟩
 simp only [slotsOk, Bool.and_eq_true, decide_eq_true_eq] at h1
 have hsl : slotsAt st i = slotsOf ops o := by unfold slotsAt; rw [ho]
 have hda : dstAt st i = o.dst := by unfold dstAt; rw [ho]; rfl
 refine AOp.of (sl.map Prod.fst) (hsl.symm.trans h1.1) fun w hC => ?_
 have hmono : ∀ (l : List (Nat × Option Value)) (T : Tr), AllL W w l (fun T => ∃ s v, semAt st i T = some s ∧ s.run P w = .ok (.value v) w ∧ W d v w) T → AllL W w l (ADo P ops (Sat w0 bs st.hp) (knownV st.t (outsA st h) W) o w) T := by
  intro l
  induction l with
  | nil =>
   rintro T ⟨s, v, he, hr, hv⟩
   unfold semAt at he
   rw [ho] at he
   simp only at he
   split at he
   ·rename_i hwn
    refine .inr ⟨hwn, s, he, .inl ⟨v, hr, fun d' hdd => ?_⟩⟩
    rw [← hda, hdst] at hdd
    obtain rfl := Option.some.inj hdd
    exact .inl ⟨hc, hv⟩
   cases he
  | cons p l ih =>
   obtain ⟨s, u⟩ := p
   cases u with
   | some u => exact fun T hl => ih _ hl
   | none => exact fun T hl v hv => ih _ (hl v hv)
 exact allL_allV h1.2 h2 (hmono sl .nil (hk w hC))
end
end Go.Proofs.Ytcncfmjfgdbfeaa
namespace Go.Proofs.Ytcncfmjfgdbfeaa
set_option maxRecDepth 100000
set_option maxHeartbeats 40000000
open Go.RowKit
def rAcrossV (n : Nod) : Int := if n.kind ∈ ([1, 2, 3, 4, 5, 8, 15, 16] : List Int) then n.w else if n.kind = 7 then n.nat else 0
def rAlongV (n : Nod) : Int := if n.kind ∈ ([3, 4, 5] : List Int) then wr n.h n.d else if n.kind = 8 then n.w else if n.kind = 7 then n.nat else 0
theorem eqk {n : Nod} {k : Int} (h : (n.kind == k) = true) : n.kind = k := eq_of_beq h
theorem nek {n : Nod} {k : Int} (h : (n.kind == k) = false) : n.kind ≠ k := by simpa using h
theorem ra_yes {n : Nod} {k : Int} (h : (n.kind == k) = true) (hk : k ∈ ([1, 2, 3, 4, 5, 8, 15, 16] : List Int)) : Ending.returned (.int .i64 n.w) = Ending.returned (.int .i64 (rAcrossV n)) := by
 unfold rAcrossV; rw [if_pos (by rw [eqk h]; exact hk)]
theorem ra_no {n : Nod} (h1 : (n.kind == 1) = false) (h2 : (n.kind == 2) = false) (h3 : (n.kind == 3) = false) (h4 : (n.kind == 4) = false) (h5 : (n.kind == 5) = false) (h8 : (n.kind == 8) = false) (h15 : (n.kind == 15) = false) (h16 : (n.kind == 16) = false) : n.kind ∉ ([1, 2, 3, 4, 5, 8, 15, 16] : List Int) := by
 have := nek h1; have := nek h2; have := nek h3; have := nek h4; have := nek h5; have := nek h8; have := nek h15; have := nek h16
 simp [*]
theorem ra_7 {n : Nod} (h : (n.kind == 7) = true) : Ending.returned (.int .i64 n.nat) = Ending.returned (.int .i64 (rAcrossV n)) := by
 unfold rAcrossV; rw [if_neg (by rw [eqk h]; decide), if_pos (eqk h)]
theorem ra_0 {n : Nod} (h : n.kind ∉ ([1, 2, 3, 4, 5, 8, 15, 16] : List Int)) (h7 : (n.kind == 7) = false) : Ending.returned (.int .i64 0) = Ending.returned (.int .i64 (rAcrossV n)) := by
 unfold rAcrossV; rw [if_neg h, if_neg (nek h7)]
theorem rl_yes {n : Nod} {k : Int} (h : (n.kind == k) = true) (hk : k ∈ ([3, 4, 5] : List Int)) : Ending.returned (.int .i64 (wr n.h n.d)) = Ending.returned (.int .i64 (rAlongV n)) := by
 unfold rAlongV; rw [if_pos (by rw [eqk h]; exact hk)]
theorem rl_no {n : Nod} (h3 : (n.kind == 3) = false) (h4 : (n.kind == 4) = false) (h5 : (n.kind == 5) = false) : n.kind ∉ ([3, 4, 5] : List Int) := by
 have := nek h3; have := nek h4; have := nek h5
 simp [*]
theorem rl_8 {n : Nod} (h : (n.kind == 8) = true) : Ending.returned (.int .i64 n.w) = Ending.returned (.int .i64 (rAlongV n)) := by
 unfold rAlongV; rw [if_neg (by rw [eqk h]; decide), if_pos (eqk h)]
theorem rl_7 {n : Nod} (h : (n.kind == 7) = true) : Ending.returned (.int .i64 n.nat) = Ending.returned (.int .i64 (rAlongV n)) := by
 unfold rAlongV; rw [if_neg (by rw [eqk h]; decide), if_neg (by rw [eqk h]; decide), if_pos (eqk h)]
theorem rl_0 {n : Nod} (h : n.kind ∉ ([3, 4, 5] : List Int)) (h8 : (n.kind == 8) = false) (h7 : (n.kind == 7) = false) : Ending.returned (.int .i64 0) = Ending.returned (.int .i64 (rAlongV n)) := by
 unfold rAlongV; rw [if_neg h, if_neg (nek h8), if_neg (nek h7)]
theorem racross_any (n : Nod) (w : World) : Calls Try.prog 133 #[nodV n] w fun e w' => e = .returned (.int .i64 (rAcrossV n)) ∧ Kept w w' := by
 refine g_enter (args := [nodV n]) [] [] Try.func133 rfl Try.ntmps133 kL (sat0 w) ?_
 refine g0 ?_
 refine gN fun b0 hb0 => ?_
 refine gA ([0]) 0 ?_
 refine g_dec 5 (n.kind == 1) kR (fun h5 => ?_) (fun h5 => ?_)
 ·refine gA ([0]) 2 ?_
  refine gR (Value.int IntKind.i64 n.w) fun w' hs => ?_
  first | exact ⟨ra_yes h5 (by decide), hs.kk⟩ | exact ⟨ra_7 h16, hs.kk⟩ | exact ⟨ra_0 (ra_no (by assumption) (by assumption) (by assumption) (by assumption) (by assumption) (by assumption) (by assumption) (by assumption)) h16, hs.kk⟩
 refine gA [] 1 ?_
 refine g_dec 5 (n.kind == 2) kR (fun h5 => ?_) (fun h5 => ?_)
 ·refine gA ([0]) 2 ?_
  refine gR (Value.int IntKind.i64 n.w) fun w' hs => ?_
  first | exact ⟨ra_yes h5 (by decide), hs.kk⟩ | exact ⟨ra_7 h16, hs.kk⟩ | exact ⟨ra_0 (ra_no (by assumption) (by assumption) (by assumption) (by assumption) (by assumption) (by assumption) (by assumption) (by assumption)) h16, hs.kk⟩
 refine gA [] 1 ?_
 refine g_dec 5 (n.kind == 3) kR (fun h5 => ?_) (fun h5 => ?_)
 ·refine gA ([0]) 2 ?_
  refine gR (Value.int IntKind.i64 n.w) fun w' hs => ?_
  first | exact ⟨ra_yes h5 (by decide), hs.kk⟩ | exact ⟨ra_7 h16, hs.kk⟩ | exact ⟨ra_0 (ra_no (by assumption) (by assumption) (by assumption) (by assumption) (by assumption) (by assumption) (by assumption) (by assumption)) h16, hs.kk⟩
 refine gA [] 1 ?_
 refine g_dec 5 (n.kind == 4) kR (fun h5 => ?_) (fun h5 => ?_)
 ·refine gA ([0]) 2 ?_
  refine gR (Value.int IntKind.i64 n.w) fun w' hs => ?_
  first | exact ⟨ra_yes h5 (by decide), hs.kk⟩ | exact ⟨ra_7 h16, hs.kk⟩ | exact ⟨ra_0 (ra_no (by assumption) (by assumption) (by assumption) (by assumption) (by assumption) (by assumption) (by assumption) (by assumption)) h16, hs.kk⟩
 refine gA [] 1 ?_
 refine g_dec 5 (n.kind == 5) kR (fun h5 => ?_) (fun h5 => ?_)
 ·refine gA ([0]) 2 ?_
  refine gR (Value.int IntKind.i64 n.w) fun w' hs => ?_
  first | exact ⟨ra_yes h5 (by decide), hs.kk⟩ | exact ⟨ra_7 h16, hs.kk⟩ | exact ⟨ra_0 (ra_no (by assumption) (by assumption) (by assumption) (by assumption) (by assumption) (by assumption) (by assumption) (by assumption)) h16, hs.kk⟩
 refine gA [] 1 ?_
 refine g_dec 5 (n.kind == 8) kR (fun h5 => ?_) (fun h5 => ?_)
 ·refine gA ([0]) 2 ?_
  refine gR (Value.int IntKind.i64 n.w) fun w' hs => ?_
  first | exact ⟨ra_yes h5 (by decide), hs.kk⟩ | exact ⟨ra_7 h16, hs.kk⟩ | exact ⟨ra_0 (ra_no (by assumption) (by assumption) (by assumption) (by assumption) (by assumption) (by assumption) (by assumption) (by assumption)) h16, hs.kk⟩
 refine gA [] 1 ?_
 refine g_dec 5 (n.kind == 15) kR (fun h5 => ?_) (fun h5 => ?_)
 ·refine gA ([0]) 2 ?_
  refine gR (Value.int IntKind.i64 n.w) fun w' hs => ?_
  first | exact ⟨ra_yes h5 (by decide), hs.kk⟩ | exact ⟨ra_7 h16, hs.kk⟩ | exact ⟨ra_0 (ra_no (by assumption) (by assumption) (by assumption) (by assumption) (by assumption) (by assumption) (by assumption) (by assumption)) h16, hs.kk⟩
 refine gA [] 1 ?_
 refine g_dec 5 (n.kind == 16) kR (fun h5 => ?_) (fun h5 => ?_)
 ·refine gA ([0]) 1 ?_
  refine gR (Value.int IntKind.i64 n.w) fun w' hs => ?_
  first | exact ⟨ra_yes h5 (by decide), hs.kk⟩ | exact ⟨ra_7 h16, hs.kk⟩ | exact ⟨ra_0 (ra_no (by assumption) (by assumption) (by assumption) (by assumption) (by assumption) (by assumption) (by assumption) (by assumption)) h16, hs.kk⟩
 refine gA [] 1 ?_
 refine g_dec 16 (n.kind == 7) kR (fun h16 => ?_) (fun h16 => ?_)
 ·refine gA ([0]) 1 ?_
  refine gR (Value.int IntKind.i64 n.nat) fun w' hs => ?_
  first | exact ⟨ra_yes h5 (by decide), hs.kk⟩ | exact ⟨ra_7 h16, hs.kk⟩ | exact ⟨ra_0 (ra_no (by assumption) (by assumption) (by assumption) (by assumption) (by assumption) (by assumption) (by assumption) (by assumption)) h16, hs.kk⟩
 refine gA [] 1 ?_
 refine gR (Value.int IntKind.i64 0) fun w' hs => ?_
 first | exact ⟨ra_yes h5 (by decide), hs.kk⟩ | exact ⟨ra_7 h16, hs.kk⟩ | exact ⟨ra_0 (ra_no (by assumption) (by assumption) (by assumption) (by assumption) (by assumption) (by assumption) (by assumption) (by assumption)) h16, hs.kk⟩
theorem ralong_any (n : Nod) (w : World) : Calls Try.prog 132 #[nodV n] w fun e w' => e = .returned (.int .i64 (rAlongV n)) ∧ Kept w w' := by
 refine g_enter (args := [nodV n]) [] [] Try.func132 rfl Try.ntmps132 kL (sat0 w) ?_
 refine g0 ?_
 refine gN fun b0 hb0 => ?_
 refine gA ([0]) 0 ?_
 refine g_dec 5 (n.kind == 3) kR (fun h5 => ?_) (fun h5 => ?_)
 ·refine gA ([0, 0]) 2 ?_
  refine gR (Value.int IntKind.i64 (IntKind.i64.wrap (n.h + n.d))) fun w' hs => ?_
  first | exact ⟨rl_yes h5 (by decide), hs.kk⟩ | exact ⟨rl_8 h14, hs.kk⟩ | exact ⟨rl_7 h18, hs.kk⟩ | exact ⟨rl_0 (rl_no (by assumption) (by assumption) (by assumption)) h14 h18, hs.kk⟩
 refine gA [] 1 ?_
 refine g_dec 5 (n.kind == 4) kR (fun h5 => ?_) (fun h5 => ?_)
 ·refine gA ([0, 0]) 2 ?_
  refine gR (Value.int IntKind.i64 (IntKind.i64.wrap (n.h + n.d))) fun w' hs => ?_
  first | exact ⟨rl_yes h5 (by decide), hs.kk⟩ | exact ⟨rl_8 h14, hs.kk⟩ | exact ⟨rl_7 h18, hs.kk⟩ | exact ⟨rl_0 (rl_no (by assumption) (by assumption) (by assumption)) h14 h18, hs.kk⟩
 refine gA [] 1 ?_
 refine g_dec 5 (n.kind == 5) kR (fun h5 => ?_) (fun h5 => ?_)
 ·refine gA ([0, 0]) 1 ?_
  refine gR (Value.int IntKind.i64 (IntKind.i64.wrap (n.h + n.d))) fun w' hs => ?_
  first | exact ⟨rl_yes h5 (by decide), hs.kk⟩ | exact ⟨rl_8 h14, hs.kk⟩ | exact ⟨rl_7 h18, hs.kk⟩ | exact ⟨rl_0 (rl_no (by assumption) (by assumption) (by assumption)) h14 h18, hs.kk⟩
 refine gA [] 1 ?_
 refine g_dec 14 (n.kind == 8) kR (fun h14 => ?_) (fun h14 => ?_)
 ·refine gA ([0]) 1 ?_
  refine gR (Value.int IntKind.i64 n.w) fun w' hs => ?_
  first | exact ⟨rl_yes h5 (by decide), hs.kk⟩ | exact ⟨rl_8 h14, hs.kk⟩ | exact ⟨rl_7 h18, hs.kk⟩ | exact ⟨rl_0 (rl_no (by assumption) (by assumption) (by assumption)) h14 h18, hs.kk⟩
 refine gA [] 1 ?_
 refine g_dec 18 (n.kind == 7) kR (fun h18 => ?_) (fun h18 => ?_)
 ·refine gA ([0]) 1 ?_
  refine gR (Value.int IntKind.i64 n.nat) fun w' hs => ?_
  first | exact ⟨rl_yes h5 (by decide), hs.kk⟩ | exact ⟨rl_8 h14, hs.kk⟩ | exact ⟨rl_7 h18, hs.kk⟩ | exact ⟨rl_0 (rl_no (by assumption) (by assumption) (by assumption)) h14 h18, hs.kk⟩
 refine gA [] 1 ?_
 refine gR (Value.int IntKind.i64 0) fun w' hs => ?_
 first | exact ⟨rl_yes h5 (by decide), hs.kk⟩ | exact ⟨rl_8 h14, hs.kk⟩ | exact ⟨rl_7 h18, hs.kk⟩ | exact ⟨rl_0 (rl_no (by assumption) (by assumption) (by assumption)) h14 h18, hs.kk⟩
end Go.Proofs.Ytcncfmjfgdbfeaa
