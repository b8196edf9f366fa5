/- nodes: greatest, last: down a column. -/
import Derived.Test.YtcncfmjfgdbfeaaNodO2
import Derived.Test.YtcncfmjfgdbfeaaM32
import Derived.Test.YtcncfmjfgdbfeaaFast16
namespace Go.Proofs.Ytcncfmjfgdbfeaa
set_option maxRecDepth 100000
set_option maxHeartbeats 40000000
open Go.RowKit
def mx (a b : Int) : Int := if b > a then b else a
def mxS (v : Nod → Int) (a : Int) (n : Nod) : Int := mx a (v n)
def lastS (v : Nod → Int) (_ : Int) (n : Nod) : Int := v n
structure EGX (l : List Nod) (beh : List Nat) (st : Int → Nod → Int) (T : Int) where
 f : Nat
 at_ : Nat
 ok : okF beh l.length f at_
 acc : Int
 isT : ((itemsF beh l.length f at_).map (nth l)).foldl st acc = T
section
variable {l : List Nod} {beh : List Nat} {st : Int → Nod → Int} {T : Int}
theorem EGX.pos (x : EGX l beh st T) (h : x.at_ < l.length) : x.f ≠ 0 ∧ x.at_ < beh.length ∧ okF beh l.length (x.f - 1) (beh.getD x.at_ 0) := by
 have := x.ok
 cases hf : x.f with
 | zero => rw [hf] at this; exact absurd h (Nat.not_lt.2 this)
 | succ g => rw [hf] at this; exact ⟨by omega, (this h).1, (this h).2⟩
theorem EGX.unroll (x : EGX l beh st T) (h : x.at_ < l.length) : (itemsF beh l.length x.f x.at_).map (nth l) = nth l x.at_ :: (itemsF beh l.length (x.f - 1) (beh.getD x.at_ 0)).map (nth l) := by
 have h1 := (x.pos h).1
 obtain ⟨g, hg⟩ : ∃ g, x.f = g + 1 := ⟨x.f - 1, by omega⟩
 rw [hg]
 simp [itemsF, h]
def EGX.next (x : EGX l beh st T) (h : x.at_ < l.length) : EGX l beh st T :=
 ⟨x.f - 1, beh.getD x.at_ 0, (x.pos h).2.2, st x.acc (nth l x.at_), by
  have := x.isT
  rw [x.unroll h] at this
  exact this⟩
theorem EGX.less (x : EGX l beh st T) (h : x.at_ < l.length) : x.f - 1 < x.f := by
 have := (x.pos h).1
 omega
theorem EGX.done (x : EGX l beh st T) (h : ¬ x.at_ < l.length) : x.acc = T := by
 have h1 := x.isT
 have e : itemsF beh l.length x.f x.at_ = [] := by
  cases x.f with
  | zero => rfl
  | succ g => simp [itemsF, h]
 rw [e] at h1
 exact h1
end
theorem kind_of_list {l : List Nod} (hrt : ∀ k, k < l.length → rightB (nth l k) = true) {k : Nat} (h : k < l.length) : 1 ≤ (nth l k).kind ∧ (nth l k).kind ≤ 17 := by
 have h1 := hrt k h
 have h2 : ¬ ((nth l k).kind < 1 ∨ 17 < (nth l k).kind) := fun h => by rw [rightB_no _ h] at h1; cases h1
 omega
theorem greatestCol_across (l : List Nod) (W : Wk) (hG : Good l W) (T : Int) (hT : ((itemsF W.beh l.length l.length 0).map (nth l)).foldl (mxS acrossV) 0 = T) (hrt : ∀ k, k < l.length → rightB (nth l k) = true) (bl ol cl bb bo : Nat) (w : World) (hq : Sat w [] [.row bl ol 19 l.length (rowOf l), .obj false bb (behC W.beh) 3, .obj false bo [.slice (some ⟨bl, ol, none⟩) l.length cl, .slice (some ⟨bb, 0, none⟩) l.length l.length] 141] w) :
  Calls Try.prog 82 #[.func (.func 121) #[] #[.pointer (some ⟨bo, 0, none⟩)], .agg acrossL.toArray] w fun e w' => e = .returned (.int .i64 T) ∧ Kept w w' := by
 obtain ⟨hch, hlen⟩ := good_ch hG.walk hG.os
 refine g_enterM (W := w) (args := [.func (.func 121) #[] #[.pointer (some ⟨bo, 0, none⟩)], .agg acrossL.toArray]) [] [.row bl ol 19 l.length (rowOf l), .obj false bb (behC W.beh) 3, .obj false bo [.slice (some ⟨bl, ol, none⟩) l.length cl, .slice (some ⟨bb, 0, none⟩) l.length l.length] 141] Try.func82 rfl Try.ntmps82 kL hq ?_
 refine g0 ?_
 refine gN fun b3 hb3 => ?_
 refine g0 ?_
 refine gN fun b4 hb4 => ?_
 refine gA ([4]) 0 ?_
 refine g_range 121 kR (fun L => by kernel_rfl) Try.func121 rfl Try.ntmps121 (fun L => Nat.le_of_ble_eq_true kR) fun L1 W1 bs1 R1 hR1 => ?_
 refine g0 ?_
 refine gN fun b5 hb5 => ?_
 refine g0 ?_
 refine gD 3 ?_
 refine lA (List.replicate 4 2) 0 ?_
 refine l_callq _ _ _ ?_ (fun w hs => nwhole_any (some ⟨bl, ol, none⟩) l.length cl (some ⟨bb, 0, none⟩) l.length l.length w) ?_
 ·kernel_rfl
 refine lE ?_
 refine g_call (X := Nat × Nat) _ _ ?_ (fun x => .func (.func 172) #[] #[.pointer (some ⟨x.2, 0, none⟩), .pointer (some ⟨x.1, 0, none⟩)]) (fun x => [.row bl ol 19 l.length (rowOf l), .obj false bb (behC W.beh) 3, .obj false bo [.slice (some ⟨bl, ol, none⟩) l.length cl, .slice (some ⟨bb, 0, none⟩) l.length l.length] 141, .obj true b3 acrossL 162, .obj true b4 [.int .i64 0] 3, .obj true b5 [.func (.yield L1) #[] #[]] 197] ++ [.obj true x.1 [.slice (some ⟨bl, ol, none⟩) l.length cl, .slice (some ⟨bb, 0, none⟩) l.length l.length] 141, .obj true x.2 [.int .i64 0, .int .i64 (l.length : Int)] 147])
  (fun w1 hs => (items_any _ _ _ _ _ _ (0 : Int) (l.length : Int) w1).mono fun e w' ⟨x, he, hx⟩ => ⟨x, he, (Sat.at hs kR).more hx (by simp [HE.own])⟩) (fun x => ?_)
 ·kernel_rfl
 obtain ⟨x1, x2⟩ := x
 refine g0 ?_
 refine g_range 172 kR (fun L => by kernel_rfl) Try.func172 rfl Try.ntmps172 (fun L => Nat.le_of_ble_eq_true kR) fun L2 W2 bs2 R2 hR2 => ?_
 refine gA [7] 0 ?_
 refine g_loopN (X := EGX l W.beh (mxS acrossV) T) (fun x => [(4, .int .i64 (x.at_ : Int))]) (fun x => [.row bl ol 19 l.length (rowOf l), .obj false bb (behC W.beh) 3, .obj false bo [.slice (some ⟨bl, ol, none⟩) l.length cl, .slice (some ⟨bb, 0, none⟩) l.length l.length] 141, .obj true b3 acrossL 162, .obj true b4 [.int .i64 x.acc] 3, .obj true b5 [.func (.yield L1) #[] #[]] 197, .obj true x1 [.slice (some ⟨bl, ol, none⟩) l.length cl, .slice (some ⟨bb, 0, none⟩) l.length l.length] 141, .obj true x2 [.int .i64 0, .int .i64 (l.length : Int)] 147]) (fun x => x.f) ⟨l.length, 0, hch.ok _ (by omega), 0, hT⟩ kR (by unfold Known; kernel_rfl) kR fun x N hN => ?_
 refine gA [7] 0 ?_
 refine g_dec 11 (decide ((↑x.at_ : Int) < (↑l.length : Int))) kR (fun h11 => ?_) (fun h11 => ?_)
 ·have hlt : x.at_ < l.length := Int.ofNat_lt.1 (of_decide_eq_true h11)
  have hbl := (x.pos hlt).2.1
  have hk := kind_of_list hrt hlt
  refine gA [] 2 ?_
  refine g_yield hR2.ready [.int .i64 (x.at_ : Int)] kR kR fun N2 hB2 => ?_
  refine g0 ?_
  refine g_begin hB2 kR kR kR fun W3 bs3 fin3 hx3 _hr3 _hsz3 hRd3 => ?_
  have hrec1 := (hR1.ready.ext hR2.ext).past (Nat.ne_of_lt (Nat.lt_of_lt_of_le hR1.ready.lt hR2.new)) hx3
  refine g0 ?_
  refine gD 6 ?_
  refine lU 13 [5, 2] 0 ?_
  refine l_val _ _ ?_ (fun w _hs => .inl (idx_run (P := Try.prog) (T := 59) (E := 63) (b := bl) (o := ol) (n := l.length) (c := cl) (k := x.at_) (sz := 19) (kk := .i64) w kR kR hlt)) ?_
  ·kernel_rfl
  refine l_val _ _ ?_ (fun w _hs => .inl (Sat.rowload (T := 63) (i := 0) (b := bl) (off := ol) (sz := 19) (n := l.length) (k := x.at_) (f := rowOf l) _hs kR hlt kR kR rfl)) ?_
  ·kernel_rfl
  refine lE ?_
  refine g_yield hrec1 [nodV (nth l x.at_)] kR kR fun N4 hB4 => ?_
  refine g0 ?_
  refine gN fun b8 hb8 => ?_
  refine gA (List.replicate 19 8) 0 ?_
  refine g_begin hB4 kR kR kR fun W5 bs5 fin5 _hx5 _hr5 _hsz5 hRd5 => ?_
  refine gA (List.replicate 19 8) 0 ?_
  refine gD 4 ?_
  refine lA ([4] ++ List.replicate 19 8) 0 ?_
  refine l_callq _ _ _ ?_ (fun w hs => of_across_any (nth l x.at_) hk.1 hk.2 b3 w (hs.obj (o := true) (i := 3) kR)) ?_
  ·kernel_rfl
  refine l0 ?_
  refine lE ?_
  refine gA ([4]) 0 ?_
  refine g_take 8 ?_
  refine g_end hRd5 kR (.refl _ _) ?_
  refine gA [] 1 ?_
  refine g_end hRd3 kR (.refl _ _) ?_
  refine gU 19 [6] 1 ?_
  refine g_val _ _ ?_ (fun w _hs => idx_run (P := Try.prog) (T := 25) (E := 3) (b := bb) (o := 0) (n := l.length) (c := l.length) (k := x.at_) (sz := 1) (kk := .i64) w kR kR hlt) ?_
  ·kernel_rfl
  refine g_val _ _ ?_ (fun w _hs => Sat.objload1 (T := 3) (T' := 3) (i := 1) (b := bb) (k := 0 + x.at_ * 1) (own := false) (cs := behC W.beh) (v := .int .i64 ((W.beh.getD x.at_ 0 : Nat) : Int)) _hs kR (behC_get hbl) kR) ?_
  ·kernel_rfl
  refine g0 ?_
  exact g_hook (hN (x.next hlt) (x.less hlt)) kR kR kR (by unfold Known; kernel_rfl) kR kR
 have hge : ¬ x.at_ < l.length := fun hx => of_decide_eq_false h11 (Int.ofNat_lt.2 hx)
 have hxT := x.done hge
 refine gA [] 4 ?_
 refine g_retM (W0 := W2) (bs0 := bs2) [] (Value.tuple #[]) kR kR [] kR (.refl _ _) (fun D hD => by cases hD) List.nodup_nil fun w2 hs2 => ?_
 refine hR2.back _ (fun D2 W6 bs6 hD2 he2 hd2 hf2 => ?_) W2 bs2 _ w2 (.refl _ _) hs2
 refine g0 ?_
 refine g_retM (W0 := W1) (bs0 := bs1) [] (Value.tuple #[]) kR kR [D2] kR he2 (fun D' hD' => by rw [List.mem_singleton.1 hD']; exact ⟨hD2, hd2, hf2⟩) (by simp) fun w3 hs3 => ?_
 refine hR1.back _ (fun D1 W7 bs7 hD1 he1 hd1 hf1 => ?_) W1 bs1 _ w3 (.refl _ _) hs3
 refine gA ([4]) 0 ?_
 refine g_retM (W0 := w) (bs0 := []) [] (.int .i64 x.acc) kR kR [D1] kR he1 (fun D' hD' => by rw [List.mem_singleton.1 hD']; exact ⟨hD1, hd1, hf1⟩) (by simp) fun w4 hs4 => ?_
 exact ⟨by rw [hxT], hs4.kept.kept⟩
theorem lastCol_hanging (l : List Nod) (W : Wk) (hG : Good l W) (T : Int) (hT : ((itemsF W.beh l.length l.length 0).map (nth l)).foldl (lastS hangingV) 0 = T) (hrt : ∀ k, k < l.length → rightB (nth l k) = true) (bl ol cl bb bo : Nat) (w : World) (hq : Sat w [] [.row bl ol 19 l.length (rowOf l), .obj false bb (behC W.beh) 3, .obj false bo [.slice (some ⟨bl, ol, none⟩) l.length cl, .slice (some ⟨bb, 0, none⟩) l.length l.length] 141] w) :
  Calls Try.prog 84 #[.func (.func 121) #[] #[.pointer (some ⟨bo, 0, none⟩)], .agg hangingL.toArray] w fun e w' => e = .returned (.int .i64 T) ∧ Kept w w' := by
 obtain ⟨hch, hlen⟩ := good_ch hG.walk hG.os
 refine g_enterM (W := w) (args := [.func (.func 121) #[] #[.pointer (some ⟨bo, 0, none⟩)], .agg hangingL.toArray]) [] [.row bl ol 19 l.length (rowOf l), .obj false bb (behC W.beh) 3, .obj false bo [.slice (some ⟨bl, ol, none⟩) l.length cl, .slice (some ⟨bb, 0, none⟩) l.length l.length] 141] Try.func84 rfl Try.ntmps84 kL hq ?_
 refine g0 ?_
 refine gN fun b3 hb3 => ?_
 refine g0 ?_
 refine gN fun b4 hb4 => ?_
 refine gA ([4]) 0 ?_
 refine g_range 121 kR (fun L => by kernel_rfl) Try.func121 rfl Try.ntmps121 (fun L => Nat.le_of_ble_eq_true kR) fun L1 W1 bs1 R1 hR1 => ?_
 refine g0 ?_
 refine gN fun b5 hb5 => ?_
 refine g0 ?_
 refine gD 3 ?_
 refine lA (List.replicate 4 2) 0 ?_
 refine l_callq _ _ _ ?_ (fun w hs => nwhole_any (some ⟨bl, ol, none⟩) l.length cl (some ⟨bb, 0, none⟩) l.length l.length w) ?_
 ·kernel_rfl
 refine lE ?_
 refine g_call (X := Nat × Nat) _ _ ?_ (fun x => .func (.func 172) #[] #[.pointer (some ⟨x.2, 0, none⟩), .pointer (some ⟨x.1, 0, none⟩)]) (fun x => [.row bl ol 19 l.length (rowOf l), .obj false bb (behC W.beh) 3, .obj false bo [.slice (some ⟨bl, ol, none⟩) l.length cl, .slice (some ⟨bb, 0, none⟩) l.length l.length] 141, .obj true b3 hangingL 162, .obj true b4 [.int .i64 0] 3, .obj true b5 [.func (.yield L1) #[] #[]] 197] ++ [.obj true x.1 [.slice (some ⟨bl, ol, none⟩) l.length cl, .slice (some ⟨bb, 0, none⟩) l.length l.length] 141, .obj true x.2 [.int .i64 0, .int .i64 (l.length : Int)] 147])
  (fun w1 hs => (items_any _ _ _ _ _ _ (0 : Int) (l.length : Int) w1).mono fun e w' ⟨x, he, hx⟩ => ⟨x, he, (Sat.at hs kR).more hx (by simp [HE.own])⟩) (fun x => ?_)
 ·kernel_rfl
 obtain ⟨x1, x2⟩ := x
 refine g0 ?_
 refine g_range 172 kR (fun L => by kernel_rfl) Try.func172 rfl Try.ntmps172 (fun L => Nat.le_of_ble_eq_true kR) fun L2 W2 bs2 R2 hR2 => ?_
 refine gA [7] 0 ?_
 refine g_loopN (X := EGX l W.beh (lastS hangingV) T) (fun x => [(4, .int .i64 (x.at_ : Int))]) (fun x => [.row bl ol 19 l.length (rowOf l), .obj false bb (behC W.beh) 3, .obj false bo [.slice (some ⟨bl, ol, none⟩) l.length cl, .slice (some ⟨bb, 0, none⟩) l.length l.length] 141, .obj true b3 hangingL 162, .obj true b4 [.int .i64 x.acc] 3, .obj true b5 [.func (.yield L1) #[] #[]] 197, .obj true x1 [.slice (some ⟨bl, ol, none⟩) l.length cl, .slice (some ⟨bb, 0, none⟩) l.length l.length] 141, .obj true x2 [.int .i64 0, .int .i64 (l.length : Int)] 147]) (fun x => x.f) ⟨l.length, 0, hch.ok _ (by omega), 0, hT⟩ kR (by unfold Known; kernel_rfl) kR fun x N hN => ?_
 refine gA [7] 0 ?_
 refine g_dec 11 (decide ((↑x.at_ : Int) < (↑l.length : Int))) kR (fun h11 => ?_) (fun h11 => ?_)
 ·have hlt : x.at_ < l.length := Int.ofNat_lt.1 (of_decide_eq_true h11)
  have hbl := (x.pos hlt).2.1
  have hk := kind_of_list hrt hlt
  refine gA [] 2 ?_
  refine g_yield hR2.ready [.int .i64 (x.at_ : Int)] kR kR fun N2 hB2 => ?_
  refine g0 ?_
  refine g_begin hB2 kR kR kR fun W3 bs3 fin3 hx3 _hr3 _hsz3 hRd3 => ?_
  have hrec1 := (hR1.ready.ext hR2.ext).past (Nat.ne_of_lt (Nat.lt_of_lt_of_le hR1.ready.lt hR2.new)) hx3
  refine g0 ?_
  refine gD 6 ?_
  refine lU 13 [5, 2] 0 ?_
  refine l_val _ _ ?_ (fun w _hs => .inl (idx_run (P := Try.prog) (T := 59) (E := 63) (b := bl) (o := ol) (n := l.length) (c := cl) (k := x.at_) (sz := 19) (kk := .i64) w kR kR hlt)) ?_
  ·kernel_rfl
  refine l_val _ _ ?_ (fun w _hs => .inl (Sat.rowload (T := 63) (i := 0) (b := bl) (off := ol) (sz := 19) (n := l.length) (k := x.at_) (f := rowOf l) _hs kR hlt kR kR rfl)) ?_
  ·kernel_rfl
  refine lE ?_
  refine g_yield hrec1 [nodV (nth l x.at_)] kR kR fun N4 hB4 => ?_
  refine g0 ?_
  refine gN fun b8 hb8 => ?_
  refine gA (List.replicate 19 8) 0 ?_
  refine g_begin hB4 kR kR kR fun W5 bs5 fin5 _hx5 _hr5 _hsz5 hRd5 => ?_
  refine gA (List.replicate 38 8) 0 ?_
  refine g_callq _ _ _ ?_ (fun w hs => of_hanging_any (nth l x.at_) hk.1 hk.2 b3 w (hs.obj (o := true) (i := 3) kR)) ?_
  ·kernel_rfl
  refine gA ([4]) 0 ?_
  refine g_take 8 ?_
  refine g_end hRd5 kR (.refl _ _) ?_
  refine gA [] 1 ?_
  refine g_end hRd3 kR (.refl _ _) ?_
  refine gU 19 [6] 1 ?_
  refine g_val _ _ ?_ (fun w _hs => idx_run (P := Try.prog) (T := 25) (E := 3) (b := bb) (o := 0) (n := l.length) (c := l.length) (k := x.at_) (sz := 1) (kk := .i64) w kR kR hlt) ?_
  ·kernel_rfl
  refine g_val _ _ ?_ (fun w _hs => Sat.objload1 (T := 3) (T' := 3) (i := 1) (b := bb) (k := 0 + x.at_ * 1) (own := false) (cs := behC W.beh) (v := .int .i64 ((W.beh.getD x.at_ 0 : Nat) : Int)) _hs kR (behC_get hbl) kR) ?_
  ·kernel_rfl
  refine g0 ?_
  exact g_hook (hN (x.next hlt) (x.less hlt)) kR kR kR (by unfold Known; kernel_rfl) kR kR
 have hge : ¬ x.at_ < l.length := fun hx => of_decide_eq_false h11 (Int.ofNat_lt.2 hx)
 have hxT := x.done hge
 refine gA [] 4 ?_
 refine g_retM (W0 := W2) (bs0 := bs2) [] (Value.tuple #[]) kR kR [] kR (.refl _ _) (fun D hD => by cases hD) List.nodup_nil fun w2 hs2 => ?_
 refine hR2.back _ (fun D2 W6 bs6 hD2 he2 hd2 hf2 => ?_) W2 bs2 _ w2 (.refl _ _) hs2
 refine g0 ?_
 refine g_retM (W0 := W1) (bs0 := bs1) [] (Value.tuple #[]) kR kR [D2] kR he2 (fun D' hD' => by rw [List.mem_singleton.1 hD']; exact ⟨hD2, hd2, hf2⟩) (by simp) fun w3 hs3 => ?_
 refine hR1.back _ (fun D1 W7 bs7 hD1 he1 hd1 hf1 => ?_) W1 bs1 _ w3 (.refl _ _) hs3
 refine gA ([4]) 0 ?_
 refine g_retM (W0 := w) (bs0 := []) [] (.int .i64 x.acc) kR kR [D1] kR he1 (fun D' hD' => by rw [List.mem_singleton.1 hD']; exact ⟨hD1, hd1, hf1⟩) (by simp) fun w4 hs4 => ?_
 exact ⟨by rw [hxT], hs4.kept.kept⟩
end Go.Proofs.Ytcncfmjfgdbfeaa
