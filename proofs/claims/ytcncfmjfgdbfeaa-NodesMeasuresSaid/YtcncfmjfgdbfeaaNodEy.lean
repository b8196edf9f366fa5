/- nodes: greatest, along a row. -/
import Derived.Test.YtcncfmjfgdbfeaaNodEx
import Derived.Test.YtcncfmjfgdbfeaaNodTr
namespace Go.Proofs.Ytcncfmjfgdbfeaa
set_option maxRecDepth 100000
set_option maxHeartbeats 40000000
open Go.RowKit
structure ERX (l : List Nod) (beh : List Nat) (st : Int → Nod → Int) (T : Int) where
 at_ : Nat
 ch : Ch beh at_ l.length
 acc : Int
 isT : ((itemsF beh l.length l.length at_).flatMap (partN l beh)).foldl st acc = T
structure EIX (l : List Nod) (beh : List Nat) (st : Int → Nod → Int) (to : Nat) (T : Int) where
 at_ : Nat
 ch : Ch beh at_ to
 acc : Int
 isT : ((itemsF beh to l.length at_).map (nth l)).foldl st acc = T
section
variable {l : List Nod} {beh : List Nat} {st : Int → Nod → Int} {T : Int} {to : Nat}
def EIX.next (x : EIX l beh st to T) (h : x.at_ < to) (hto : to ≤ l.length) : EIX l beh st to T :=
 ⟨beh.getD x.at_ 0, (items_unroll x.ch h hto).2.2.2, st x.acc (nth l x.at_), by
  have := x.isT
  rw [(items_unroll x.ch h hto).1] at this
  exact this⟩
theorem EIX.done (x : EIX l beh st to T) (h : ¬ x.at_ < to) : x.acc = T := by
 have h1 := x.isT
 rw [items_end h] at h1
 exact h1
theorem ERX.done (x : ERX l beh st T) (h : ¬ x.at_ < l.length) : x.acc = T := by
 have h1 := x.isT
 rw [items_end h] at h1
 exact h1
def ERX.into2 (x : ERX l beh st T) {s to : Nat} (hh : hereF l beh x.at_ = (s, to)) (h : Ch beh s to) : EIX l beh st to ((partN l beh x.at_).foldl st x.acc) :=
 ⟨s, h, x.acc, by unfold partN; rw [hh]⟩
def ERX.next (x : ERX l beh st T) (h : x.at_ < l.length) (y : EIX l beh st to ((partN l beh x.at_).foldl st x.acc)) (hy : ¬ y.at_ < to) : ERX l beh st T :=
 ⟨beh.getD x.at_ 0, (items_unroll x.ch h (Nat.le_refl _)).2.2.2, y.acc, by
  have := x.isT
  rw [(items_unroll x.ch h (Nat.le_refl _)).1, List.flatMap_cons, List.foldl_append] at this
  rw [y.done hy]
  exact this⟩
end
theorem of_ten {k : Int} (h : (k == 10) = true) : k = 10 := by simpa using h
theorem greatestRow_above (l : List Nod) (W : Wk) (hG : Good l W) (T : Int) (hT : (rowN l W).foldl (mxS aboveV) 0 = T) (hrt : ∀ k, k < l.length → rightB (nth l k) = true) (bl ol cl bb bo : Nat) (w : World) (hq : Sat w [] [.row bl ol 19 l.length (rowOf l), .obj false bb (behC W.beh) 3, .obj false bo [.slice (some ⟨bl, ol, none⟩) l.length cl, .slice (some ⟨bb, 0, none⟩) l.length l.length] 141] w) :
  Calls Try.prog 82 #[.func (.func 125) #[] #[.pointer (some ⟨bo, 0, none⟩)], .agg aboveL.toArray] w fun e w' => e = .returned (.int .i64 T) ∧ Kept w w' := by
 obtain ⟨hch, hlen⟩ := good_ch hG.walk hG.os
 refine g_enterM (W := w) (args := [.func (.func 125) #[] #[.pointer (some ⟨bo, 0, none⟩)], .agg aboveL.toArray]) [] [.row bl ol 19 l.length (rowOf l), .obj false bb (behC W.beh) 3, .obj false bo [.slice (some ⟨bl, ol, none⟩) l.length cl, .slice (some ⟨bb, 0, none⟩) l.length l.length] 141] Try.func82 rfl Try.ntmps82 kL hq ?_
 refine g0 ?_
 refine gN fun b3 hb3 => ?_
 refine g0 ?_
 refine gN fun b4 hb4 => ?_
 refine gA ([4]) 0 ?_
 refine g_range 125 kR (fun L => by kernel_rfl) Try.func125 rfl Try.ntmps125 (fun L => Nat.le_of_ble_eq_true kR) fun L1 W1 bs1 R1 hR1 => ?_
 refine g0 ?_
 refine gN fun b5 hb5 => ?_
 refine g0 ?_
 refine gD 3 ?_
 refine lA (List.replicate 4 2) 0 ?_
 refine l_callq _ _ _ ?_ (fun w hs => nwhole_any (some ⟨bl, ol, none⟩) l.length cl (some ⟨bb, 0, none⟩) l.length l.length w) ?_
 ·kernel_rfl
 refine lE ?_
 refine g_call (X := Nat × Nat) _ _ ?_ (fun x => .func (.func 172) #[] #[.pointer (some ⟨x.2, 0, none⟩), .pointer (some ⟨x.1, 0, none⟩)]) (fun x => [.row bl ol 19 l.length (rowOf l), .obj false bb (behC W.beh) 3, .obj false bo [.slice (some ⟨bl, ol, none⟩) l.length cl, .slice (some ⟨bb, 0, none⟩) l.length l.length] 141, .obj true b3 aboveL 162, .obj true b4 [.int .i64 0] 3, .obj true b5 [.func (.yield L1) #[] #[]] 197] ++ [.obj true x.1 [.slice (some ⟨bl, ol, none⟩) l.length cl, .slice (some ⟨bb, 0, none⟩) l.length l.length] 141, .obj true x.2 [.int .i64 0, .int .i64 (l.length : Int)] 147])
  (fun w1 hs => (items_any _ _ _ _ _ _ (0 : Int) (l.length : Int) w1).mono fun e w' ⟨x, he, hx⟩ => ⟨x, he, (Sat.at hs kR).more hx (by simp [HE.own])⟩) (fun x => ?_)
 ·kernel_rfl
 obtain ⟨x1, x2⟩ := x
 refine g0 ?_
 refine g_range 172 kR (fun L => by kernel_rfl) Try.func172 rfl Try.ntmps172 (fun L => Nat.le_of_ble_eq_true kR) fun L2 W2 bs2 R2 hR2 => ?_
 refine gA [7] 0 ?_
 refine g_loopN (X := ERX l W.beh (mxS aboveV) T) (fun x => [(4, .int .i64 (x.at_ : Int))]) (fun x => [.row bl ol 19 l.length (rowOf l), .obj false bb (behC W.beh) 3, .obj false bo [.slice (some ⟨bl, ol, none⟩) l.length cl, .slice (some ⟨bb, 0, none⟩) l.length l.length] 141, .obj true b3 aboveL 162, .obj true b4 [.int .i64 x.acc] 3, .obj true b5 [.func (.yield L1) #[] #[]] 197, .obj true x1 [.slice (some ⟨bl, ol, none⟩) l.length cl, .slice (some ⟨bb, 0, none⟩) l.length l.length] 141, .obj true x2 [.int .i64 0, .int .i64 (l.length : Int)] 147]) (fun x => l.length - x.at_) ⟨0, hch, 0, hT⟩ kR (by unfold Known; kernel_rfl) kR fun x N hN => ?_
 refine gA [7] 0 ?_
 refine g_dec 11 (decide ((↑x.at_ : Int) < (↑l.length : Int))) kR (fun h11 => ?_) (fun h11 => ?_)
 ·have hlt : x.at_ < l.length := Int.ofNat_lt.1 (of_decide_eq_true h11)
  have hunx := items_unroll x.ch hlt (Nat.le_refl _)
  have hbl := hunx.2.1
  have hbb := hunx.2.2.1
  refine gA [] 2 ?_
  refine g_yield hR2.ready [.int .i64 (x.at_ : Int)] kR kR fun N2 hB2 => ?_
  refine g0 ?_
  refine g_begin hB2 kR kR kR fun W3 bs3 fin3 hx3 hr3 _hsz3 hRd3 => ?_
  have hrec1 := (hR1.ready.ext hR2.ext).past (Nat.ne_of_lt (Nat.lt_of_lt_of_le hR1.ready.lt hR2.new)) hx3
  refine gU 15 [2] 0 ?_
  refine g_val _ _ ?_ (fun w _hs => idx_run (P := Try.prog) (T := 25) (E := 3) (b := bb) (o := 0) (n := l.length) (c := l.length) (k := x.at_) (sz := 1) (kk := .i64) w kR kR hlt) ?_
  ·kernel_rfl
  refine g_val _ _ ?_ (fun w _hs => Sat.objload1 (T := 3) (T' := 3) (i := 1) (b := bb) (k := 0 + x.at_ * 1) (own := false) (cs := behC W.beh) (v := .int .i64 ((W.beh.getD x.at_ 0 : Nat) : Int)) _hs kR (behC_get hbl) kR) ?_
  ·kernel_rfl
  refine g0 ?_
  refine gN fun b8 hb8 => ?_
  refine gU 21 ([8, 8] ++ [2]) 0 ?_
  refine g_val _ _ ?_ (fun w _hs => idx_run (P := Try.prog) (T := 59) (E := 63) (b := bl) (o := ol) (n := l.length) (c := cl) (k := x.at_) (sz := 19) (kk := .i64) w kR kR hlt) ?_
  ·kernel_rfl
  refine gU 23 [] 0 ?_
  refine g_val _ _ ?_ (fun w _hs => Sat.rowload1 (T := 3) (i := 0) (b := bl) (off := ol) (sz := 19) (n := l.length) (k := x.at_) (j := 0) (f := rowOf l) (v := .int .i64 (nth l x.at_).kind) _hs kR hlt kR rfl) ?_
  ·kernel_rfl
  refine g0 ?_
  refine g_dec 24 ((nth l x.at_).kind == 10) kR (fun h24 => ?_) (fun h24 => ?_)
  rotate_left
  ·have h10 : ¬ (nth l x.at_).kind = 10 := fun h => by rw [h] at h24; exact Bool.noConfusion h24
   have hhe : hereF l W.beh x.at_ = (x.at_, W.beh.getD x.at_ 0) := if_neg h10
   have hch2 := here_ch hG hbl hbb
   rw [hhe] at hch2
   have hic := hch2.1
   have hle2 := hch2.2
   refine gA ([2, 2] ++ [8, 8]) 1 ?_
   refine g_call (X := Nat × Nat) _ _ ?_ (fun y => .func (.func 172) #[] #[.pointer (some ⟨y.2, 0, none⟩), .pointer (some ⟨y.1, 0, none⟩)]) (fun y => [.row bl ol 19 l.length (rowOf l), .obj false bb (behC W.beh) 3, .obj false bo [.slice (some ⟨bl, ol, none⟩) l.length cl, .slice (some ⟨bb, 0, none⟩) l.length l.length] 141, .obj true b3 aboveL 162, .obj true b4 [.int .i64 x.acc] 3, .obj true b5 [.func (.yield L1) #[] #[]] 197, .obj true x1 [.slice (some ⟨bl, ol, none⟩) l.length cl, .slice (some ⟨bb, 0, none⟩) l.length l.length] 141, .obj true x2 [.int .i64 0, .int .i64 (l.length : Int)] 147, .obj true b8 [.int .i64 (x.at_ : Int), .int .i64 ((W.beh.getD x.at_ 0 : Nat) : Int)] 147] ++ [.obj true y.1 [.slice (some ⟨bl, ol, none⟩) l.length cl, .slice (some ⟨bb, 0, none⟩) l.length l.length] 141, .obj true y.2 [.int .i64 (x.at_ : Int), .int .i64 ((W.beh.getD x.at_ 0 : Nat) : Int)] 147])
    (fun w1 hs => (items_any _ _ _ _ _ _ (x.at_ : Int) ((W.beh.getD x.at_ 0 : Nat) : Int) w1).mono fun e w' ⟨x, he, hx⟩ => ⟨x, he, (Sat.at hs kR).more hx (by simp [HE.own])⟩) (fun y => ?_)
   ·kernel_rfl
   obtain ⟨y1, y2⟩ := y
   refine g0 ?_
   refine g_rangeR hr3 172 kR (fun L => by kernel_rfl) Try.func172 rfl Try.ntmps172 (fun L => Nat.le_of_ble_eq_true kR) fun L4 W4 bs4 R4 hR4 => ?_
   refine gA ([10]) 0 ?_
   refine g_loopN (X := EIX l W.beh (mxS aboveV) (W.beh.getD x.at_ 0) ((partN l W.beh x.at_).foldl (mxS aboveV) x.acc)) (fun z => [(4, .int .i64 (z.at_ : Int))]) (fun z => [.row bl ol 19 l.length (rowOf l), .obj false bb (behC W.beh) 3, .obj false bo [.slice (some ⟨bl, ol, none⟩) l.length cl, .slice (some ⟨bb, 0, none⟩) l.length l.length] 141, .obj true b3 aboveL 162, .obj true b4 [.int .i64 z.acc] 3, .obj true b5 [.func (.yield L1) #[] #[]] 197, .obj true x1 [.slice (some ⟨bl, ol, none⟩) l.length cl, .slice (some ⟨bb, 0, none⟩) l.length l.length] 141, .obj true x2 [.int .i64 0, .int .i64 (l.length : Int)] 147, .obj true b8 [.int .i64 (x.at_ : Int), .int .i64 ((W.beh.getD x.at_ 0 : Nat) : Int)] 147, .obj true y1 [.slice (some ⟨bl, ol, none⟩) l.length cl, .slice (some ⟨bb, 0, none⟩) l.length l.length] 141, .obj true y2 [.int .i64 (x.at_ : Int), .int .i64 ((W.beh.getD x.at_ 0 : Nat) : Int)] 147]) (fun z => (W.beh.getD x.at_ 0) - z.at_) (x.into2 hhe hic) kR (by unfold Known; kernel_rfl) kR fun z M hM => ?_
   refine gA [10] 0 ?_
   refine g_dec 11 (decide ((↑z.at_ : Int) < (↑(W.beh.getD x.at_ 0) : Int))) kR (fun h11b => ?_) (fun h11b => ?_)
   ·have hlt2 : z.at_ < (W.beh.getD x.at_ 0) := Int.ofNat_lt.1 (of_decide_eq_true h11b)
    have hun2 := items_unroll z.ch hlt2 hle2
    have hbl2 := hun2.2.1
    have hlt3 : z.at_ < l.length := Nat.lt_of_lt_of_le hlt2 hle2
    refine gA [] 2 ?_
    refine g_yield hR4.ready [.int .i64 (z.at_ : Int)] kR kR fun N5 hB5 => ?_
    refine g0 ?_
    refine g_begin hB5 kR kR kR fun W5 bs5 fin5 hx5 _hr5 _hsz5 hRd5 => ?_
    have hrec2 := (hrec1.ext hR4.ext).past (rec_apart hrec1.lt hR4.new) hx5
    refine g0 ?_
    refine gD 6 ?_
    refine lU 37 [5, 2] 0 ?_
    refine l_val _ _ ?_ (fun w _hs => .inl (idx_run (P := Try.prog) (T := 59) (E := 63) (b := bl) (o := ol) (n := l.length) (c := cl) (k := z.at_) (sz := 19) (kk := .i64) w kR kR hlt3)) ?_
    ·kernel_rfl
    refine l_val _ _ ?_ (fun w _hs => .inl (Sat.rowload (T := 63) (i := 0) (b := bl) (off := ol) (sz := 19) (n := l.length) (k := z.at_) (f := rowOf l) _hs kR hlt3 kR kR rfl)) ?_
    ·kernel_rfl
    refine lE ?_
    refine g_yield hrec2 [nodV (nth l z.at_)] kR kR fun N6 hB6 => ?_
    refine g0 ?_
    refine gN fun b11 hb11 => ?_
    refine gA (List.replicate 19 11) 0 ?_
    refine g_begin hB6 kR kR kR fun W6 bs6 fin6 _hx6 _hr6 _hsz6 hRd6 => ?_
    have hk := kind_of_list hrt hlt3
    refine gA (List.replicate 19 11) 0 ?_
    refine gD 4 ?_
    refine lA ([4] ++ List.replicate 19 11) 0 ?_
    refine l_callq _ _ _ ?_ (fun w hs => of_above_any (nth l z.at_) hk.1 hk.2 b3 w (hs.obj (o := true) (i := 3) kR)) ?_
    ·kernel_rfl
    refine l0 ?_
    refine lE ?_
    refine gA ([4]) 0 ?_
    refine g_take 11 ?_
    refine g_end hRd6 kR (.refl _ _) ?_
    refine gA [] 1 ?_
    refine g_end hRd5 kR (.refl _ _) ?_
    refine gU 19 [9] 1 ?_
    refine g_val _ _ ?_ (fun w _hs => idx_run (P := Try.prog) (T := 25) (E := 3) (b := bb) (o := 0) (n := l.length) (c := l.length) (k := z.at_) (sz := 1) (kk := .i64) w kR kR hlt3) ?_
    ·kernel_rfl
    refine g_val _ _ ?_ (fun w _hs => Sat.objload1 (T := 3) (T' := 3) (i := 1) (b := bb) (k := 0 + z.at_ * 1) (own := false) (cs := behC W.beh) (v := .int .i64 ((W.beh.getD z.at_ 0 : Nat) : Int)) _hs kR (behC_get hbl2) kR) ?_
    ·kernel_rfl
    refine g0 ?_
    exact g_hook (hM (z.next hlt2 hle2) (Nat.sub_lt_sub_left hlt2 hun2.2.2.1)) kR kR kR (by unfold Known; kernel_rfl) kR kR
   have hge2 : ¬ z.at_ < (W.beh.getD x.at_ 0) := fun hx => of_decide_eq_false h11b (Int.ofNat_lt.2 hx)
   refine gA [] 4 ?_
   refine g_retM (W0 := W4) (bs0 := bs4) [] (Value.tuple #[]) kR kR [] kR (.refl _ _) (fun D hD => by cases hD) List.nodup_nil fun w2 hs2 => ?_
   refine hR4.back _ ?_ W4 bs4 _ w2 (.refl _ _) hs2
   refine g0 ?_
   refine g_take 8 ?_
   refine g_end hRd3 kR (.refl _ _) ?_
   refine gU 19 [6] 1 ?_
   refine g_val _ _ ?_ (fun w _hs => idx_run (P := Try.prog) (T := 25) (E := 3) (b := bb) (o := 0) (n := l.length) (c := l.length) (k := x.at_) (sz := 1) (kk := .i64) w kR kR hlt) ?_
   ·kernel_rfl
   refine g_val _ _ ?_ (fun w _hs => Sat.objload1 (T := 3) (T' := 3) (i := 1) (b := bb) (k := 0 + x.at_ * 1) (own := false) (cs := behC W.beh) (v := .int .i64 ((W.beh.getD x.at_ 0 : Nat) : Int)) _hs kR (behC_get hbl) kR) ?_
   ·kernel_rfl
   refine g0 ?_
   exact g_hook (hN (x.next hlt z hge2) (Nat.sub_lt_sub_left hlt hbb)) kR kR kR (by unfold Known; kernel_rfl) kR kR
  have h10 : (nth l x.at_).kind = 10 := of_ten h24
  refine Exists.elim (three_of hG (Nat.ne_of_gt (Nat.lt_of_le_of_lt (Nat.zero_le _) hbb)) h10) fun s1 q => Exists.elim q fun s2 q => Exists.elim q fun e3 ht => ?_
  have t := ht.1
  have hhe : hereF l W.beh x.at_ = (s2 + 1, e3) := (if_pos h10).trans ht.2
  have hic : Ch W.beh (s2 + 1) e3 := t.h3
  have hle2 : e3 ≤ l.length := hlen ▸ Nat.le_of_lt t.he
  refine gA ([2, 2]) 1 ?_
  refine g_callq _ _ _ ?_ (fun w hs => parts_row (bb := bb) (some ⟨bl, ol, none⟩) l.length cl t hlen hG.le w (hs.obj (o := false) (i := 1) kR)) ?_
  ·kernel_rfl
  refine gA ([8, 8] ++ [2, 2] ++ [8, 8]) 0 ?_
  refine g_call (X := Nat × Nat) _ _ ?_ (fun y => .func (.func 172) #[] #[.pointer (some ⟨y.2, 0, none⟩), .pointer (some ⟨y.1, 0, none⟩)]) (fun y => [.row bl ol 19 l.length (rowOf l), .obj false bb (behC W.beh) 3, .obj false bo [.slice (some ⟨bl, ol, none⟩) l.length cl, .slice (some ⟨bb, 0, none⟩) l.length l.length] 141, .obj true b3 aboveL 162, .obj true b4 [.int .i64 x.acc] 3, .obj true b5 [.func (.yield L1) #[] #[]] 197, .obj true x1 [.slice (some ⟨bl, ol, none⟩) l.length cl, .slice (some ⟨bb, 0, none⟩) l.length l.length] 141, .obj true x2 [.int .i64 0, .int .i64 (l.length : Int)] 147, .obj true b8 [.int .i64 ((s2 + 1 : Nat) : Int), .int .i64 (e3 : Int)] 147] ++ [.obj true y.1 [.slice (some ⟨bl, ol, none⟩) l.length cl, .slice (some ⟨bb, 0, none⟩) l.length l.length] 141, .obj true y.2 [.int .i64 ((s2 + 1 : Nat) : Int), .int .i64 (e3 : Int)] 147])
   (fun w1 hs => (items_any _ _ _ _ _ _ ((s2 + 1 : Nat) : Int) (e3 : Int) w1).mono fun e w' ⟨x, he, hx⟩ => ⟨x, he, (Sat.at hs kR).more hx (by simp [HE.own])⟩) (fun y => ?_)
  ·kernel_rfl
  obtain ⟨y1, y2⟩ := y
  refine g0 ?_
  refine g_rangeR hr3 172 kR (fun L => by kernel_rfl) Try.func172 rfl Try.ntmps172 (fun L => Nat.le_of_ble_eq_true kR) fun L4 W4 bs4 R4 hR4 => ?_
  refine gA ([10]) 0 ?_
  refine g_loopN (X := EIX l W.beh (mxS aboveV) e3 ((partN l W.beh x.at_).foldl (mxS aboveV) x.acc)) (fun z => [(4, .int .i64 (z.at_ : Int))]) (fun z => [.row bl ol 19 l.length (rowOf l), .obj false bb (behC W.beh) 3, .obj false bo [.slice (some ⟨bl, ol, none⟩) l.length cl, .slice (some ⟨bb, 0, none⟩) l.length l.length] 141, .obj true b3 aboveL 162, .obj true b4 [.int .i64 z.acc] 3, .obj true b5 [.func (.yield L1) #[] #[]] 197, .obj true x1 [.slice (some ⟨bl, ol, none⟩) l.length cl, .slice (some ⟨bb, 0, none⟩) l.length l.length] 141, .obj true x2 [.int .i64 0, .int .i64 (l.length : Int)] 147, .obj true b8 [.int .i64 ((s2 + 1 : Nat) : Int), .int .i64 (e3 : Int)] 147, .obj true y1 [.slice (some ⟨bl, ol, none⟩) l.length cl, .slice (some ⟨bb, 0, none⟩) l.length l.length] 141, .obj true y2 [.int .i64 ((s2 + 1 : Nat) : Int), .int .i64 (e3 : Int)] 147]) (fun z => e3 - z.at_) (x.into2 hhe hic) kR (by unfold Known; kernel_rfl) kR fun z M hM => ?_
  refine gA [10] 0 ?_
  refine g_dec 11 (decide ((↑z.at_ : Int) < (↑e3 : Int))) kR (fun h11b => ?_) (fun h11b => ?_)
  ·have hlt2 : z.at_ < e3 := Int.ofNat_lt.1 (of_decide_eq_true h11b)
   have hun2 := items_unroll z.ch hlt2 hle2
   have hbl2 := hun2.2.1
   have hlt3 : z.at_ < l.length := Nat.lt_of_lt_of_le hlt2 hle2
   refine gA [] 2 ?_
   refine g_yield hR4.ready [.int .i64 (z.at_ : Int)] kR kR fun N5 hB5 => ?_
   refine g0 ?_
   refine g_begin hB5 kR kR kR fun W5 bs5 fin5 hx5 _hr5 _hsz5 hRd5 => ?_
   have hrec2 := (hrec1.ext hR4.ext).past (rec_apart hrec1.lt hR4.new) hx5
   refine g0 ?_
   refine gD 6 ?_
   refine lU 37 [5, 2] 0 ?_
   refine l_val _ _ ?_ (fun w _hs => .inl (idx_run (P := Try.prog) (T := 59) (E := 63) (b := bl) (o := ol) (n := l.length) (c := cl) (k := z.at_) (sz := 19) (kk := .i64) w kR kR hlt3)) ?_
   ·kernel_rfl
   refine l_val _ _ ?_ (fun w _hs => .inl (Sat.rowload (T := 63) (i := 0) (b := bl) (off := ol) (sz := 19) (n := l.length) (k := z.at_) (f := rowOf l) _hs kR hlt3 kR kR rfl)) ?_
   ·kernel_rfl
   refine lE ?_
   refine g_yield hrec2 [nodV (nth l z.at_)] kR kR fun N6 hB6 => ?_
   refine g0 ?_
   refine gN fun b11 hb11 => ?_
   refine gA (List.replicate 19 11) 0 ?_
   refine g_begin hB6 kR kR kR fun W6 bs6 fin6 _hx6 _hr6 _hsz6 hRd6 => ?_
   have hk := kind_of_list hrt hlt3
   refine gA (List.replicate 19 11) 0 ?_
   refine gD 4 ?_
   refine lA ([4] ++ List.replicate 19 11) 0 ?_
   refine l_callq _ _ _ ?_ (fun w hs => of_above_any (nth l z.at_) hk.1 hk.2 b3 w (hs.obj (o := true) (i := 3) kR)) ?_
   ·kernel_rfl
   refine l0 ?_
   refine lE ?_
   refine gA ([4]) 0 ?_
   refine g_take 11 ?_
   refine g_end hRd6 kR (.refl _ _) ?_
   refine gA [] 1 ?_
   refine g_end hRd5 kR (.refl _ _) ?_
   refine gU 19 [9] 1 ?_
   refine g_val _ _ ?_ (fun w _hs => idx_run (P := Try.prog) (T := 25) (E := 3) (b := bb) (o := 0) (n := l.length) (c := l.length) (k := z.at_) (sz := 1) (kk := .i64) w kR kR hlt3) ?_
   ·kernel_rfl
   refine g_val _ _ ?_ (fun w _hs => Sat.objload1 (T := 3) (T' := 3) (i := 1) (b := bb) (k := 0 + z.at_ * 1) (own := false) (cs := behC W.beh) (v := .int .i64 ((W.beh.getD z.at_ 0 : Nat) : Int)) _hs kR (behC_get hbl2) kR) ?_
   ·kernel_rfl
   refine g0 ?_
   exact g_hook (hM (z.next hlt2 hle2) (Nat.sub_lt_sub_left hlt2 hun2.2.2.1)) kR kR kR (by unfold Known; kernel_rfl) kR kR
  have hge2 : ¬ z.at_ < e3 := fun hx => of_decide_eq_false h11b (Int.ofNat_lt.2 hx)
  refine gA [] 4 ?_
  refine g_retM (W0 := W4) (bs0 := bs4) [] (Value.tuple #[]) kR kR [] kR (.refl _ _) (fun D hD => by cases hD) List.nodup_nil fun w2 hs2 => ?_
  refine hR4.back _ ?_ W4 bs4 _ w2 (.refl _ _) hs2
  refine g0 ?_
  refine g_take 8 ?_
  refine g_end hRd3 kR (.refl _ _) ?_
  refine gU 19 [6] 1 ?_
  refine g_val _ _ ?_ (fun w _hs => idx_run (P := Try.prog) (T := 25) (E := 3) (b := bb) (o := 0) (n := l.length) (c := l.length) (k := x.at_) (sz := 1) (kk := .i64) w kR kR hlt) ?_
  ·kernel_rfl
  refine g_val _ _ ?_ (fun w _hs => Sat.objload1 (T := 3) (T' := 3) (i := 1) (b := bb) (k := 0 + x.at_ * 1) (own := false) (cs := behC W.beh) (v := .int .i64 ((W.beh.getD x.at_ 0 : Nat) : Int)) _hs kR (behC_get hbl) kR) ?_
  ·kernel_rfl
  refine g0 ?_
  exact g_hook (hN (x.next hlt z hge2) (Nat.sub_lt_sub_left hlt hbb)) kR kR kR (by unfold Known; kernel_rfl) kR kR
 have hge : ¬ x.at_ < l.length := fun hx => of_decide_eq_false h11 (Int.ofNat_lt.2 hx)
 have hxT := x.done hge
 refine gA [] 4 ?_
 refine g_retM (W0 := W2) (bs0 := bs2) [] (Value.tuple #[]) kR kR [] kR (.refl _ _) (fun D hD => by cases hD) List.nodup_nil fun w2 hs2 => ?_
 refine hR2.back _ (fun D2 W6 bs6 hD2 he2 hd2 hf2 => ?_) W2 bs2 _ w2 (.refl _ _) hs2
 refine g0 ?_
 refine g_retM (W0 := W1) (bs0 := bs1) [] (Value.tuple #[]) kR kR [D2] kR he2 (fun D' hD' => by rw [List.mem_singleton.1 hD']; exact ⟨hD2, hd2, hf2⟩) (by simp) fun w3 hs3 => ?_
 refine hR1.back _ (fun D1 W7 bs7 hD1 he1 hd1 hf1 => ?_) W1 bs1 _ w3 (.refl _ _) hs3
 refine gA ([4]) 0 ?_
 refine g_retM (W0 := w) (bs0 := []) [] (.int .i64 x.acc) kR kR [D1] kR he1 (fun D' hD' => by rw [List.mem_singleton.1 hD']; exact ⟨hD1, hd1, hf1⟩) (by simp) fun w4 hs4 => ?_
 exact ⟨by rw [hxT], hs4.kept.kept⟩
theorem greatestRow_below (l : List Nod) (W : Wk) (hG : Good l W) (T : Int) (hT : (rowN l W).foldl (mxS belowV) 0 = T) (hrt : ∀ k, k < l.length → rightB (nth l k) = true) (bl ol cl bb bo : Nat) (w : World) (hq : Sat w [] [.row bl ol 19 l.length (rowOf l), .obj false bb (behC W.beh) 3, .obj false bo [.slice (some ⟨bl, ol, none⟩) l.length cl, .slice (some ⟨bb, 0, none⟩) l.length l.length] 141] w) :
  Calls Try.prog 82 #[.func (.func 125) #[] #[.pointer (some ⟨bo, 0, none⟩)], .agg belowL.toArray] w fun e w' => e = .returned (.int .i64 T) ∧ Kept w w' := by
 obtain ⟨hch, hlen⟩ := good_ch hG.walk hG.os
 refine g_enterM (W := w) (args := [.func (.func 125) #[] #[.pointer (some ⟨bo, 0, none⟩)], .agg belowL.toArray]) [] [.row bl ol 19 l.length (rowOf l), .obj false bb (behC W.beh) 3, .obj false bo [.slice (some ⟨bl, ol, none⟩) l.length cl, .slice (some ⟨bb, 0, none⟩) l.length l.length] 141] Try.func82 rfl Try.ntmps82 kL hq ?_
 refine g0 ?_
 refine gN fun b3 hb3 => ?_
 refine g0 ?_
 refine gN fun b4 hb4 => ?_
 refine gA ([4]) 0 ?_
 refine g_range 125 kR (fun L => by kernel_rfl) Try.func125 rfl Try.ntmps125 (fun L => Nat.le_of_ble_eq_true kR) fun L1 W1 bs1 R1 hR1 => ?_
 refine g0 ?_
 refine gN fun b5 hb5 => ?_
 refine g0 ?_
 refine gD 3 ?_
 refine lA (List.replicate 4 2) 0 ?_
 refine l_callq _ _ _ ?_ (fun w hs => nwhole_any (some ⟨bl, ol, none⟩) l.length cl (some ⟨bb, 0, none⟩) l.length l.length w) ?_
 ·kernel_rfl
 refine lE ?_
 refine g_call (X := Nat × Nat) _ _ ?_ (fun x => .func (.func 172) #[] #[.pointer (some ⟨x.2, 0, none⟩), .pointer (some ⟨x.1, 0, none⟩)]) (fun x => [.row bl ol 19 l.length (rowOf l), .obj false bb (behC W.beh) 3, .obj false bo [.slice (some ⟨bl, ol, none⟩) l.length cl, .slice (some ⟨bb, 0, none⟩) l.length l.length] 141, .obj true b3 belowL 162, .obj true b4 [.int .i64 0] 3, .obj true b5 [.func (.yield L1) #[] #[]] 197] ++ [.obj true x.1 [.slice (some ⟨bl, ol, none⟩) l.length cl, .slice (some ⟨bb, 0, none⟩) l.length l.length] 141, .obj true x.2 [.int .i64 0, .int .i64 (l.length : Int)] 147])
  (fun w1 hs => (items_any _ _ _ _ _ _ (0 : Int) (l.length : Int) w1).mono fun e w' ⟨x, he, hx⟩ => ⟨x, he, (Sat.at hs kR).more hx (by simp [HE.own])⟩) (fun x => ?_)
 ·kernel_rfl
 obtain ⟨x1, x2⟩ := x
 refine g0 ?_
 refine g_range 172 kR (fun L => by kernel_rfl) Try.func172 rfl Try.ntmps172 (fun L => Nat.le_of_ble_eq_true kR) fun L2 W2 bs2 R2 hR2 => ?_
 refine gA [7] 0 ?_
 refine g_loopN (X := ERX l W.beh (mxS belowV) T) (fun x => [(4, .int .i64 (x.at_ : Int))]) (fun x => [.row bl ol 19 l.length (rowOf l), .obj false bb (behC W.beh) 3, .obj false bo [.slice (some ⟨bl, ol, none⟩) l.length cl, .slice (some ⟨bb, 0, none⟩) l.length l.length] 141, .obj true b3 belowL 162, .obj true b4 [.int .i64 x.acc] 3, .obj true b5 [.func (.yield L1) #[] #[]] 197, .obj true x1 [.slice (some ⟨bl, ol, none⟩) l.length cl, .slice (some ⟨bb, 0, none⟩) l.length l.length] 141, .obj true x2 [.int .i64 0, .int .i64 (l.length : Int)] 147]) (fun x => l.length - x.at_) ⟨0, hch, 0, hT⟩ kR (by unfold Known; kernel_rfl) kR fun x N hN => ?_
 refine gA [7] 0 ?_
 refine g_dec 11 (decide ((↑x.at_ : Int) < (↑l.length : Int))) kR (fun h11 => ?_) (fun h11 => ?_)
 ·have hlt : x.at_ < l.length := Int.ofNat_lt.1 (of_decide_eq_true h11)
  have hunx := items_unroll x.ch hlt (Nat.le_refl _)
  have hbl := hunx.2.1
  have hbb := hunx.2.2.1
  refine gA [] 2 ?_
  refine g_yield hR2.ready [.int .i64 (x.at_ : Int)] kR kR fun N2 hB2 => ?_
  refine g0 ?_
  refine g_begin hB2 kR kR kR fun W3 bs3 fin3 hx3 hr3 _hsz3 hRd3 => ?_
  have hrec1 := (hR1.ready.ext hR2.ext).past (Nat.ne_of_lt (Nat.lt_of_lt_of_le hR1.ready.lt hR2.new)) hx3
  refine gU 15 [2] 0 ?_
  refine g_val _ _ ?_ (fun w _hs => idx_run (P := Try.prog) (T := 25) (E := 3) (b := bb) (o := 0) (n := l.length) (c := l.length) (k := x.at_) (sz := 1) (kk := .i64) w kR kR hlt) ?_
  ·kernel_rfl
  refine g_val _ _ ?_ (fun w _hs => Sat.objload1 (T := 3) (T' := 3) (i := 1) (b := bb) (k := 0 + x.at_ * 1) (own := false) (cs := behC W.beh) (v := .int .i64 ((W.beh.getD x.at_ 0 : Nat) : Int)) _hs kR (behC_get hbl) kR) ?_
  ·kernel_rfl
  refine g0 ?_
  refine gN fun b8 hb8 => ?_
  refine gU 21 ([8, 8] ++ [2]) 0 ?_
  refine g_val _ _ ?_ (fun w _hs => idx_run (P := Try.prog) (T := 59) (E := 63) (b := bl) (o := ol) (n := l.length) (c := cl) (k := x.at_) (sz := 19) (kk := .i64) w kR kR hlt) ?_
  ·kernel_rfl
  refine gU 23 [] 0 ?_
  refine g_val _ _ ?_ (fun w _hs => Sat.rowload1 (T := 3) (i := 0) (b := bl) (off := ol) (sz := 19) (n := l.length) (k := x.at_) (j := 0) (f := rowOf l) (v := .int .i64 (nth l x.at_).kind) _hs kR hlt kR rfl) ?_
  ·kernel_rfl
  refine g0 ?_
  refine g_dec 24 ((nth l x.at_).kind == 10) kR (fun h24 => ?_) (fun h24 => ?_)
  rotate_left
  ·have h10 : ¬ (nth l x.at_).kind = 10 := fun h => by rw [h] at h24; exact Bool.noConfusion h24
   have hhe : hereF l W.beh x.at_ = (x.at_, W.beh.getD x.at_ 0) := if_neg h10
   have hch2 := here_ch hG hbl hbb
   rw [hhe] at hch2
   have hic := hch2.1
   have hle2 := hch2.2
   refine gA ([2, 2] ++ [8, 8]) 1 ?_
   refine g_call (X := Nat × Nat) _ _ ?_ (fun y => .func (.func 172) #[] #[.pointer (some ⟨y.2, 0, none⟩), .pointer (some ⟨y.1, 0, none⟩)]) (fun y => [.row bl ol 19 l.length (rowOf l), .obj false bb (behC W.beh) 3, .obj false bo [.slice (some ⟨bl, ol, none⟩) l.length cl, .slice (some ⟨bb, 0, none⟩) l.length l.length] 141, .obj true b3 belowL 162, .obj true b4 [.int .i64 x.acc] 3, .obj true b5 [.func (.yield L1) #[] #[]] 197, .obj true x1 [.slice (some ⟨bl, ol, none⟩) l.length cl, .slice (some ⟨bb, 0, none⟩) l.length l.length] 141, .obj true x2 [.int .i64 0, .int .i64 (l.length : Int)] 147, .obj true b8 [.int .i64 (x.at_ : Int), .int .i64 ((W.beh.getD x.at_ 0 : Nat) : Int)] 147] ++ [.obj true y.1 [.slice (some ⟨bl, ol, none⟩) l.length cl, .slice (some ⟨bb, 0, none⟩) l.length l.length] 141, .obj true y.2 [.int .i64 (x.at_ : Int), .int .i64 ((W.beh.getD x.at_ 0 : Nat) : Int)] 147])
    (fun w1 hs => (items_any _ _ _ _ _ _ (x.at_ : Int) ((W.beh.getD x.at_ 0 : Nat) : Int) w1).mono fun e w' ⟨x, he, hx⟩ => ⟨x, he, (Sat.at hs kR).more hx (by simp [HE.own])⟩) (fun y => ?_)
   ·kernel_rfl
   obtain ⟨y1, y2⟩ := y
   refine g0 ?_
   refine g_rangeR hr3 172 kR (fun L => by kernel_rfl) Try.func172 rfl Try.ntmps172 (fun L => Nat.le_of_ble_eq_true kR) fun L4 W4 bs4 R4 hR4 => ?_
   refine gA ([10]) 0 ?_
   refine g_loopN (X := EIX l W.beh (mxS belowV) (W.beh.getD x.at_ 0) ((partN l W.beh x.at_).foldl (mxS belowV) x.acc)) (fun z => [(4, .int .i64 (z.at_ : Int))]) (fun z => [.row bl ol 19 l.length (rowOf l), .obj false bb (behC W.beh) 3, .obj false bo [.slice (some ⟨bl, ol, none⟩) l.length cl, .slice (some ⟨bb, 0, none⟩) l.length l.length] 141, .obj true b3 belowL 162, .obj true b4 [.int .i64 z.acc] 3, .obj true b5 [.func (.yield L1) #[] #[]] 197, .obj true x1 [.slice (some ⟨bl, ol, none⟩) l.length cl, .slice (some ⟨bb, 0, none⟩) l.length l.length] 141, .obj true x2 [.int .i64 0, .int .i64 (l.length : Int)] 147, .obj true b8 [.int .i64 (x.at_ : Int), .int .i64 ((W.beh.getD x.at_ 0 : Nat) : Int)] 147, .obj true y1 [.slice (some ⟨bl, ol, none⟩) l.length cl, .slice (some ⟨bb, 0, none⟩) l.length l.length] 141, .obj true y2 [.int .i64 (x.at_ : Int), .int .i64 ((W.beh.getD x.at_ 0 : Nat) : Int)] 147]) (fun z => (W.beh.getD x.at_ 0) - z.at_) (x.into2 hhe hic) kR (by unfold Known; kernel_rfl) kR fun z M hM => ?_
   refine gA [10] 0 ?_
   refine g_dec 11 (decide ((↑z.at_ : Int) < (↑(W.beh.getD x.at_ 0) : Int))) kR (fun h11b => ?_) (fun h11b => ?_)
   ·have hlt2 : z.at_ < (W.beh.getD x.at_ 0) := Int.ofNat_lt.1 (of_decide_eq_true h11b)
    have hun2 := items_unroll z.ch hlt2 hle2
    have hbl2 := hun2.2.1
    have hlt3 : z.at_ < l.length := Nat.lt_of_lt_of_le hlt2 hle2
    refine gA [] 2 ?_
    refine g_yield hR4.ready [.int .i64 (z.at_ : Int)] kR kR fun N5 hB5 => ?_
    refine g0 ?_
    refine g_begin hB5 kR kR kR fun W5 bs5 fin5 hx5 _hr5 _hsz5 hRd5 => ?_
    have hrec2 := (hrec1.ext hR4.ext).past (rec_apart hrec1.lt hR4.new) hx5
    refine g0 ?_
    refine gD 6 ?_
    refine lU 37 [5, 2] 0 ?_
    refine l_val _ _ ?_ (fun w _hs => .inl (idx_run (P := Try.prog) (T := 59) (E := 63) (b := bl) (o := ol) (n := l.length) (c := cl) (k := z.at_) (sz := 19) (kk := .i64) w kR kR hlt3)) ?_
    ·kernel_rfl
    refine l_val _ _ ?_ (fun w _hs => .inl (Sat.rowload (T := 63) (i := 0) (b := bl) (off := ol) (sz := 19) (n := l.length) (k := z.at_) (f := rowOf l) _hs kR hlt3 kR kR rfl)) ?_
    ·kernel_rfl
    refine lE ?_
    refine g_yield hrec2 [nodV (nth l z.at_)] kR kR fun N6 hB6 => ?_
    refine g0 ?_
    refine gN fun b11 hb11 => ?_
    refine gA (List.replicate 19 11) 0 ?_
    refine g_begin hB6 kR kR kR fun W6 bs6 fin6 _hx6 _hr6 _hsz6 hRd6 => ?_
    have hk := kind_of_list hrt hlt3
    refine gA (List.replicate 19 11) 0 ?_
    refine gD 4 ?_
    refine lA ([4] ++ List.replicate 19 11) 0 ?_
    refine l_callq _ _ _ ?_ (fun w hs => of_below_any (nth l z.at_) hk.1 hk.2 b3 w (hs.obj (o := true) (i := 3) kR)) ?_
    ·kernel_rfl
    refine l0 ?_
    refine lE ?_
    refine gA ([4]) 0 ?_
    refine g_take 11 ?_
    refine g_end hRd6 kR (.refl _ _) ?_
    refine gA [] 1 ?_
    refine g_end hRd5 kR (.refl _ _) ?_
    refine gU 19 [9] 1 ?_
    refine g_val _ _ ?_ (fun w _hs => idx_run (P := Try.prog) (T := 25) (E := 3) (b := bb) (o := 0) (n := l.length) (c := l.length) (k := z.at_) (sz := 1) (kk := .i64) w kR kR hlt3) ?_
    ·kernel_rfl
    refine g_val _ _ ?_ (fun w _hs => Sat.objload1 (T := 3) (T' := 3) (i := 1) (b := bb) (k := 0 + z.at_ * 1) (own := false) (cs := behC W.beh) (v := .int .i64 ((W.beh.getD z.at_ 0 : Nat) : Int)) _hs kR (behC_get hbl2) kR) ?_
    ·kernel_rfl
    refine g0 ?_
    exact g_hook (hM (z.next hlt2 hle2) (Nat.sub_lt_sub_left hlt2 hun2.2.2.1)) kR kR kR (by unfold Known; kernel_rfl) kR kR
   have hge2 : ¬ z.at_ < (W.beh.getD x.at_ 0) := fun hx => of_decide_eq_false h11b (Int.ofNat_lt.2 hx)
   refine gA [] 4 ?_
   refine g_retM (W0 := W4) (bs0 := bs4) [] (Value.tuple #[]) kR kR [] kR (.refl _ _) (fun D hD => by cases hD) List.nodup_nil fun w2 hs2 => ?_
   refine hR4.back _ ?_ W4 bs4 _ w2 (.refl _ _) hs2
   refine g0 ?_
   refine g_take 8 ?_
   refine g_end hRd3 kR (.refl _ _) ?_
   refine gU 19 [6] 1 ?_
   refine g_val _ _ ?_ (fun w _hs => idx_run (P := Try.prog) (T := 25) (E := 3) (b := bb) (o := 0) (n := l.length) (c := l.length) (k := x.at_) (sz := 1) (kk := .i64) w kR kR hlt) ?_
   ·kernel_rfl
   refine g_val _ _ ?_ (fun w _hs => Sat.objload1 (T := 3) (T' := 3) (i := 1) (b := bb) (k := 0 + x.at_ * 1) (own := false) (cs := behC W.beh) (v := .int .i64 ((W.beh.getD x.at_ 0 : Nat) : Int)) _hs kR (behC_get hbl) kR) ?_
   ·kernel_rfl
   refine g0 ?_
   exact g_hook (hN (x.next hlt z hge2) (Nat.sub_lt_sub_left hlt hbb)) kR kR kR (by unfold Known; kernel_rfl) kR kR
  have h10 : (nth l x.at_).kind = 10 := of_ten h24
  refine Exists.elim (three_of hG (Nat.ne_of_gt (Nat.lt_of_le_of_lt (Nat.zero_le _) hbb)) h10) fun s1 q => Exists.elim q fun s2 q => Exists.elim q fun e3 ht => ?_
  have t := ht.1
  have hhe : hereF l W.beh x.at_ = (s2 + 1, e3) := (if_pos h10).trans ht.2
  have hic : Ch W.beh (s2 + 1) e3 := t.h3
  have hle2 : e3 ≤ l.length := hlen ▸ Nat.le_of_lt t.he
  refine gA ([2, 2]) 1 ?_
  refine g_callq _ _ _ ?_ (fun w hs => parts_row (bb := bb) (some ⟨bl, ol, none⟩) l.length cl t hlen hG.le w (hs.obj (o := false) (i := 1) kR)) ?_
  ·kernel_rfl
  refine gA ([8, 8] ++ [2, 2] ++ [8, 8]) 0 ?_
  refine g_call (X := Nat × Nat) _ _ ?_ (fun y => .func (.func 172) #[] #[.pointer (some ⟨y.2, 0, none⟩), .pointer (some ⟨y.1, 0, none⟩)]) (fun y => [.row bl ol 19 l.length (rowOf l), .obj false bb (behC W.beh) 3, .obj false bo [.slice (some ⟨bl, ol, none⟩) l.length cl, .slice (some ⟨bb, 0, none⟩) l.length l.length] 141, .obj true b3 belowL 162, .obj true b4 [.int .i64 x.acc] 3, .obj true b5 [.func (.yield L1) #[] #[]] 197, .obj true x1 [.slice (some ⟨bl, ol, none⟩) l.length cl, .slice (some ⟨bb, 0, none⟩) l.length l.length] 141, .obj true x2 [.int .i64 0, .int .i64 (l.length : Int)] 147, .obj true b8 [.int .i64 ((s2 + 1 : Nat) : Int), .int .i64 (e3 : Int)] 147] ++ [.obj true y.1 [.slice (some ⟨bl, ol, none⟩) l.length cl, .slice (some ⟨bb, 0, none⟩) l.length l.length] 141, .obj true y.2 [.int .i64 ((s2 + 1 : Nat) : Int), .int .i64 (e3 : Int)] 147])
   (fun w1 hs => (items_any _ _ _ _ _ _ ((s2 + 1 : Nat) : Int) (e3 : Int) w1).mono fun e w' ⟨x, he, hx⟩ => ⟨x, he, (Sat.at hs kR).more hx (by simp [HE.own])⟩) (fun y => ?_)
  ·kernel_rfl
  obtain ⟨y1, y2⟩ := y
  refine g0 ?_
  refine g_rangeR hr3 172 kR (fun L => by kernel_rfl) Try.func172 rfl Try.ntmps172 (fun L => Nat.le_of_ble_eq_true kR) fun L4 W4 bs4 R4 hR4 => ?_
  refine gA ([10]) 0 ?_
  refine g_loopN (X := EIX l W.beh (mxS belowV) e3 ((partN l W.beh x.at_).foldl (mxS belowV) x.acc)) (fun z => [(4, .int .i64 (z.at_ : Int))]) (fun z => [.row bl ol 19 l.length (rowOf l), .obj false bb (behC W.beh) 3, .obj false bo [.slice (some ⟨bl, ol, none⟩) l.length cl, .slice (some ⟨bb, 0, none⟩) l.length l.length] 141, .obj true b3 belowL 162, .obj true b4 [.int .i64 z.acc] 3, .obj true b5 [.func (.yield L1) #[] #[]] 197, .obj true x1 [.slice (some ⟨bl, ol, none⟩) l.length cl, .slice (some ⟨bb, 0, none⟩) l.length l.length] 141, .obj true x2 [.int .i64 0, .int .i64 (l.length : Int)] 147, .obj true b8 [.int .i64 ((s2 + 1 : Nat) : Int), .int .i64 (e3 : Int)] 147, .obj true y1 [.slice (some ⟨bl, ol, none⟩) l.length cl, .slice (some ⟨bb, 0, none⟩) l.length l.length] 141, .obj true y2 [.int .i64 ((s2 + 1 : Nat) : Int), .int .i64 (e3 : Int)] 147]) (fun z => e3 - z.at_) (x.into2 hhe hic) kR (by unfold Known; kernel_rfl) kR fun z M hM => ?_
  refine gA [10] 0 ?_
  refine g_dec 11 (decide ((↑z.at_ : Int) < (↑e3 : Int))) kR (fun h11b => ?_) (fun h11b => ?_)
  ·have hlt2 : z.at_ < e3 := Int.ofNat_lt.1 (of_decide_eq_true h11b)
   have hun2 := items_unroll z.ch hlt2 hle2
   have hbl2 := hun2.2.1
   have hlt3 : z.at_ < l.length := Nat.lt_of_lt_of_le hlt2 hle2
   refine gA [] 2 ?_
   refine g_yield hR4.ready [.int .i64 (z.at_ : Int)] kR kR fun N5 hB5 => ?_
   refine g0 ?_
   refine g_begin hB5 kR kR kR fun W5 bs5 fin5 hx5 _hr5 _hsz5 hRd5 => ?_
   have hrec2 := (hrec1.ext hR4.ext).past (rec_apart hrec1.lt hR4.new) hx5
   refine g0 ?_
   refine gD 6 ?_
   refine lU 37 [5, 2] 0 ?_
   refine l_val _ _ ?_ (fun w _hs => .inl (idx_run (P := Try.prog) (T := 59) (E := 63) (b := bl) (o := ol) (n := l.length) (c := cl) (k := z.at_) (sz := 19) (kk := .i64) w kR kR hlt3)) ?_
   ·kernel_rfl
   refine l_val _ _ ?_ (fun w _hs => .inl (Sat.rowload (T := 63) (i := 0) (b := bl) (off := ol) (sz := 19) (n := l.length) (k := z.at_) (f := rowOf l) _hs kR hlt3 kR kR rfl)) ?_
   ·kernel_rfl
   refine lE ?_
   refine g_yield hrec2 [nodV (nth l z.at_)] kR kR fun N6 hB6 => ?_
   refine g0 ?_
   refine gN fun b11 hb11 => ?_
   refine gA (List.replicate 19 11) 0 ?_
   refine g_begin hB6 kR kR kR fun W6 bs6 fin6 _hx6 _hr6 _hsz6 hRd6 => ?_
   have hk := kind_of_list hrt hlt3
   refine gA (List.replicate 19 11) 0 ?_
   refine gD 4 ?_
   refine lA ([4] ++ List.replicate 19 11) 0 ?_
   refine l_callq _ _ _ ?_ (fun w hs => of_below_any (nth l z.at_) hk.1 hk.2 b3 w (hs.obj (o := true) (i := 3) kR)) ?_
   ·kernel_rfl
   refine l0 ?_
   refine lE ?_
   refine gA ([4]) 0 ?_
   refine g_take 11 ?_
   refine g_end hRd6 kR (.refl _ _) ?_
   refine gA [] 1 ?_
   refine g_end hRd5 kR (.refl _ _) ?_
   refine gU 19 [9] 1 ?_
   refine g_val _ _ ?_ (fun w _hs => idx_run (P := Try.prog) (T := 25) (E := 3) (b := bb) (o := 0) (n := l.length) (c := l.length) (k := z.at_) (sz := 1) (kk := .i64) w kR kR hlt3) ?_
   ·kernel_rfl
   refine g_val _ _ ?_ (fun w _hs => Sat.objload1 (T := 3) (T' := 3) (i := 1) (b := bb) (k := 0 + z.at_ * 1) (own := false) (cs := behC W.beh) (v := .int .i64 ((W.beh.getD z.at_ 0 : Nat) : Int)) _hs kR (behC_get hbl2) kR) ?_
   ·kernel_rfl
   refine g0 ?_
   exact g_hook (hM (z.next hlt2 hle2) (Nat.sub_lt_sub_left hlt2 hun2.2.2.1)) kR kR kR (by unfold Known; kernel_rfl) kR kR
  have hge2 : ¬ z.at_ < e3 := fun hx => of_decide_eq_false h11b (Int.ofNat_lt.2 hx)
  refine gA [] 4 ?_
  refine g_retM (W0 := W4) (bs0 := bs4) [] (Value.tuple #[]) kR kR [] kR (.refl _ _) (fun D hD => by cases hD) List.nodup_nil fun w2 hs2 => ?_
  refine hR4.back _ ?_ W4 bs4 _ w2 (.refl _ _) hs2
  refine g0 ?_
  refine g_take 8 ?_
  refine g_end hRd3 kR (.refl _ _) ?_
  refine gU 19 [6] 1 ?_
  refine g_val _ _ ?_ (fun w _hs => idx_run (P := Try.prog) (T := 25) (E := 3) (b := bb) (o := 0) (n := l.length) (c := l.length) (k := x.at_) (sz := 1) (kk := .i64) w kR kR hlt) ?_
  ·kernel_rfl
  refine g_val _ _ ?_ (fun w _hs => Sat.objload1 (T := 3) (T' := 3) (i := 1) (b := bb) (k := 0 + x.at_ * 1) (own := false) (cs := behC W.beh) (v := .int .i64 ((W.beh.getD x.at_ 0 : Nat) : Int)) _hs kR (behC_get hbl) kR) ?_
  ·kernel_rfl
  refine g0 ?_
  exact g_hook (hN (x.next hlt z hge2) (Nat.sub_lt_sub_left hlt hbb)) kR kR kR (by unfold Known; kernel_rfl) kR kR
 have hge : ¬ x.at_ < l.length := fun hx => of_decide_eq_false h11 (Int.ofNat_lt.2 hx)
 have hxT := x.done hge
 refine gA [] 4 ?_
 refine g_retM (W0 := W2) (bs0 := bs2) [] (Value.tuple #[]) kR kR [] kR (.refl _ _) (fun D hD => by cases hD) List.nodup_nil fun w2 hs2 => ?_
 refine hR2.back _ (fun D2 W6 bs6 hD2 he2 hd2 hf2 => ?_) W2 bs2 _ w2 (.refl _ _) hs2
 refine g0 ?_
 refine g_retM (W0 := W1) (bs0 := bs1) [] (Value.tuple #[]) kR kR [D2] kR he2 (fun D' hD' => by rw [List.mem_singleton.1 hD']; exact ⟨hD2, hd2, hf2⟩) (by simp) fun w3 hs3 => ?_
 refine hR1.back _ (fun D1 W7 bs7 hD1 he1 hd1 hf1 => ?_) W1 bs1 _ w3 (.refl _ _) hs3
 refine gA ([4]) 0 ?_
 refine g_retM (W0 := w) (bs0 := []) [] (.int .i64 x.acc) kR kR [D1] kR he1 (fun D' hD' => by rw [List.mem_singleton.1 hD']; exact ⟨hD1, hd1, hf1⟩) (by simp) fun w4 hs4 => ?_
 exact ⟨by rw [hxT], hs4.kept.kept⟩
end Go.Proofs.Ytcncfmjfgdbfeaa
