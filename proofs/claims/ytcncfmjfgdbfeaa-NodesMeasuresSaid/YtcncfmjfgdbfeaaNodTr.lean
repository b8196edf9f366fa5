/- nodes: totals along a row. -/
import Derived.Test.YtcncfmjfgdbfeaaM32
namespace Go.Proofs.Ytcncfmjfgdbfeaa
open Go.RowKit
theorem rec_apart {a b c : Nat} (h1 : a < b) (h2 : b ≤ c) : a ≠ c := by omega
theorem row_at {ss : List Nod} {base : Option Addr} {cap n : Nat} {e : HE} (h : SkIs ss base cap e) (hn : ss.length = n) :
  ∃ oc : List Value, oc.take (ss.length * 5) = glC ss ∧ ∀ (hp : List HE) (i : Nat), hp[i]? = some e → RowAt hp i base n cap 5 oc 61 := by
 subst hn
 exact h.row
theorem big1 {n : Nat} (h : n ≤ 2000) : n + 1 ≤ 9223372036854775807 := by omega
theorem big2 {n : Nat} (h : n ≤ 2000) : (n + 1) * 40 ≤ 140737488355328 := by omega
theorem row_le {l : List Nod} {beh : List Nat} {v : Nod → Int} {to s : Nat} {T : Int} {S : List Nod} (z : RIX l beh v to T S) (h1 : S.length ≤ s) (h2 : s ≤ 2000) : z.n ≤ 2000 := by
 have h3 := z.len
 have h4 := z.hn
 omega
theorem ROX.part_le {l : List Nod} {beh : List Nat} {v : Nod → Int} {T : Int} {S : List Nod} (x : ROX l beh v T S) (h : x.at_ < l.length) : (x.ss ++ skF (partN l beh x.at_)).length ≤ S.length := by
 have h1 := x.isS
 rw [(items_unroll x.ch h (Nat.le_refl _)).1, List.flatMap_cons, skF_app, ← List.append_assoc] at h1
 have h2 := congrArg List.length h1
 rw [List.length_append] at h2
 omega
theorem parts_row {beh : List Nat} {bb at_ s1 s2 e n : Nat} (nb : Option Addr) (nn nc : Nat) (t : Three beh at_ s1 s2 e) (hl : beh.length = n) (hn : n ≤ 2000) (w : World) (hb : w.heap[bb]? = some (.cells (behC beh).toArray 3 (0, 0))) :
  Calls Try.prog 70 #[.agg #[.slice nb nn nc, .slice (some ⟨bb, 0, none⟩) n n], .int .i64 (at_ : Int)] w fun e' w' =>
   e' = .returned (.agg #[.int .i64 ((at_ + 1 : Nat) : Int), .int .i64 (s1 : Int), .int .i64 ((s1 + 1 : Nat) : Int), .int .i64 (s2 : Int), .int .i64 ((s2 + 1 : Nat) : Int), .int .i64 (e : Int)]) ∧ Kept w w' := by
 subst hl
 exact parts_any beh bb at_ s1 s2 e nb nn nc t.h1 t.z1 t.h2 t.z2 t.h3 t.z3 t.he hn w hb
set_option maxRecDepth 100000 in
set_option maxHeartbeats 40000000 in
theorem totRow_any (l : List Nod) (W : Wk) (hG : Good l W) (T : Int) (S : List Nod) (hT : natF alongV (rowN l W) 0 = T) (hS : skF (rowN l W) = S) (hS2 : S.length ≤ 2000) (hSg : ∀ k, k < S.length → gluedB (nth S k) = true) (hrt : ∀ k, k < l.length → rightB (nth l k) = true) (bl ol cl bb bo : Nat) (w : World) (hq : Sat w [] [.row bl ol 19 l.length (rowOf l), .obj false bb (behC W.beh) 3, .obj false bo [.slice (some ⟨bl, ol, none⟩) l.length cl, .slice (some ⟨bb, 0, none⟩) l.length l.length] 141] w) :
  Calls Try.prog 77 #[.func (.func 125) #[] #[.pointer (some ⟨bo, 0, none⟩)], .agg alongL.toArray] w fun e w' => e = .returned (totR (accN S S.length) T) ∧ Kept w w' := by
 obtain ⟨hch, hlen⟩ := good_ch hG.walk hG.os
 refine g_enterM (W := w) (args := [.func (.func 125) #[] #[.pointer (some ⟨bo, 0, none⟩)], .agg alongL.toArray]) [] [.row bl ol 19 l.length (rowOf l), .obj false bb (behC W.beh) 3, .obj false bo [.slice (some ⟨bl, ol, none⟩) l.length cl, .slice (some ⟨bb, 0, none⟩) l.length l.length] 141] Try.func77 rfl Try.ntmps77 kL hq ?_
 refine g0 ?_
 refine gN fun b3 hb3 => ?_
 refine gN fun b4 hb4 => ?_
 refine g0 ?_
 refine gN fun b5 hb5 => ?_
 refine gA ([5]) 0 ?_
 refine gN fun b6 hb6 => ?_
 refine g0 ?_
 refine g_dummy ?_
 refine g_range 125 kR (fun L => by kernel_rfl) Try.func125 rfl Try.ntmps125 (fun L => Nat.le_of_ble_eq_true kR) fun L1 W1 bs1 R1 hR1 => ?_
 refine g0 ?_
 refine gN fun b8 hb8 => ?_
 refine g0 ?_
 refine gD 3 ?_
 refine lA (List.replicate 4 2) 0 ?_
 refine l_callq _ _ _ ?_ (fun w hs => nwhole_any (some ⟨bl, ol, none⟩) l.length cl (some ⟨bb, 0, none⟩) l.length l.length w) ?_
 ·kernel_rfl
 refine lE ?_
 refine g_call (X := Nat × Nat) _ _ ?_ (fun x => .func (.func 172) #[] #[.pointer (some ⟨x.2, 0, none⟩), .pointer (some ⟨x.1, 0, none⟩)]) (fun x => [.row bl ol 19 l.length (rowOf l), .obj false bb (behC W.beh) 3, .obj false bo [.slice (some ⟨bl, ol, none⟩) l.length cl, .slice (some ⟨bb, 0, none⟩) l.length l.length] 141, .obj true b3 alongL 162, .obj true b4 [.int .i64 0, .int .i64 0, .int .i64 0, .int .i64 0, .int .i64 0, .int .i64 0, .int .i64 0, .int .i64 0, .int .i64 0] 81, .obj true b5 [.int .i64 0] 3, .obj true b6 [.slice none 0 0] 203, noneE, .obj true b8 [.func (.yield L1) #[] #[]] 197] ++ [.obj true x.1 [.slice (some ⟨bl, ol, none⟩) l.length cl, .slice (some ⟨bb, 0, none⟩) l.length l.length] 141, .obj true x.2 [.int .i64 0, .int .i64 (l.length : Int)] 147])
  (fun w1 hs => (items_any _ _ _ _ _ _ (0 : Int) (l.length : Int) w1).mono fun e w' ⟨x, he, hx⟩ => ⟨x, he, (Sat.at hs kR).more hx (by simp [HE.own])⟩) (fun x => ?_)
 ·kernel_rfl
 obtain ⟨x1, x2⟩ := x
 refine g0 ?_
 refine g_range 172 kR (fun L => by kernel_rfl) Try.func172 rfl Try.ntmps172 (fun L => Nat.le_of_ble_eq_true kR) fun L2 W2 bs2 R2 hR2 => ?_
 refine gA [10] 0 ?_
 refine g_loopN (X := ROX l W.beh alongV T S) (fun x => [(4, .int .i64 (x.at_ : Int))]) (fun x => [.row bl ol 19 l.length (rowOf l), .obj false bb (behC W.beh) 3, .obj false bo [.slice (some ⟨bl, ol, none⟩) l.length cl, .slice (some ⟨bb, 0, none⟩) l.length l.length] 141, .obj true b3 alongL 162, .obj true b4 [.int .i64 0, .int .i64 0, .int .i64 0, .int .i64 0, .int .i64 0, .int .i64 0, .int .i64 0, .int .i64 0, .int .i64 0] 81, .obj true b5 [.int .i64 x.nat] 3, .obj true b6 [.slice x.base x.n x.cap] 203, x.e, .obj true b8 [.func (.yield L1) #[] #[]] 197, .obj true x1 [.slice (some ⟨bl, ol, none⟩) l.length cl, .slice (some ⟨bb, 0, none⟩) l.length l.length] 141, .obj true x2 [.int .i64 0, .int .i64 (l.length : Int)] 147]) (fun x => l.length - x.at_) ⟨0, hch, 0, [], none, 0, noneE, .inl ⟨rfl, rfl, rfl⟩, 0, rfl, hT, by rw [List.nil_append]; exact hS⟩ kR (by unfold Known; kernel_rfl) kR fun x N hN => ?_
 refine gA [10] 0 ?_
 refine g_dec 11 (decide ((↑x.at_ : Int) < (↑l.length : Int))) kR (fun h11 => ?_) (fun h11 => ?_)
 ·have hlt : x.at_ < l.length := by clear hN hq; simpa using h11
  obtain ⟨hun, hbl, hbb, hcn⟩ := items_unroll x.ch hlt (Nat.le_refl _)
  refine gA [] 2 ?_
  refine g_yield hR2.ready [.int .i64 (x.at_ : Int)] kR kR fun N2 hB2 => ?_
  refine g0 ?_
  refine g_begin hB2 kR kR kR fun W3 bs3 fin3 hx3 hr3 _hsz3 hRd3 => ?_
  have hrec1 := (hR1.ready.ext hR2.ext).past (by have := hR1.ready.lt; have := hR2.new; omega) hx3
  refine gU 15 [2] 0 ?_
  refine g_val _ _ ?_ (fun w _hs => idx_run (P := Try.prog) (T := 25) (E := 3) (b := bb) (o := 0) (n := l.length) (c := l.length) (k := x.at_) (sz := 1) (kk := .i64) w kR kR hlt) ?_
  ·kernel_rfl
  refine g_val _ _ ?_ (fun w _hs => Sat.objload1 (T := 3) (T' := 3) (i := 1) (b := bb) (k := 0 + x.at_ * 1) (own := false) (cs := behC W.beh) (v := .int .i64 ((W.beh.getD x.at_ 0 : Nat) : Int)) _hs kR (behC_get hbl) kR) ?_
  ·kernel_rfl
  refine g0 ?_
  refine gN fun b11 hb11 => ?_
  refine gU 21 ([11, 11] ++ [2]) 0 ?_
  refine g_val _ _ ?_ (fun w _hs => idx_run (P := Try.prog) (T := 59) (E := 63) (b := bl) (o := ol) (n := l.length) (c := cl) (k := x.at_) (sz := 19) (kk := .i64) w kR kR hlt) ?_
  ·kernel_rfl
  refine gU 23 [] 0 ?_
  refine g_val _ _ ?_ (fun w _hs => Sat.rowload1 (T := 3) (i := 0) (b := bl) (off := ol) (sz := 19) (n := l.length) (k := x.at_) (j := 0) (f := rowOf l) (v := .int .i64 (nth l x.at_).kind) _hs kR hlt kR rfl) ?_
  ·kernel_rfl
  refine g0 ?_
  refine g_dec 24 ((nth l x.at_).kind == 10) kR (fun h24 => ?_) (fun h24 => ?_)
  rotate_left
  ·have h10 : ¬ (nth l x.at_).kind = 10 := by clear hN hq; simpa using h24
   have hhe : hereF l W.beh x.at_ = (x.at_, W.beh.getD x.at_ 0) := by unfold hereF; rw [if_neg h10]
   obtain ⟨hic, hle2⟩ := here_ch hG hbl hbb
   rw [hhe] at hic hle2
   refine gA ([2, 2] ++ [11, 11]) 1 ?_
   refine g_call (X := Nat × Nat) _ _ ?_ (fun y => .func (.func 172) #[] #[.pointer (some ⟨y.2, 0, none⟩), .pointer (some ⟨y.1, 0, none⟩)]) (fun y => [.row bl ol 19 l.length (rowOf l), .obj false bb (behC W.beh) 3, .obj false bo [.slice (some ⟨bl, ol, none⟩) l.length cl, .slice (some ⟨bb, 0, none⟩) l.length l.length] 141, .obj true b3 alongL 162, .obj true b4 [.int .i64 0, .int .i64 0, .int .i64 0, .int .i64 0, .int .i64 0, .int .i64 0, .int .i64 0, .int .i64 0, .int .i64 0] 81, .obj true b5 [.int .i64 x.nat] 3, .obj true b6 [.slice x.base x.n x.cap] 203, x.e, .obj true b8 [.func (.yield L1) #[] #[]] 197, .obj true x1 [.slice (some ⟨bl, ol, none⟩) l.length cl, .slice (some ⟨bb, 0, none⟩) l.length l.length] 141, .obj true x2 [.int .i64 0, .int .i64 (l.length : Int)] 147, .obj true b11 [.int .i64 (x.at_ : Int), .int .i64 ((W.beh.getD x.at_ 0 : Nat) : Int)] 147] ++ [.obj true y.1 [.slice (some ⟨bl, ol, none⟩) l.length cl, .slice (some ⟨bb, 0, none⟩) l.length l.length] 141, .obj true y.2 [.int .i64 (x.at_ : Int), .int .i64 ((W.beh.getD x.at_ 0 : Nat) : Int)] 147])
    (fun w1 hs => (items_any _ _ _ _ _ _ (x.at_ : Int) ((W.beh.getD x.at_ 0 : Nat) : Int) w1).mono fun e w' ⟨x, he, hx⟩ => ⟨x, he, (Sat.at hs kR).more hx (by simp [HE.own])⟩) (fun y => ?_)
   ·kernel_rfl
   obtain ⟨y1, y2⟩ := y
   refine g0 ?_
   refine g_rangeR hr3 172 kR (fun L => by kernel_rfl) Try.func172 rfl Try.ntmps172 (fun L => Nat.le_of_ble_eq_true kR) fun L4 W4 bs4 R4 hR4 => ?_
   refine gA ([13]) 0 ?_
   refine g_loopN (X := RIX l W.beh alongV (W.beh.getD x.at_ 0) (natF alongV (partN l W.beh x.at_) x.nat) (x.ss ++ skF (partN l W.beh x.at_))) (fun z => [(4, .int .i64 (z.at_ : Int))]) (fun z => [.row bl ol 19 l.length (rowOf l), .obj false bb (behC W.beh) 3, .obj false bo [.slice (some ⟨bl, ol, none⟩) l.length cl, .slice (some ⟨bb, 0, none⟩) l.length l.length] 141, .obj true b3 alongL 162, .obj true b4 [.int .i64 0, .int .i64 0, .int .i64 0, .int .i64 0, .int .i64 0, .int .i64 0, .int .i64 0, .int .i64 0, .int .i64 0] 81, .obj true b5 [.int .i64 z.nat] 3, .obj true b6 [.slice z.base z.n z.cap] 203, z.e, .obj true b8 [.func (.yield L1) #[] #[]] 197, .obj true x1 [.slice (some ⟨bl, ol, none⟩) l.length cl, .slice (some ⟨bb, 0, none⟩) l.length l.length] 141, .obj true x2 [.int .i64 0, .int .i64 (l.length : Int)] 147, .obj true b11 [.int .i64 (x.at_ : Int), .int .i64 ((W.beh.getD x.at_ 0 : Nat) : Int)] 147, .obj true y1 [.slice (some ⟨bl, ol, none⟩) l.length cl, .slice (some ⟨bb, 0, none⟩) l.length l.length] 141, .obj true y2 [.int .i64 (x.at_ : Int), .int .i64 ((W.beh.getD x.at_ 0 : Nat) : Int)] 147]) (fun z => W.beh.getD x.at_ 0 - z.at_) (x.into2 hhe hic) kR (by unfold Known; kernel_rfl) kR fun z M hM => ?_
   refine gA [13] 0 ?_
   refine g_dec 11 (decide ((↑z.at_ : Int) < (↑(W.beh.getD x.at_ 0) : Int))) kR (fun h11b => ?_) (fun h11b => ?_)
   ·have hlt2 : z.at_ < W.beh.getD x.at_ 0 := by clear hM hN hq; exact Int.ofNat_lt.1 (of_decide_eq_true h11b)
    have hun2 := items_unroll z.ch hlt2 hle2
    have hbl2 := hun2.2.1
    have hlt3 : z.at_ < l.length := Nat.lt_of_lt_of_le hlt2 hle2
    refine gA [] 2 ?_
    refine g_yield hR4.ready [.int .i64 (z.at_ : Int)] kR kR fun N5 hB5 => ?_
    refine g0 ?_
    refine g_begin hB5 kR kR kR fun W5 bs5 fin5 hx5 _hr5 _hsz5 hRd5 => ?_
    have hrec2 := (hrec1.ext hR4.ext).past (rec_apart hrec1.lt hR4.new) hx5
    refine g0 ?_
    refine gD 6 ?_
    refine lU 37 [8, 2] 0 ?_
    refine l_val _ _ ?_ (fun w _hs => .inl (idx_run (P := Try.prog) (T := 59) (E := 63) (b := bl) (o := ol) (n := l.length) (c := cl) (k := z.at_) (sz := 19) (kk := .i64) w kR kR hlt3)) ?_
    ·kernel_rfl
    refine l_val _ _ ?_ (fun w _hs => .inl (Sat.rowload (T := 63) (i := 0) (b := bl) (off := ol) (sz := 19) (n := l.length) (k := z.at_) (f := rowOf l) _hs kR hlt3 kR kR rfl)) ?_
    ·kernel_rfl
    refine lE ?_
    refine g_yield hrec2 [nodV (nth l z.at_)] kR kR fun N6 hB6 => ?_
    refine g0 ?_
    refine gN fun b14 hb14 => ?_
    refine gA (List.replicate 19 14) 0 ?_
    refine g_begin hB6 kR kR kR fun W6 bs6 fin6 _hx6 _hr6 _hsz6 hRd6 => ?_
    have hk1 := (kind_in (hrt z.at_ hlt3)).1
    have hk2 := (kind_in (hrt z.at_ hlt3)).2
    have hzn : z.n ≤ 2000 := row_le z (x.part_le hlt) hS2
    refine gA ([14]) 0 ?_
    refine g_dec 15 ((nth l z.at_).kind == 7) kR (fun h15 => ?_) (fun h15 => ?_)
    ·have h7 : (nth l z.at_).kind = 7 := by clear hM hN hq; simpa using h15
     refine gA ([6] ++ List.replicate 5 14) 1 ?_
     refine gN fun b12 hb12 => ?_
     have hxn := z.hn
     refine Exists.elim (row_at z.sk hxn) fun oc hoc => ?_
     have htk := hoc.1
     have hro := hoc.2
     refine g_append 7 15 203 61 61 z.base z.n z.cap 5 1 1 b12 40 oc (gC (nth l z.at_)) true kR kR kR (info_of kR) (hro _ 7 kR) kR rfl (by simp [gC, Value.oneCell']) Nat.one_pos (big1 hzn) (big2 hzn) fun b' cap' cs' _hb' hc' hl' ht' => ?_
     refine gA ([6]) 0 ?_
     refine gD 4 ?_
     refine lA ([5] ++ List.replicate 19 14) 0 ?_
     refine l_callq _ _ _ ?_ (fun w hs => of_along_any (nth l z.at_) hk1 hk2 b3 w (hs.obj (o := true) (i := 3) kR)) ?_
     ·kernel_rfl
     refine l0 ?_
     refine lE ?_
     refine gA ([5]) 0 ?_
     refine g_take 14 ?_
     refine g_end hRd6 kR (.refl _ _) ?_
     refine gA [] 1 ?_
     refine g_end hRd5 kR (.refl _ _) ?_
     refine gU 19 [12] 1 ?_
     refine g_val _ _ ?_ (fun w _hs => idx_run (P := Try.prog) (T := 25) (E := 3) (b := bb) (o := 0) (n := l.length) (c := l.length) (k := z.at_) (sz := 1) (kk := .i64) w kR kR hlt3) ?_
     ·kernel_rfl
     refine g_val _ _ ?_ (fun w _hs => Sat.objload1 (T := 3) (T' := 3) (i := 1) (b := bb) (k := 0 + z.at_ * 1) (own := false) (cs := behC W.beh) (v := .int .i64 ((W.beh.getD z.at_ 0 : Nat) : Int)) _hs kR (behC_get hbl2) kR) ?_
     ·kernel_rfl
     refine g0 ?_
     exact g_hook (hM (z.next hlt2 hle2 (z.ss ++ [nth l z.at_]) (some ⟨b', 0, none⟩) cap' (.obj true b' cs' 61) (SkIs.grow htk (by rw [hxn]; exact hc') hl' (by rw [hxn]; exact ht')) (z.n + 1) (by simp [hxn]) (by rw [if_pos h7])) (Nat.sub_lt_sub_left hlt2 hun2.2.2.1)) kR kR kR (by unfold Known; kernel_rfl) kR kR
    have h7 : ¬ (nth l z.at_).kind = 7 := by clear hM hN hq; simpa using h15
    refine gA [] 1 ?_
    refine gD 4 ?_
    refine lA ([5] ++ List.replicate 19 14) 0 ?_
    refine l_callq _ _ _ ?_ (fun w hs => of_along_any (nth l z.at_) hk1 hk2 b3 w (hs.obj (o := true) (i := 3) kR)) ?_
    ·kernel_rfl
    refine l0 ?_
    refine lE ?_
    refine gA ([5]) 0 ?_
    refine g_take 14 ?_
    refine g_end hRd6 kR (.refl _ _) ?_
    refine gA [] 1 ?_
    refine g_end hRd5 kR (.refl _ _) ?_
    refine gU 19 [12] 1 ?_
    refine g_val _ _ ?_ (fun w _hs => idx_run (P := Try.prog) (T := 25) (E := 3) (b := bb) (o := 0) (n := l.length) (c := l.length) (k := z.at_) (sz := 1) (kk := .i64) w kR kR hlt3) ?_
    ·kernel_rfl
    refine g_val _ _ ?_ (fun w _hs => Sat.objload1 (T := 3) (T' := 3) (i := 1) (b := bb) (k := 0 + z.at_ * 1) (own := false) (cs := behC W.beh) (v := .int .i64 ((W.beh.getD z.at_ 0 : Nat) : Int)) _hs kR (behC_get hbl2) kR) ?_
    ·kernel_rfl
    refine g0 ?_
    exact g_hook (hM (z.next hlt2 hle2 z.ss z.base z.cap z.e z.sk z.n z.hn (by rw [if_neg h7])) (Nat.sub_lt_sub_left hlt2 hun2.2.2.1)) kR kR kR (by unfold Known; kernel_rfl) kR kR
   have hge2 : ¬ z.at_ < W.beh.getD x.at_ 0 := by clear hM hN hq; exact fun h => absurd (decide_eq_true (Int.ofNat_lt.2 h)) (by simpa using h11b)
   refine gA [] 4 ?_
   refine g_retM (W0 := W4) (bs0 := bs4) [] (Value.tuple #[]) kR kR [] kR (.refl _ _) (fun D hD => by cases hD) List.nodup_nil fun w2 hs2 => ?_
   refine hR4.back _ ?_ W4 bs4 _ w2 (.refl _ _) hs2
   refine g0 ?_
   refine g_take 11 ?_
   refine g_end hRd3 kR (.refl _ _) ?_
   refine gU 19 [9] 1 ?_
   refine g_val _ _ ?_ (fun w _hs => idx_run (P := Try.prog) (T := 25) (E := 3) (b := bb) (o := 0) (n := l.length) (c := l.length) (k := x.at_) (sz := 1) (kk := .i64) w kR kR hlt) ?_
   ·kernel_rfl
   refine g_val _ _ ?_ (fun w _hs => Sat.objload1 (T := 3) (T' := 3) (i := 1) (b := bb) (k := 0 + x.at_ * 1) (own := false) (cs := behC W.beh) (v := .int .i64 ((W.beh.getD x.at_ 0 : Nat) : Int)) _hs kR (behC_get hbl) kR) ?_
   ·kernel_rfl
   refine g0 ?_
   exact g_hook (hN (x.next hlt z hge2) (Nat.sub_lt_sub_left hlt hbb)) kR kR kR (by unfold Known; kernel_rfl) kR kR
  have h10 : (nth l x.at_).kind = 10 := by clear hN hq; simpa using h24
  refine Exists.elim (three_of hG (Nat.ne_of_gt (Nat.lt_of_le_of_lt (Nat.zero_le _) hbb)) h10) fun s1 q => Exists.elim q fun s2 q => Exists.elim q fun e3 ht => ?_
  have t := ht.1
  have hhe : hereF l W.beh x.at_ = (s2 + 1, e3) := by unfold hereF; rw [if_pos h10]; exact ht.2
  have hic : Ch W.beh (s2 + 1) e3 := t.h3
  have hle2 : e3 ≤ l.length := hlen ▸ Nat.le_of_lt t.he
  refine gA ([2, 2]) 1 ?_
  refine g_callq _ _ _ ?_ (fun w hs => parts_row (bb := bb) (some ⟨bl, ol, none⟩) l.length cl t hlen hG.le w (hs.obj (o := false) (i := 1) kR)) ?_
  ·kernel_rfl
  refine gA ([11, 11] ++ [2, 2] ++ [11, 11]) 0 ?_
  refine g_call (X := Nat × Nat) _ _ ?_ (fun y => .func (.func 172) #[] #[.pointer (some ⟨y.2, 0, none⟩), .pointer (some ⟨y.1, 0, none⟩)]) (fun y => [.row bl ol 19 l.length (rowOf l), .obj false bb (behC W.beh) 3, .obj false bo [.slice (some ⟨bl, ol, none⟩) l.length cl, .slice (some ⟨bb, 0, none⟩) l.length l.length] 141, .obj true b3 alongL 162, .obj true b4 [.int .i64 0, .int .i64 0, .int .i64 0, .int .i64 0, .int .i64 0, .int .i64 0, .int .i64 0, .int .i64 0, .int .i64 0] 81, .obj true b5 [.int .i64 x.nat] 3, .obj true b6 [.slice x.base x.n x.cap] 203, x.e, .obj true b8 [.func (.yield L1) #[] #[]] 197, .obj true x1 [.slice (some ⟨bl, ol, none⟩) l.length cl, .slice (some ⟨bb, 0, none⟩) l.length l.length] 141, .obj true x2 [.int .i64 0, .int .i64 (l.length : Int)] 147, .obj true b11 [.int .i64 ((s2 + 1 : Nat) : Int), .int .i64 (e3 : Int)] 147] ++ [.obj true y.1 [.slice (some ⟨bl, ol, none⟩) l.length cl, .slice (some ⟨bb, 0, none⟩) l.length l.length] 141, .obj true y.2 [.int .i64 ((s2 + 1 : Nat) : Int), .int .i64 (e3 : Int)] 147])
   (fun w1 hs => (items_any _ _ _ _ _ _ ((s2 + 1 : Nat) : Int) (e3 : Int) w1).mono fun e w' ⟨x, he, hx⟩ => ⟨x, he, (Sat.at hs kR).more hx (by simp [HE.own])⟩) (fun y => ?_)
  ·kernel_rfl
  obtain ⟨y1, y2⟩ := y
  refine g0 ?_
  refine g_rangeR hr3 172 kR (fun L => by kernel_rfl) Try.func172 rfl Try.ntmps172 (fun L => Nat.le_of_ble_eq_true kR) fun L4 W4 bs4 R4 hR4 => ?_
  refine gA ([13]) 0 ?_
  refine g_loopN (X := RIX l W.beh alongV e3 (natF alongV (partN l W.beh x.at_) x.nat) (x.ss ++ skF (partN l W.beh x.at_))) (fun z => [(4, .int .i64 (z.at_ : Int))]) (fun z => [.row bl ol 19 l.length (rowOf l), .obj false bb (behC W.beh) 3, .obj false bo [.slice (some ⟨bl, ol, none⟩) l.length cl, .slice (some ⟨bb, 0, none⟩) l.length l.length] 141, .obj true b3 alongL 162, .obj true b4 [.int .i64 0, .int .i64 0, .int .i64 0, .int .i64 0, .int .i64 0, .int .i64 0, .int .i64 0, .int .i64 0, .int .i64 0] 81, .obj true b5 [.int .i64 z.nat] 3, .obj true b6 [.slice z.base z.n z.cap] 203, z.e, .obj true b8 [.func (.yield L1) #[] #[]] 197, .obj true x1 [.slice (some ⟨bl, ol, none⟩) l.length cl, .slice (some ⟨bb, 0, none⟩) l.length l.length] 141, .obj true x2 [.int .i64 0, .int .i64 (l.length : Int)] 147, .obj true b11 [.int .i64 ((s2 + 1 : Nat) : Int), .int .i64 (e3 : Int)] 147, .obj true y1 [.slice (some ⟨bl, ol, none⟩) l.length cl, .slice (some ⟨bb, 0, none⟩) l.length l.length] 141, .obj true y2 [.int .i64 ((s2 + 1 : Nat) : Int), .int .i64 (e3 : Int)] 147]) (fun z => e3 - z.at_) (x.into2 hhe hic) kR (by unfold Known; kernel_rfl) kR fun z M hM => ?_
  refine gA [13] 0 ?_
  refine g_dec 11 (decide ((↑z.at_ : Int) < (↑e3 : Int))) kR (fun h11b => ?_) (fun h11b => ?_)
  ·have hlt2 : z.at_ < e3 := by clear hM hN hq; exact Int.ofNat_lt.1 (of_decide_eq_true h11b)
   have hun2 := items_unroll z.ch hlt2 hle2
   have hbl2 := hun2.2.1
   have hlt3 : z.at_ < l.length := Nat.lt_of_lt_of_le hlt2 hle2
   refine gA [] 2 ?_
   refine g_yield hR4.ready [.int .i64 (z.at_ : Int)] kR kR fun N5 hB5 => ?_
   refine g0 ?_
   refine g_begin hB5 kR kR kR fun W5 bs5 fin5 hx5 _hr5 _hsz5 hRd5 => ?_
   have hrec2 := (hrec1.ext hR4.ext).past (rec_apart hrec1.lt hR4.new) hx5
   refine g0 ?_
   refine gD 6 ?_
   refine lU 37 [8, 2] 0 ?_
   refine l_val _ _ ?_ (fun w _hs => .inl (idx_run (P := Try.prog) (T := 59) (E := 63) (b := bl) (o := ol) (n := l.length) (c := cl) (k := z.at_) (sz := 19) (kk := .i64) w kR kR hlt3)) ?_
   ·kernel_rfl
   refine l_val _ _ ?_ (fun w _hs => .inl (Sat.rowload (T := 63) (i := 0) (b := bl) (off := ol) (sz := 19) (n := l.length) (k := z.at_) (f := rowOf l) _hs kR hlt3 kR kR rfl)) ?_
   ·kernel_rfl
   refine lE ?_
   refine g_yield hrec2 [nodV (nth l z.at_)] kR kR fun N6 hB6 => ?_
   refine g0 ?_
   refine gN fun b14 hb14 => ?_
   refine gA (List.replicate 19 14) 0 ?_
   refine g_begin hB6 kR kR kR fun W6 bs6 fin6 _hx6 _hr6 _hsz6 hRd6 => ?_
   have hk1 := (kind_in (hrt z.at_ hlt3)).1
   have hk2 := (kind_in (hrt z.at_ hlt3)).2
   have hzn : z.n ≤ 2000 := row_le z (x.part_le hlt) hS2
   refine gA ([14]) 0 ?_
   refine g_dec 15 ((nth l z.at_).kind == 7) kR (fun h15 => ?_) (fun h15 => ?_)
   ·have h7 : (nth l z.at_).kind = 7 := by clear hM hN hq; simpa using h15
    refine gA ([6] ++ List.replicate 5 14) 1 ?_
    refine gN fun b12 hb12 => ?_
    have hxn := z.hn
    refine Exists.elim (row_at z.sk hxn) fun oc hoc => ?_
    have htk := hoc.1
    have hro := hoc.2
    refine g_append 7 15 203 61 61 z.base z.n z.cap 5 1 1 b12 40 oc (gC (nth l z.at_)) true kR kR kR (info_of kR) (hro _ 7 kR) kR rfl (by simp [gC, Value.oneCell']) Nat.one_pos (big1 hzn) (big2 hzn) fun b' cap' cs' _hb' hc' hl' ht' => ?_
    refine gA ([6]) 0 ?_
    refine gD 4 ?_
    refine lA ([5] ++ List.replicate 19 14) 0 ?_
    refine l_callq _ _ _ ?_ (fun w hs => of_along_any (nth l z.at_) hk1 hk2 b3 w (hs.obj (o := true) (i := 3) kR)) ?_
    ·kernel_rfl
    refine l0 ?_
    refine lE ?_
    refine gA ([5]) 0 ?_
    refine g_take 14 ?_
    refine g_end hRd6 kR (.refl _ _) ?_
    refine gA [] 1 ?_
    refine g_end hRd5 kR (.refl _ _) ?_
    refine gU 19 [12] 1 ?_
    refine g_val _ _ ?_ (fun w _hs => idx_run (P := Try.prog) (T := 25) (E := 3) (b := bb) (o := 0) (n := l.length) (c := l.length) (k := z.at_) (sz := 1) (kk := .i64) w kR kR hlt3) ?_
    ·kernel_rfl
    refine g_val _ _ ?_ (fun w _hs => Sat.objload1 (T := 3) (T' := 3) (i := 1) (b := bb) (k := 0 + z.at_ * 1) (own := false) (cs := behC W.beh) (v := .int .i64 ((W.beh.getD z.at_ 0 : Nat) : Int)) _hs kR (behC_get hbl2) kR) ?_
    ·kernel_rfl
    refine g0 ?_
    exact g_hook (hM (z.next hlt2 hle2 (z.ss ++ [nth l z.at_]) (some ⟨b', 0, none⟩) cap' (.obj true b' cs' 61) (SkIs.grow htk (by rw [hxn]; exact hc') hl' (by rw [hxn]; exact ht')) (z.n + 1) (by simp [hxn]) (by rw [if_pos h7])) (Nat.sub_lt_sub_left hlt2 hun2.2.2.1)) kR kR kR (by unfold Known; kernel_rfl) kR kR
   have h7 : ¬ (nth l z.at_).kind = 7 := by clear hM hN hq; simpa using h15
   refine gA [] 1 ?_
   refine gD 4 ?_
   refine lA ([5] ++ List.replicate 19 14) 0 ?_
   refine l_callq _ _ _ ?_ (fun w hs => of_along_any (nth l z.at_) hk1 hk2 b3 w (hs.obj (o := true) (i := 3) kR)) ?_
   ·kernel_rfl
   refine l0 ?_
   refine lE ?_
   refine gA ([5]) 0 ?_
   refine g_take 14 ?_
   refine g_end hRd6 kR (.refl _ _) ?_
   refine gA [] 1 ?_
   refine g_end hRd5 kR (.refl _ _) ?_
   refine gU 19 [12] 1 ?_
   refine g_val _ _ ?_ (fun w _hs => idx_run (P := Try.prog) (T := 25) (E := 3) (b := bb) (o := 0) (n := l.length) (c := l.length) (k := z.at_) (sz := 1) (kk := .i64) w kR kR hlt3) ?_
   ·kernel_rfl
   refine g_val _ _ ?_ (fun w _hs => Sat.objload1 (T := 3) (T' := 3) (i := 1) (b := bb) (k := 0 + z.at_ * 1) (own := false) (cs := behC W.beh) (v := .int .i64 ((W.beh.getD z.at_ 0 : Nat) : Int)) _hs kR (behC_get hbl2) kR) ?_
   ·kernel_rfl
   refine g0 ?_
   exact g_hook (hM (z.next hlt2 hle2 z.ss z.base z.cap z.e z.sk z.n z.hn (by rw [if_neg h7])) (Nat.sub_lt_sub_left hlt2 hun2.2.2.1)) kR kR kR (by unfold Known; kernel_rfl) kR kR
  have hge2 : ¬ z.at_ < e3 := by clear hM hN hq; exact fun h => absurd (decide_eq_true (Int.ofNat_lt.2 h)) (by simpa using h11b)
  refine gA [] 4 ?_
  refine g_retM (W0 := W4) (bs0 := bs4) [] (Value.tuple #[]) kR kR [] kR (.refl _ _) (fun D hD => by cases hD) List.nodup_nil fun w2 hs2 => ?_
  refine hR4.back _ ?_ W4 bs4 _ w2 (.refl _ _) hs2
  refine g0 ?_
  refine g_take 11 ?_
  refine g_end hRd3 kR (.refl _ _) ?_
  refine gU 19 [9] 1 ?_
  refine g_val _ _ ?_ (fun w _hs => idx_run (P := Try.prog) (T := 25) (E := 3) (b := bb) (o := 0) (n := l.length) (c := l.length) (k := x.at_) (sz := 1) (kk := .i64) w kR kR hlt) ?_
  ·kernel_rfl
  refine g_val _ _ ?_ (fun w _hs => Sat.objload1 (T := 3) (T' := 3) (i := 1) (b := bb) (k := 0 + x.at_ * 1) (own := false) (cs := behC W.beh) (v := .int .i64 ((W.beh.getD x.at_ 0 : Nat) : Int)) _hs kR (behC_get hbl) kR) ?_
  ·kernel_rfl
  refine g0 ?_
  exact g_hook (hN (x.next hlt z hge2) (Nat.sub_lt_sub_left hlt hbb)) kR kR kR (by unfold Known; kernel_rfl) kR kR
 have hge : ¬ x.at_ < l.length := by clear hN hq; simpa using h11
 have hxT := (x.done hge).1
 have hxS := (x.done hge).2
 refine gA [] 4 ?_
 refine g_retM (W0 := W2) (bs0 := bs2) [] (Value.tuple #[]) kR kR [] kR (.refl _ _) (fun D hD => by cases hD) List.nodup_nil fun w2 hs2 => ?_
 refine hR2.back _ (fun D2 W6 bs6 hD2 he2 hd2 hf2 => ?_) W2 bs2 _ w2 (.refl _ _) hs2
 refine g0 ?_
 refine g_retM (W0 := W1) (bs0 := bs1) [] (Value.tuple #[]) kR kR [D2] kR he2 (fun D' hD' => by rw [List.mem_singleton.1 hD']; exact ⟨hD2, hd2, hf2⟩) (by simp) fun w3 hs3 => ?_
 refine hR1.back _ (fun D1 W7 bs7 hD1 he1 hd1 hf1 => ?_) W1 bs1 _ w3 (.refl _ _) hs3
 have hxn := x.hn
 refine gA ([6]) 0 ?_
 refine g_callq _ _ _ ?_ (fun w hs => x.sk.sum hxn (Nat.le_trans x.len hS2) (by rw [hxS]; exact hSg) hs (i := 7) kR) ?_
 ·kernel_rfl
 refine g0 ?_
 refine gN fun b11 hb11 => ?_
 refine gA (List.replicate 10 11 ++ [5] ++ [11, 11]) 1 ?_
 refine gN fun b12 hb12 => ?_
 refine g_callq _ _ _ ?_ (fun w hs => dims1 b12 (wr (accN x.ss x.n).nat x.nat) w (hs.obj (o := true) (i := 12) kR)) ?_
 ·kernel_rfl
 refine g0 ?_
 have hnS : x.n = S.length := by rw [← hxn, hxS]
 refine g_dec 43 (!dimB (wr (accN x.ss x.n).nat x.nat)) kR (fun h43 => ?_) (fun h43 => ?_)
 ·refine gA (List.replicate 9 4) 1 ?_
  refine g_retM (W0 := w) (bs0 := []) (List.replicate 9 4) (.tuple #[totV acc0, .int .i64 20]) kR kR [D1] kR he1 (fun D' hD' => by rw [List.mem_singleton.1 hD']; exact ⟨hD1, hd1, hf1⟩) (by simp) fun w4 hs4 => ?_
  refine ⟨?_, hs4.kept.kept⟩
  rw [hxS, hnS, hxT] at h43
  have h44 : dimB (wr (accN S S.length).nat T) = false := by simpa using h43
  unfold totR
  rw [h44]
  rfl
 refine gA (List.replicate 9 11 ++ List.replicate 9 4) 1 ?_
 refine g_retM (W0 := w) (bs0 := []) (List.replicate 9 4) (.tuple #[totV { accN x.ss x.n with nat := wr (accN x.ss x.n).nat x.nat }, .int .i64 0]) kR kR [D1] kR he1 (fun D' hD' => by rw [List.mem_singleton.1 hD']; exact ⟨hD1, hd1, hf1⟩) (by simp) fun w4 hs4 => ?_
 refine ⟨?_, hs4.kept.kept⟩
 rw [hxS, hnS, hxT] at h43 ⊢
 have h44 : dimB (wr (accN S S.length).nat T) = true := by simpa using h43
 unfold totR
 rw [h44]
 rfl
end Go.Proofs.Ytcncfmjfgdbfeaa
