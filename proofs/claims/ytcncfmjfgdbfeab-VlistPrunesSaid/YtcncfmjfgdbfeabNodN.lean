/- the document's nodes: Good, each kind. -/
import Derived.Test.YtcncfmjfgdbfeabNodM
namespace Go.Proofs.Ytcncfmjfgdbfeab
set_option maxRecDepth 100000
set_option maxHeartbeats 4000000
open Go.RowKit
def rRule (n : Nod) : Bool := (d3B n.w n.h n.d && !decide (n.sub < 0) && !decide (n.sub > 3)) && !(n.sub.tmod 2 == 1 && !(n.w == 0)) && !(decide (n.sub ≥ 2) && (!(n.h == 0) || !(n.d == 0))) && decide (bareN (kn 3 n) = ⟨3, 0, 0, 0, 0, 0, 0, 0, 0, 0, 0, 0, 0, 0, 0, 0, 0, n.sub, ⟨#[]⟩⟩)
theorem d3c (_n : Nod) : True := trivial
def rSkip (n : Nod) : Bool := (errG (glueB n.nat n.str n.shr n.so n.sho) == 0) && decide (n.sub ≥ 0) && decide (n.sub ≤ 20) && decide (kn 7 n = ⟨7, 0, 0, 0, 0, 0, 0, n.nat, n.str, n.shr, n.so, n.sho, 0, 0, 0, 0, 0, n.sub, ⟨#[]⟩⟩)
def rKern (n : Nod) : Bool := dimB n.w && decide (n.sub ≥ 0) && decide (n.sub ≤ 2) && decide (kn 8 n = ⟨8, 0, 0, n.w, 0, 0, 0, 0, 0, 0, 0, 0, 0, 0, 0, 0, 0, n.sub, ⟨#[]⟩⟩)
def rPen (n : Nod) : Bool := (decide (-2147483647 ≤ n.pen) && decide (n.pen ≤ 2147483647)) && decide (kn 9 n = ⟨9, 0, 0, 0, 0, 0, 0, 0, 0, 0, 0, 0, 0, 0, 0, 0, n.pen, 0, ⟨#[]⟩⟩)
def rMsg (k : Int) (n : Nod) : Bool := decide ((n.text.size : Int) ≤ 1000) && decide (kn k n = ⟨k, 0, 0, 0, 0, 0, 0, 0, 0, 0, 0, 0, 0, 0, 0, 0, 0, 0, n.text⟩)
def rIns (n : Nod) : Bool := dimB n.h && dimB n.d && decide (n.sub ≥ 0) && decide (n.sub ≤ 254) && (decide (-2147483647 ≤ n.pen) && decide (n.pen ≤ 2147483647)) && (errG (glueB n.nat n.str n.shr n.so n.sho) == 0) && decide (kn 13 n = ⟨13, 0, 0, 0, n.h, n.d, 0, n.nat, n.str, n.shr, n.so, n.sho, 0, 0, 0, 0, n.pen, n.sub, ⟨#[]⟩⟩)
def rMath (k : Int) (n : Nod) : Bool := dimB n.w && decide (kn k n = ⟨k, 0, 0, n.w, 0, 0, 0, 0, 0, 0, 0, 0, 0, 0, 0, 0, 0, 0, ⟨#[]⟩⟩)
def rBare (k : Int) (n : Nod) : Bool := decide (kn k n = ⟨k, 0, 0, 0, 0, 0, 0, 0, 0, 0, 0, 0, 0, 0, 0, 0, 0, 0, ⟨#[]⟩⟩)
theorem rrule3 (n : Nod) (w : World) :
  Calls Try.prog 79 #[nodV (kn 3 n)] w fun e w' => e = .returned (.bool (rRule n)) ∧ Kept w w' := by
 refine g_enter (args := [nodV (kn 3 n)]) [] [] Try.func79 rfl Try.ntmps79 kL (sat0 w) ?_
 refine g0 ?_
 refine gN fun b0 hb0 => ?_
 refine gA (List.replicate 19 0) 0 ?_
 refine g_callq _ _ _ ?_ (fun w hs => rthree_any (kn 3 n) w) ?_
 ·kernel_rfl
 refine g0 ?_
 refine g_dec 6 (!d3B (kn 3 n).w (kn 3 n).h (kn 3 n).d) kR (fun h6 => ?_) (fun h6 => ?_)
 ·refine gA [] 29 ?_
  refine gR (Value.bool false) fun w' hs => ?_
  exact ⟨ret_bool (by clear hs; (try simp at *); simp [rRule, *]), hs.kk⟩
 refine gA ([0]) 3 ?_
 refine g_dec 11 (decide ((kn 3 n).sub < 0)) kR (fun h11 => ?_) (fun h11 => ?_)
 ·refine gA [] 26 ?_
  refine gR (Value.bool false) fun w' hs => ?_
  exact ⟨ret_bool (by clear hs; (try simp at *); simp [rRule, *]), hs.kk⟩
 refine gA ([0]) 3 ?_
 refine g_dec 16 (decide ((kn 3 n).sub > 3)) kR (fun h16 => ?_) (fun h16 => ?_)
 ·refine gA [] 23 ?_
  refine gR (Value.bool false) fun w' hs => ?_
  exact ⟨ret_bool (by clear hs; (try simp at *); simp [rRule, *]), hs.kk⟩
 refine gA ([0]) 5 ?_
 refine g_dec 21 ((kn 3 n).sub.tmod 2 == 1) kR (fun h21 => ?_) (fun h21 => ?_)
 ·refine gA ([0]) 4 ?_
  refine g_dec 27 ((kn 3 n).w != 0) kR (fun h27 => ?_) (fun h27 => ?_)
  ·refine gA [] 14 ?_
   refine gR (Value.bool false) fun w' hs => ?_
   exact ⟨ret_bool (by clear hs; (try simp at *); simp [rRule, *]), hs.kk⟩
  refine gA ([0]) 4 ?_
  refine g_dec 31 (decide ((kn 3 n).sub ≥ 2)) kR (fun h31 => ?_) (fun h31 => ?_)
  ·refine gA ([0]) 4 ?_
   refine g_dec 35 ((kn 3 n).h != 0) kR (fun h35 => ?_) (fun h35 => ?_)
   ·refine gA [] 6 ?_
    refine gR (Value.bool false) fun w' hs => ?_
    exact ⟨ret_bool (by clear hs; (try simp at *); simp [rRule, *]), hs.kk⟩
   refine gA ([0]) 5 ?_
   refine g_dec 41 ((kn 3 n).d != 0) kR (fun h41 => ?_) (fun h41 => ?_)
   ·refine gA [] 1 ?_
    refine gR (Value.bool false) fun w' hs => ?_
    exact ⟨ret_bool (by clear hs; (try simp at *); simp [rRule, *]), hs.kk⟩
   refine gA [] 1 ?_
   refine gD 7 ?_
   refine lA (List.replicate 19 0) 0 ?_
   refine l_callq _ _ _ ?_ (fun w hs => rbare_any (kn 3 n) w) ?_
   ·kernel_rfl
   refine lU 47 ([0]) 0 ?_
   refine l_val _ _ ?_ (fun w _ => .inl (api_eql (bareN (kn 3 n)) ⟨3, 0, 0, 0, 0, 0, 0, 0, 0, 0, 0, 0, 0, 0, 0, 0, 0, n.sub, ⟨#[]⟩⟩ (.tmp 43) (.tmp 46) w)) ?_
   ·kernel_rfl
   refine l0 ?_
   refine lE ?_
   refine gR (Value.bool (decide (bareN (kn 3 n) = Nod.mk 3 0 0 0 0 0 0 0 0 0 0 0 0 0 0 0 0 n.sub (ByteArray.mk #[])))) fun w' hs => ?_
   exact ⟨ret_bool (by clear hs; (try simp at *); have hd := d3c n; simp_all [rRule]), hs.kk⟩
  refine gA [] 10 ?_
  refine gD 7 ?_
  refine lA (List.replicate 19 0) 0 ?_
  refine l_callq _ _ _ ?_ (fun w hs => rbare_any (kn 3 n) w) ?_
  ·kernel_rfl
  refine lU 47 ([0]) 0 ?_
  refine l_val _ _ ?_ (fun w _ => .inl (api_eql (bareN (kn 3 n)) ⟨3, 0, 0, 0, 0, 0, 0, 0, 0, 0, 0, 0, 0, 0, 0, 0, 0, n.sub, ⟨#[]⟩⟩ (.tmp 43) (.tmp 46) w)) ?_
  ·kernel_rfl
  refine l0 ?_
  refine lE ?_
  refine gR (Value.bool (decide (bareN (kn 3 n) = Nod.mk 3 0 0 0 0 0 0 0 0 0 0 0 0 0 0 0 0 n.sub (ByteArray.mk #[])))) fun w' hs => ?_
  exact ⟨ret_bool (by clear hs; (try simp at *); have hd := d3c n; simp_all [rRule]), hs.kk⟩
 refine gA ([0]) 8 ?_
 refine g_dec 31 (decide ((kn 3 n).sub ≥ 2)) kR (fun h31 => ?_) (fun h31 => ?_)
 ·refine gA ([0]) 4 ?_
  refine g_dec 35 ((kn 3 n).h != 0) kR (fun h35 => ?_) (fun h35 => ?_)
  ·refine gA [] 6 ?_
   refine gR (Value.bool false) fun w' hs => ?_
   exact ⟨ret_bool (by clear hs; (try simp at *); simp [rRule, *]), hs.kk⟩
  refine gA ([0]) 5 ?_
  refine g_dec 41 ((kn 3 n).d != 0) kR (fun h41 => ?_) (fun h41 => ?_)
  ·refine gA [] 1 ?_
   refine gR (Value.bool false) fun w' hs => ?_
   exact ⟨ret_bool (by clear hs; (try simp at *); simp [rRule, *]), hs.kk⟩
  refine gA [] 1 ?_
  refine gD 7 ?_
  refine lA (List.replicate 19 0) 0 ?_
  refine l_callq _ _ _ ?_ (fun w hs => rbare_any (kn 3 n) w) ?_
  ·kernel_rfl
  refine lU 47 ([0]) 0 ?_
  refine l_val _ _ ?_ (fun w _ => .inl (api_eql (bareN (kn 3 n)) ⟨3, 0, 0, 0, 0, 0, 0, 0, 0, 0, 0, 0, 0, 0, 0, 0, 0, n.sub, ⟨#[]⟩⟩ (.tmp 43) (.tmp 46) w)) ?_
  ·kernel_rfl
  refine l0 ?_
  refine lE ?_
  refine gR (Value.bool (decide (bareN (kn 3 n) = Nod.mk 3 0 0 0 0 0 0 0 0 0 0 0 0 0 0 0 0 n.sub (ByteArray.mk #[])))) fun w' hs => ?_
  exact ⟨ret_bool (by clear hs; (try simp at *); have hd := d3c n; simp_all [rRule]), hs.kk⟩
 refine gA [] 10 ?_
 refine gD 7 ?_
 refine lA (List.replicate 19 0) 0 ?_
 refine l_callq _ _ _ ?_ (fun w hs => rbare_any (kn 3 n) w) ?_
 ·kernel_rfl
 refine lU 47 ([0]) 0 ?_
 refine l_val _ _ ?_ (fun w _ => .inl (api_eql (bareN (kn 3 n)) ⟨3, 0, 0, 0, 0, 0, 0, 0, 0, 0, 0, 0, 0, 0, 0, 0, 0, n.sub, ⟨#[]⟩⟩ (.tmp 43) (.tmp 46) w)) ?_
 ·kernel_rfl
 refine l0 ?_
 refine lE ?_
 refine gR (Value.bool (decide (bareN (kn 3 n) = Nod.mk 3 0 0 0 0 0 0 0 0 0 0 0 0 0 0 0 0 n.sub (ByteArray.mk #[])))) fun w' hs => ?_
 exact ⟨ret_bool (by clear hs; (try simp at *); simp [rRule, *]), hs.kk⟩
theorem good1 (n : Nod) (w : World) :
  Calls Try.prog 70 #[nodV (kn 1 n)] w fun e w' => e = .returned (.bool (rGlyph1 n)) ∧ Kept w w' := by
 refine g_enter (args := [nodV (kn 1 n)]) [] [] Try.func70 rfl Try.ntmps70 kL (sat0 w) ?_
 refine g0 ?_
 refine gN fun b0 hb0 => ?_
 refine gA (List.replicate 20 0) 2 ?_
 refine g_callq _ _ _ ?_ (fun w hs => rglyph1 n w) ?_
 ·kernel_rfl
 refine g0 ?_
 refine gR (Value.bool (rGlyph1 n)) fun w' hs => ?_
 exact ⟨rfl, hs.kk⟩
theorem good2 (n : Nod) (w : World) :
  Calls Try.prog 70 #[nodV (kn 2 n)] w fun e w' => e = .returned (.bool (rGlyph2 n)) ∧ Kept w w' := by
 refine g_enter (args := [nodV (kn 2 n)]) [] [] Try.func70 rfl Try.ntmps70 kL (sat0 w) ?_
 refine g0 ?_
 refine gN fun b0 hb0 => ?_
 refine gA (List.replicate 20 0) 2 ?_
 refine g_callq _ _ _ ?_ (fun w hs => rglyph2 n w) ?_
 ·kernel_rfl
 refine g0 ?_
 refine gR (Value.bool (rGlyph2 n)) fun w' hs => ?_
 exact ⟨rfl, hs.kk⟩
theorem good3 (n : Nod) (w : World) :
  Calls Try.prog 70 #[nodV (kn 3 n)] w fun e w' => e = .returned (.bool (rRule n)) ∧ Kept w w' := by
 refine g_enter (args := [nodV (kn 3 n)]) [] [] Try.func70 rfl Try.ntmps70 kL (sat0 w) ?_
 refine g0 ?_
 refine gN fun b0 hb0 => ?_
 refine gA (List.replicate 20 0) 3 ?_
 refine g_callq _ _ _ ?_ (fun w hs => rrule3 n w) ?_
 ·kernel_rfl
 refine g0 ?_
 refine gR (Value.bool (rRule n)) fun w' hs => ?_
 exact ⟨rfl, hs.kk⟩
theorem good4 (n : Nod) (w : World) :
  Calls Try.prog 70 #[nodV (kn 4 n)] w fun e w' => e = .returned (.bool (rBox 4 n)) ∧ Kept w w' := by
 refine g_enter (args := [nodV (kn 4 n)]) [] [] Try.func70 rfl Try.ntmps70 kL (sat0 w) ?_
 refine g0 ?_
 refine gN fun b0 hb0 => ?_
 refine gA (List.replicate 20 0) 5 ?_
 refine g_callq _ _ _ ?_ (fun w hs => rbox4 n w) ?_
 ·kernel_rfl
 refine g0 ?_
 refine gR (Value.bool (rBox 4 n)) fun w' hs => ?_
 exact ⟨rfl, hs.kk⟩
theorem good5 (n : Nod) (w : World) :
  Calls Try.prog 70 #[nodV (kn 5 n)] w fun e w' => e = .returned (.bool (rBox 5 n)) ∧ Kept w w' := by
 refine g_enter (args := [nodV (kn 5 n)]) [] [] Try.func70 rfl Try.ntmps70 kL (sat0 w) ?_
 refine g0 ?_
 refine gN fun b0 hb0 => ?_
 refine gA (List.replicate 20 0) 5 ?_
 refine g_callq _ _ _ ?_ (fun w hs => rbox5 n w) ?_
 ·kernel_rfl
 refine g0 ?_
 refine gR (Value.bool (rBox 5 n)) fun w' hs => ?_
 exact ⟨rfl, hs.kk⟩
theorem good6 (n : Nod) (w : World) :
  Calls Try.prog 70 #[nodV (kn 6 n)] w fun e w' => e = .returned (.bool (rBare 6 n)) ∧ Kept w w' := by
 refine g_enter (args := [nodV (kn 6 n)]) [] [] Try.func70 rfl Try.ntmps70 kL (sat0 w) ?_
 refine g0 ?_
 refine gN fun b0 hb0 => ?_
 refine gU 176 (List.replicate 21 0) 15 ?_
 refine g_val _ _ ?_ (fun w _ => api_eql (kn 6 n) ⟨6, 0, 0, 0, 0, 0, 0, 0, 0, 0, 0, 0, 0, 0, 0, 0, 0, 0, ⟨#[]⟩⟩ (.tmp 172) (.tmp 175) w) ?_
 ·kernel_rfl
 refine g0 ?_
 refine gR (Value.bool (decide (kn 6 n = Nod.mk 6 0 0 0 0 0 0 0 0 0 0 0 0 0 0 0 0 0 (ByteArray.mk #[])))) fun w' hs => ?_
 exact ⟨ret_bool (by clear hs; (try simp at *); simp [rBare, *]), hs.kk⟩
theorem good7 (n : Nod) (w : World) :
  Calls Try.prog 70 #[nodV (kn 7 n)] w fun e w' => e = .returned (.bool (rSkip n)) ∧ Kept w w' := by
 refine g_enter (args := [nodV (kn 7 n)]) [] [] Try.func70 rfl Try.ntmps70 kL (sat0 w) ?_
 refine g0 ?_
 refine gN fun b0 hb0 => ?_
 refine gA (List.replicate 6 0) 6 ?_
 refine g_callq _ _ _ ?_ (fun w hs => rgcheck_any n.nat n.str n.shr n.so n.sho w) ?_
 ·kernel_rfl
 refine g0 ?_
 refine g_dec 25 (errG (glueB n.nat n.str n.shr n.so n.sho) == 0) kR (fun h25 => ?_) (fun h25 => ?_)
 ·refine gA ([0]) 3 ?_
  refine g_dec 30 (decide ((kn 7 n).sub ≥ 0)) kR (fun h30 => ?_) (fun h30 => ?_)
  ·refine gA ([0]) 3 ?_
   refine g_dec 35 (decide ((kn 7 n).sub ≤ 20)) kR (fun h35 => ?_) (fun h35 => ?_)
   ·refine gU 44 (List.replicate 26 0) 8 ?_
    refine g_val _ _ ?_ (fun w _ => api_eql (kn 7 n) ⟨7, 0, 0, 0, 0, 0, 0, n.nat, n.str, n.shr, n.so, n.sho, 0, 0, 0, 0, 0, n.sub, ⟨#[]⟩⟩ (.tmp 36) (.tmp 43) w) ?_
    ·kernel_rfl
    refine g0 ?_
    refine gR (Value.bool (decide (kn 7 n = Nod.mk 7 0 0 0 0 0 0 n.nat n.str n.shr n.so n.sho 0 0 0 0 0 n.sub (ByteArray.mk #[])))) fun w' hs => ?_
    exact ⟨ret_bool (by clear hs; (try simp at *); simp [rSkip, *]), hs.kk⟩
   refine gA [] 9 ?_
   refine gR (Value.bool false) fun w' hs => ?_
   exact ⟨ret_bool (by clear hs; (try simp at *); simp [rSkip, *]; omega), hs.kk⟩
  refine gA [] 12 ?_
  refine gR (Value.bool false) fun w' hs => ?_
  exact ⟨ret_bool (by clear hs; (try simp at *); simp [rSkip, *]; omega), hs.kk⟩
 refine gA [] 15 ?_
 refine gR (Value.bool false) fun w' hs => ?_
 exact ⟨ret_bool (by clear hs; (try simp at *); simp [rSkip, *]), hs.kk⟩
theorem good8 (n : Nod) (w : World) :
  Calls Try.prog 70 #[nodV (kn 8 n)] w fun e w' => e = .returned (.bool (rKern n)) ∧ Kept w w' := by
 refine g_enter (args := [nodV (kn 8 n)]) [] [] Try.func70 rfl Try.ntmps70 kL (sat0 w) ?_
 refine g0 ?_
 refine gN fun b0 hb0 => ?_
 refine gA ([0, 0]) 7 ?_
 refine g_callq _ _ _ ?_ (fun w hs => rdimen5_any n.w w) ?_
 ·kernel_rfl
 refine g0 ?_
 refine g_dec 51 (dimB n.w) kR (fun h51 => ?_) (fun h51 => ?_)
 ·refine gA ([0]) 3 ?_
  refine g_dec 56 (decide ((kn 8 n).sub ≥ 0)) kR (fun h56 => ?_) (fun h56 => ?_)
  ·refine gA ([0]) 3 ?_
   refine g_dec 61 (decide ((kn 8 n).sub ≤ 2)) kR (fun h61 => ?_) (fun h61 => ?_)
   ·refine gU 70 (List.replicate 22 0) 8 ?_
    refine g_val _ _ ?_ (fun w _ => api_eql (kn 8 n) ⟨8, 0, 0, n.w, 0, 0, 0, 0, 0, 0, 0, 0, 0, 0, 0, 0, 0, n.sub, ⟨#[]⟩⟩ (.tmp 62) (.tmp 69) w) ?_
    ·kernel_rfl
    refine g0 ?_
    refine gR (Value.bool (decide (kn 8 n = Nod.mk 8 0 0 n.w 0 0 0 0 0 0 0 0 0 0 0 0 0 n.sub (ByteArray.mk #[])))) fun w' hs => ?_
    exact ⟨ret_bool (by clear hs; (try simp at *); simp [rKern, *]), hs.kk⟩
   refine gA [] 9 ?_
   refine gR (Value.bool false) fun w' hs => ?_
   exact ⟨ret_bool (by clear hs; (try simp at *); simp [rKern, *]; omega), hs.kk⟩
  refine gA [] 12 ?_
  refine gR (Value.bool false) fun w' hs => ?_
  exact ⟨ret_bool (by clear hs; (try simp at *); simp [rKern, *]; omega), hs.kk⟩
 refine gA [] 15 ?_
 refine gR (Value.bool false) fun w' hs => ?_
 exact ⟨ret_bool (by clear hs; (try simp at *); simp [rKern, *]), hs.kk⟩
theorem good9 (n : Nod) (w : World) :
  Calls Try.prog 70 #[nodV (kn 9 n)] w fun e w' => e = .returned (.bool (rPen n)) ∧ Kept w w' := by
 refine g_enter (args := [nodV (kn 9 n)]) [] [] Try.func70 rfl Try.ntmps70 kL (sat0 w) ?_
 refine g0 ?_
 refine gN fun b0 hb0 => ?_
 refine gA ([0, 0]) 8 ?_
 refine g_callq _ _ _ ?_ (fun w hs => rfar_any n.pen w) ?_
 ·kernel_rfl
 refine g0 ?_
 refine g_dec 78 (!!(decide (-2147483647 ≤ n.pen) && decide (n.pen ≤ 2147483647))) kR (fun h78 => ?_) (fun h78 => ?_)
 ·refine gU 85 (List.replicate 21 0) 6 ?_
  refine g_val _ _ ?_ (fun w _ => api_eql (kn 9 n) ⟨9, 0, 0, 0, 0, 0, 0, 0, 0, 0, 0, 0, 0, 0, 0, 0, n.pen, 0, ⟨#[]⟩⟩ (.tmp 79) (.tmp 84) w) ?_
  ·kernel_rfl
  refine g0 ?_
  refine gR (Value.bool (decide (kn 9 n = Nod.mk 9 0 0 0 0 0 0 0 0 0 0 0 0 0 0 0 n.pen 0 (ByteArray.mk #[])))) fun w' hs => ?_
  exact ⟨ret_bool (by clear hs; (try simp at *); simp [rPen, *]), hs.kk⟩
 refine gA [] 7 ?_
 refine gR (Value.bool false) fun w' hs => ?_
 exact ⟨ret_bool (by clear hs; (try simp at *); simp [rPen, *]; omega), hs.kk⟩
theorem good10 (n : Nod) (w : World) :
  Calls Try.prog 70 #[nodV (kn 10 n)] w fun e w' => e = .returned (.bool (rBare 10 n)) ∧ Kept w w' := by
 refine g_enter (args := [nodV (kn 10 n)]) [] [] Try.func70 rfl Try.ntmps70 kL (sat0 w) ?_
 refine g0 ?_
 refine gN fun b0 hb0 => ?_
 refine gU 176 (List.replicate 21 0) 16 ?_
 refine g_val _ _ ?_ (fun w _ => api_eql (kn 10 n) ⟨10, 0, 0, 0, 0, 0, 0, 0, 0, 0, 0, 0, 0, 0, 0, 0, 0, 0, ⟨#[]⟩⟩ (.tmp 172) (.tmp 175) w) ?_
 ·kernel_rfl
 refine g0 ?_
 refine gR (Value.bool (decide (kn 10 n = Nod.mk 10 0 0 0 0 0 0 0 0 0 0 0 0 0 0 0 0 0 (ByteArray.mk #[])))) fun w' hs => ?_
 exact ⟨ret_bool (by clear hs; (try simp at *); simp [rBare, *]), hs.kk⟩
theorem good11 (n : Nod) (w : World) :
  Calls Try.prog 70 #[nodV (kn 11 n)] w fun e w' => e = .returned (.bool (rBare 11 n)) ∧ Kept w w' := by
 refine g_enter (args := [nodV (kn 11 n)]) [] [] Try.func70 rfl Try.ntmps70 kL (sat0 w) ?_
 refine g0 ?_
 refine gN fun b0 hb0 => ?_
 refine gU 176 (List.replicate 21 0) 17 ?_
 refine g_val _ _ ?_ (fun w _ => api_eql (kn 11 n) ⟨11, 0, 0, 0, 0, 0, 0, 0, 0, 0, 0, 0, 0, 0, 0, 0, 0, 0, ⟨#[]⟩⟩ (.tmp 172) (.tmp 175) w) ?_
 ·kernel_rfl
 refine g0 ?_
 refine gR (Value.bool (decide (kn 11 n = Nod.mk 11 0 0 0 0 0 0 0 0 0 0 0 0 0 0 0 0 0 (ByteArray.mk #[])))) fun w' hs => ?_
 exact ⟨ret_bool (by clear hs; (try simp at *); simp [rBare, *]), hs.kk⟩
theorem good17 (n : Nod) (w : World) :
  Calls Try.prog 70 #[nodV (kn 17 n)] w fun e w' => e = .returned (.bool (rBare 17 n)) ∧ Kept w w' := by
 refine g_enter (args := [nodV (kn 17 n)]) [] [] Try.func70 rfl Try.ntmps70 kL (sat0 w) ?_
 refine g0 ?_
 refine gN fun b0 hb0 => ?_
 refine gU 176 (List.replicate 21 0) 17 ?_
 refine g_val _ _ ?_ (fun w _ => api_eql (kn 17 n) ⟨17, 0, 0, 0, 0, 0, 0, 0, 0, 0, 0, 0, 0, 0, 0, 0, 0, 0, ⟨#[]⟩⟩ (.tmp 172) (.tmp 175) w) ?_
 ·kernel_rfl
 refine g0 ?_
 refine gR (Value.bool (decide (kn 17 n = Nod.mk 17 0 0 0 0 0 0 0 0 0 0 0 0 0 0 0 0 0 (ByteArray.mk #[])))) fun w' hs => ?_
 exact ⟨ret_bool (by clear hs; (try simp at *); simp [rBare, *]), hs.kk⟩
theorem good12 (n : Nod) (w : World) :
  Calls Try.prog 70 #[nodV (kn 12 n)] w fun e w' => e = .returned (.bool (rMsg 12 n)) ∧ Kept w w' := by
 refine g_enter (args := [nodV (kn 12 n)]) [] [] Try.func70 rfl Try.ntmps70 kL (sat0 w) ?_
 refine g0 ?_
 refine gN fun b0 hb0 => ?_
 refine gA ([0, 0]) 10 ?_
 refine g_dec 94 (decide ((↑(kn 12 n).text.size : Int) ≤ 1000)) kR (fun h94 => ?_) (fun h94 => ?_)
 ·refine gU 101 (List.replicate 21 0) 6 ?_
  refine g_val _ _ ?_ (fun w _ => api_eql (kn 12 n) ⟨12, 0, 0, 0, 0, 0, 0, 0, 0, 0, 0, 0, 0, 0, 0, 0, 0, 0, n.text⟩ (.tmp 95) (.tmp 100) w) ?_
  ·kernel_rfl
  refine g0 ?_
  refine gR (Value.bool (decide (kn 12 n = Nod.mk 12 0 0 0 0 0 0 0 0 0 0 0 0 0 0 0 0 0 n.text))) fun w' hs => ?_
  exact ⟨ret_bool (by clear hs; (try simp at *); simp [rMsg, *]), hs.kk⟩
 refine gA [] 7 ?_
 refine gR (Value.bool false) fun w' hs => ?_
 exact ⟨ret_bool (by clear hs; (try simp at *); simp [rMsg, *]; omega), hs.kk⟩
theorem good14 (n : Nod) (w : World) :
  Calls Try.prog 70 #[nodV (kn 14 n)] w fun e w' => e = .returned (.bool (rMsg 14 n)) ∧ Kept w w' := by
 refine g_enter (args := [nodV (kn 14 n)]) [] [] Try.func70 rfl Try.ntmps70 kL (sat0 w) ?_
 refine g0 ?_
 refine gN fun b0 hb0 => ?_
 refine gA ([0, 0]) 10 ?_
 refine g_dec 94 (decide ((↑(kn 14 n).text.size : Int) ≤ 1000)) kR (fun h94 => ?_) (fun h94 => ?_)
 ·refine gU 101 (List.replicate 21 0) 6 ?_
  refine g_val _ _ ?_ (fun w _ => api_eql (kn 14 n) ⟨14, 0, 0, 0, 0, 0, 0, 0, 0, 0, 0, 0, 0, 0, 0, 0, 0, 0, n.text⟩ (.tmp 95) (.tmp 100) w) ?_
  ·kernel_rfl
  refine g0 ?_
  refine gR (Value.bool (decide (kn 14 n = Nod.mk 14 0 0 0 0 0 0 0 0 0 0 0 0 0 0 0 0 0 n.text))) fun w' hs => ?_
  exact ⟨ret_bool (by clear hs; (try simp at *); simp [rMsg, *]), hs.kk⟩
 refine gA [] 7 ?_
 refine gR (Value.bool false) fun w' hs => ?_
 exact ⟨ret_bool (by clear hs; (try simp at *); simp [rMsg, *]; omega), hs.kk⟩
theorem good13 (n : Nod) (w : World) :
  Calls Try.prog 70 #[nodV (kn 13 n)] w fun e w' => e = .returned (.bool (rIns n)) ∧ Kept w w' := by
 refine g_enter (args := [nodV (kn 13 n)]) [] [] Try.func70 rfl Try.ntmps70 kL (sat0 w) ?_
 refine g0 ?_
 refine gN fun b0 hb0 => ?_
 refine gA ([0, 0]) 11 ?_
 refine g_callq _ _ _ ?_ (fun w hs => rdimen5_any n.h w) ?_
 ·kernel_rfl
 refine g0 ?_
 refine g_dec 108 (dimB n.h) kR (fun h108 => ?_) (fun h108 => ?_)
 ·refine gA ([0]) 2 ?_
  refine g_callq _ _ _ ?_ (fun w hs => rdimen5_any n.d w) ?_
  ·kernel_rfl
  refine g0 ?_
  refine g_dec 113 (dimB n.d) kR (fun h113 => ?_) (fun h113 => ?_)
  ·refine gA ([0]) 3 ?_
   refine g_dec 118 (decide ((kn 13 n).sub ≥ 0)) kR (fun h118 => ?_) (fun h118 => ?_)
   ·refine gA ([0]) 3 ?_
    refine g_dec 123 (decide ((kn 13 n).sub ≤ 254)) kR (fun h123 => ?_) (fun h123 => ?_)
    ·refine gA ([0]) 2 ?_
     refine g_callq _ _ _ ?_ (fun w hs => rfar_any n.pen w) ?_
     ·kernel_rfl
     refine gA [] 1 ?_
     refine g_dec 129 (!!(decide (-2147483647 ≤ n.pen) && decide (n.pen ≤ 2147483647))) kR (fun h129 => ?_) (fun h129 => ?_)
     ·refine gA (List.replicate 5 0) 2 ?_
      refine g_callq _ _ _ ?_ (fun w hs => rgcheck_any n.nat n.str n.shr n.so n.sho w) ?_
      ·kernel_rfl
      refine gA [] 1 ?_
      refine g_dec 135 (errG (glueB n.nat n.str n.shr n.so n.sho) == 0) kR (fun h135 => ?_) (fun h135 => ?_)
      ·refine gU 150 (List.replicate 29 0) 14 ?_
       refine g_val _ _ ?_ (fun w _ => api_eql (kn 13 n) ⟨13, 0, 0, 0, n.h, n.d, 0, n.nat, n.str, n.shr, n.so, n.sho, 0, 0, 0, 0, n.pen, n.sub, ⟨#[]⟩⟩ (.tmp 136) (.tmp 149) w) ?_
       ·kernel_rfl
       refine g0 ?_
       refine gR (Value.bool (decide (kn 13 n = Nod.mk 13 0 0 0 n.h n.d 0 n.nat n.str n.shr n.so n.sho 0 0 0 0 n.pen n.sub (ByteArray.mk #[])))) fun w' hs => ?_
       exact ⟨ret_bool (by clear hs; (try simp at *); simp [rIns, *]), hs.kk⟩
      refine gA [] 15 ?_
      refine gR (Value.bool false) fun w' hs => ?_
      exact ⟨ret_bool (by clear hs; (try simp at *); simp [rIns, *]), hs.kk⟩
     refine gA [] 19 ?_
     refine gR (Value.bool false) fun w' hs => ?_
     exact ⟨ret_bool (by clear hs; (try simp at *); simp [rIns, *]; omega), hs.kk⟩
    refine gA [] 23 ?_
    refine gR (Value.bool false) fun w' hs => ?_
    exact ⟨ret_bool (by clear hs; (try simp at *); simp [rIns, *]; omega), hs.kk⟩
   refine gA [] 26 ?_
   refine gR (Value.bool false) fun w' hs => ?_
   exact ⟨ret_bool (by clear hs; (try simp at *); simp [rIns, *]; omega), hs.kk⟩
  refine gA [] 29 ?_
  refine gR (Value.bool false) fun w' hs => ?_
  exact ⟨ret_bool (by clear hs; (try simp at *); simp [rIns, *]), hs.kk⟩
 refine gA [] 32 ?_
 refine gR (Value.bool false) fun w' hs => ?_
 exact ⟨ret_bool (by clear hs; (try simp at *); simp [rIns, *]), hs.kk⟩
theorem good15 (n : Nod) (w : World) :
  Calls Try.prog 70 #[nodV (kn 15 n)] w fun e w' => e = .returned (.bool (rMath 15 n)) ∧ Kept w w' := by
 refine g_enter (args := [nodV (kn 15 n)]) [] [] Try.func70 rfl Try.ntmps70 kL (sat0 w) ?_
 refine g0 ?_
 refine gN fun b0 hb0 => ?_
 refine gA ([0, 0]) 13 ?_
 refine g_callq _ _ _ ?_ (fun w hs => rdimen5_any n.w w) ?_
 ·kernel_rfl
 refine g0 ?_
 refine g_dec 158 (dimB n.w) kR (fun h158 => ?_) (fun h158 => ?_)
 ·refine gU 165 (List.replicate 21 0) 6 ?_
  refine g_val _ _ ?_ (fun w _ => api_eql (kn 15 n) ⟨15, 0, 0, n.w, 0, 0, 0, 0, 0, 0, 0, 0, 0, 0, 0, 0, 0, 0, ⟨#[]⟩⟩ (.tmp 159) (.tmp 164) w) ?_
  ·kernel_rfl
  refine g0 ?_
  refine gR (Value.bool (decide (kn 15 n = Nod.mk 15 0 0 n.w 0 0 0 0 0 0 0 0 0 0 0 0 0 0 (ByteArray.mk #[])))) fun w' hs => ?_
  exact ⟨ret_bool (by clear hs; (try simp at *); simp [rMath, *]), hs.kk⟩
 refine gA [] 7 ?_
 refine gR (Value.bool false) fun w' hs => ?_
 exact ⟨ret_bool (by clear hs; (try simp at *); simp [rMath, *]), hs.kk⟩
theorem good16 (n : Nod) (w : World) :
  Calls Try.prog 70 #[nodV (kn 16 n)] w fun e w' => e = .returned (.bool (rMath 16 n)) ∧ Kept w w' := by
 refine g_enter (args := [nodV (kn 16 n)]) [] [] Try.func70 rfl Try.ntmps70 kL (sat0 w) ?_
 refine g0 ?_
 refine gN fun b0 hb0 => ?_
 refine gA ([0, 0]) 13 ?_
 refine g_callq _ _ _ ?_ (fun w hs => rdimen5_any n.w w) ?_
 ·kernel_rfl
 refine g0 ?_
 refine g_dec 158 (dimB n.w) kR (fun h158 => ?_) (fun h158 => ?_)
 ·refine gU 165 (List.replicate 21 0) 6 ?_
  refine g_val _ _ ?_ (fun w _ => api_eql (kn 16 n) ⟨16, 0, 0, n.w, 0, 0, 0, 0, 0, 0, 0, 0, 0, 0, 0, 0, 0, 0, ⟨#[]⟩⟩ (.tmp 159) (.tmp 164) w) ?_
  ·kernel_rfl
  refine g0 ?_
  refine gR (Value.bool (decide (kn 16 n = Nod.mk 16 0 0 n.w 0 0 0 0 0 0 0 0 0 0 0 0 0 0 (ByteArray.mk #[])))) fun w' hs => ?_
  exact ⟨ret_bool (by clear hs; (try simp at *); simp [rMath, *]), hs.kk⟩
 refine gA [] 7 ?_
 refine gR (Value.bool false) fun w' hs => ?_
 exact ⟨ret_bool (by clear hs; (try simp at *); simp [rMath, *]), hs.kk⟩
theorem good_no (n : Nod) (w : World) (hk : n.kind < 1 ∨ 17 < n.kind) :
  Calls Try.prog 70 #[nodV n] w fun e w' => e = .returned (.bool false) ∧ Kept w w' := by
 refine g_enter (args := [nodV n]) [] [] Try.func70 rfl Try.ntmps70 kL (sat0 w) ?_
 refine g0 ?_
 refine gN fun b0 hb0 => ?_
 refine gA ([0]) 0 ?_
 refine g_dec 5 (n.kind == 1) kR (fun h5 => ?_) (fun h5 => ?_)
 ·exact absurd h5 (by simp only [beq_iff_eq] at *; omega)
 refine gA [] 1 ?_
 refine g_dec 5 (n.kind == 2) kR (fun h5 => ?_) (fun h5 => ?_)
 ·exact absurd h5 (by simp only [beq_iff_eq, beq_eq_false_iff_ne] at *; omega)
 refine gA [] 1 ?_
 refine g_dec 10 (n.kind == 3) kR (fun h10 => ?_) (fun h10 => ?_)
 ·exact absurd h10 (by simp only [beq_iff_eq, beq_eq_false_iff_ne] at *; omega)
 refine gA [] 1 ?_
 refine g_dec 14 (n.kind == 4) kR (fun h14 => ?_) (fun h14 => ?_)
 ·exact absurd h14 (by simp only [beq_iff_eq, beq_eq_false_iff_ne] at *; omega)
 refine gA [] 1 ?_
 refine g_dec 14 (n.kind == 5) kR (fun h14 => ?_) (fun h14 => ?_)
 ·exact absurd h14 (by simp only [beq_iff_eq, beq_eq_false_iff_ne] at *; omega)
 refine gA [] 1 ?_
 refine g_dec 19 (n.kind == 7) kR (fun h19 => ?_) (fun h19 => ?_)
 ·exact absurd h19 (by simp only [beq_iff_eq, beq_eq_false_iff_ne] at *; omega)
 refine gA [] 1 ?_
 refine g_dec 46 (n.kind == 8) kR (fun h46 => ?_) (fun h46 => ?_)
 ·exact absurd h46 (by simp only [beq_iff_eq, beq_eq_false_iff_ne] at *; omega)
 refine gA [] 1 ?_
 refine g_dec 72 (n.kind == 9) kR (fun h72 => ?_) (fun h72 => ?_)
 ·exact absurd h72 (by simp only [beq_iff_eq, beq_eq_false_iff_ne] at *; omega)
 refine gA [] 1 ?_
 refine g_dec 87 (n.kind == 12) kR (fun h87 => ?_) (fun h87 => ?_)
 ·exact absurd h87 (by simp only [beq_iff_eq, beq_eq_false_iff_ne] at *; omega)
 refine gA [] 1 ?_
 refine g_dec 87 (n.kind == 14) kR (fun h87 => ?_) (fun h87 => ?_)
 ·exact absurd h87 (by simp only [beq_iff_eq, beq_eq_false_iff_ne] at *; omega)
 refine gA [] 1 ?_
 refine g_dec 103 (n.kind == 13) kR (fun h103 => ?_) (fun h103 => ?_)
 ·exact absurd h103 (by simp only [beq_iff_eq, beq_eq_false_iff_ne] at *; omega)
 refine gA [] 1 ?_
 refine g_dec 152 (n.kind == 15) kR (fun h152 => ?_) (fun h152 => ?_)
 ·exact absurd h152 (by simp only [beq_iff_eq, beq_eq_false_iff_ne] at *; omega)
 refine gA [] 1 ?_
 refine g_dec 152 (n.kind == 16) kR (fun h152 => ?_) (fun h152 => ?_)
 ·exact absurd h152 (by simp only [beq_iff_eq, beq_eq_false_iff_ne] at *; omega)
 refine gA [] 1 ?_
 refine g_dec 167 (n.kind == 6) kR (fun h167 => ?_) (fun h167 => ?_)
 ·exact absurd h167 (by simp only [beq_iff_eq, beq_eq_false_iff_ne] at *; omega)
 refine gA [] 1 ?_
 refine g_dec 167 (n.kind == 10) kR (fun h167 => ?_) (fun h167 => ?_)
 ·exact absurd h167 (by simp only [beq_iff_eq, beq_eq_false_iff_ne] at *; omega)
 refine gA [] 1 ?_
 refine g_dec 167 (n.kind == 11) kR (fun h167 => ?_) (fun h167 => ?_)
 ·exact absurd h167 (by simp only [beq_iff_eq, beq_eq_false_iff_ne] at *; omega)
 refine gA [] 1 ?_
 refine g_dec 167 (n.kind == 17) kR (fun h167 => ?_) (fun h167 => ?_)
 ·exact absurd h167 (by simp only [beq_iff_eq, beq_eq_false_iff_ne] at *; omega)
 refine gA [] 1 ?_
 refine gR (Value.bool false) fun w' hs => ?_
 exact ⟨rfl, hs.kk⟩
end Go.Proofs.Ytcncfmjfgdbfeab
