/- the document's nodes: Good, second part. -/
import Derived.Test.YtcncfmjfgdbfeabM6
namespace Go.Proofs.Ytcncfmjfgdbfeab
set_option maxRecDepth 100000
set_option maxHeartbeats 4000000
open Go.RowKit
def noText (n : Nod) : Bool := n.text.toList == (ByteArray.mk #[]).toList
def rGlyph1 (n : Nod) : Bool := (d3B n.w n.h n.d && !decide (n.font < 0) && !decide (n.font ≥ 64)) && noText n && decide (bareN (kn 1 n) = ⟨1, n.font, n.char, 0, 0, 0, 0, 0, 0, 0, 0, 0, 0, 0, 0, 0, 0, 0, n.text⟩)
def rGlyph2 (n : Nod) : Bool := (d3B n.w n.h n.d && !decide (n.font < 0) && !decide (n.font ≥ 64)) && !decide ((n.text.size : Int) < 1) && !decide ((n.text.size : Int) > 63) && decide (bareN (kn 2 n) = ⟨2, n.font, n.char, 0, 0, 0, 0, 0, 0, 0, 0, 0, 0, 0, 0, 0, 0, 0, n.text⟩)
def rBox (k : Int) (n : Nod) : Bool := d3B n.w n.h n.d && dimB n.shift &&
 bif n.sign == 0 then decide (bareN (kn k n) = ⟨k, 0, 0, 0, 0, 0, n.shift, 0, 0, 0, 0, 0, 0, 0, 0, 0, 0, 0, ⟨#[]⟩⟩)
 else (n.sign == 1 || n.sign == 2) && !decide (n.ord < 0) && !decide (n.ord > 3) && !decide (n.num < 1) && !decide (n.num > 1152921504606846976) && !decide (n.den < 1) && !decide (n.den > 1152921504606846976) &&
  !(n.sign == 2 && n.ord == 0 && decide (n.num > n.den)) && decide (bareN (kn k n) = ⟨k, 0, 0, 0, 0, 0, n.shift, 0, 0, 0, 0, 0, n.sign, n.ord, n.num, n.den, 0, 0, ⟨#[]⟩⟩)
theorem rglyph1 (n : Nod) (w : World) :
  Calls Try.prog 78 #[nodV (kn 1 n)] w fun e w' => e = .returned (.bool (rGlyph1 n)) ∧ Kept w w' := by
 refine g_enter (args := [nodV (kn 1 n)]) [] [] Try.func78 rfl Try.ntmps78 kL (sat0 w) ?_
 refine g0 ?_
 refine gN fun b0 hb0 => ?_
 refine gA (List.replicate 19 0) 0 ?_
 refine g_callq _ _ _ ?_ (fun w hs => rthree_any (kn 1 n) w) ?_
 ·kernel_rfl
 refine g0 ?_
 refine g_dec 6 (!d3B (kn 1 n).w (kn 1 n).h (kn 1 n).d) kR (fun h6 => ?_) (fun h6 => ?_)
 ·refine gA [] 7 ?_
  refine gR (Value.bool false) fun w' hs => ?_
  exact ⟨ret_bool (by clear hs; (try simp at *); simp [rGlyph1, noText, *]), hs.kk⟩
 refine gA ([0]) 3 ?_
 refine g_dec 11 (decide ((kn 1 n).font < 0)) kR (fun h11 => ?_) (fun h11 => ?_)
 ·refine gA [] 4 ?_
  refine gR (Value.bool false) fun w' hs => ?_
  exact ⟨ret_bool (by clear hs; (try simp at *); simp [rGlyph1, noText, *]), hs.kk⟩
 refine gA ([0]) 3 ?_
 refine g_dec 15 (decide ((kn 1 n).font ≥ 64)) kR (fun h15 => ?_) (fun h15 => ?_)
 ·refine gA [] 1 ?_
  refine gR (Value.bool false) fun w' hs => ?_
  exact ⟨ret_bool (by clear hs; (try simp at *); simp [rGlyph1, noText, *]), hs.kk⟩
 refine gA ([0, 0]) 4 ?_
 refine g_dec 24 (!(kn 1 n).text.toList == (ByteArray.mk #[]).toList) kR (fun h24 => ?_) (fun h24 => ?_)
 ·refine gA [] 16 ?_
  refine gR (Value.bool false) fun w' hs => ?_
  exact ⟨ret_bool (by clear hs; (try simp at *); simp [rGlyph1, noText, *]), hs.kk⟩
 refine gA ([0]) 16 ?_
 refine gD 13 ?_
 refine lA (List.replicate 19 0) 0 ?_
 refine l_callq _ _ _ ?_ (fun w hs => rbare_any (kn 1 n) w) ?_
 ·kernel_rfl
 refine lU 52 (List.replicate 4 0) 0 ?_
 refine l_val _ _ ?_ (fun w _ => .inl (api_eql (bareN (kn 1 n)) ⟨1, n.font, n.char, 0, 0, 0, 0, 0, 0, 0, 0, 0, 0, 0, 0, 0, 0, 0, n.text⟩ (.tmp 42) (.tmp 51) w)) ?_
 ·kernel_rfl
 refine l0 ?_
 refine lE ?_
 refine gR (Value.bool (decide (bareN (kn 1 n) = Nod.mk 1 n.font n.char 0 0 0 0 0 0 0 0 0 0 0 0 0 0 0 n.text))) fun w' hs => ?_
 exact ⟨ret_bool (by clear hs; (try simp at *); simp [rGlyph1, noText, *]), hs.kk⟩
theorem rglyph2 (n : Nod) (w : World) :
  Calls Try.prog 78 #[nodV (kn 2 n)] w fun e w' => e = .returned (.bool (rGlyph2 n)) ∧ Kept w w' := by
 refine g_enter (args := [nodV (kn 2 n)]) [] [] Try.func78 rfl Try.ntmps78 kL (sat0 w) ?_
 refine g0 ?_
 refine gN fun b0 hb0 => ?_
 refine gA (List.replicate 19 0) 0 ?_
 refine g_callq _ _ _ ?_ (fun w hs => rthree_any (kn 2 n) w) ?_
 ·kernel_rfl
 refine g0 ?_
 refine g_dec 6 (!d3B (kn 2 n).w (kn 2 n).h (kn 2 n).d) kR (fun h6 => ?_) (fun h6 => ?_)
 ·refine gA [] 7 ?_
  refine gR (Value.bool false) fun w' hs => ?_
  exact ⟨ret_bool (by clear hs; (try simp at *); simp [rGlyph2, *]), hs.kk⟩
 refine gA ([0]) 3 ?_
 refine g_dec 11 (decide ((kn 2 n).font < 0)) kR (fun h11 => ?_) (fun h11 => ?_)
 ·refine gA [] 4 ?_
  refine gR (Value.bool false) fun w' hs => ?_
  exact ⟨ret_bool (by clear hs; (try simp at *); simp [rGlyph2, *]), hs.kk⟩
 refine gA ([0]) 3 ?_
 refine g_dec 15 (decide ((kn 2 n).font ≥ 64)) kR (fun h15 => ?_) (fun h15 => ?_)
 ·refine gA [] 1 ?_
  refine gR (Value.bool false) fun w' hs => ?_
  exact ⟨ret_bool (by clear hs; (try simp at *); simp [rGlyph2, *]), hs.kk⟩
 refine gA ([0, 0, 0]) 13 ?_
 refine g_dec 33 (decide ((↑(kn 2 n).text.size : Int) < 1)) kR (fun h33 => ?_) (fun h33 => ?_)
 ·refine gA [] 7 ?_
  refine gR (Value.bool false) fun w' hs => ?_
  exact ⟨ret_bool (by clear hs; (try simp at *); simp [rGlyph2, *]), hs.kk⟩
 refine gA ([0]) 6 ?_
 refine g_dec 40 (decide ((↑(kn 2 n).text.size : Int) > 63)) kR (fun h40 => ?_) (fun h40 => ?_)
 ·refine gA [] 1 ?_
  refine gR (Value.bool false) fun w' hs => ?_
  exact ⟨ret_bool (by clear hs; (try simp at *); simp [rGlyph2, *]), hs.kk⟩
 refine gA [] 1 ?_
 refine gD 13 ?_
 refine lA (List.replicate 19 0) 0 ?_
 refine l_callq _ _ _ ?_ (fun w hs => rbare_any (kn 2 n) w) ?_
 ·kernel_rfl
 refine lU 52 (List.replicate 4 0) 0 ?_
 refine l_val _ _ ?_ (fun w _ => .inl (api_eql (bareN (kn 2 n)) ⟨2, n.font, n.char, 0, 0, 0, 0, 0, 0, 0, 0, 0, 0, 0, 0, 0, 0, 0, n.text⟩ (.tmp 42) (.tmp 51) w)) ?_
 ·kernel_rfl
 refine l0 ?_
 refine lE ?_
 refine gR (Value.bool (decide (bareN (kn 2 n) = Nod.mk 2 n.font n.char 0 0 0 0 0 0 0 0 0 0 0 0 0 0 0 n.text))) fun w' hs => ?_
 exact ⟨ret_bool (by clear hs; (try simp at *); simp [rGlyph2, *]), hs.kk⟩
theorem rbox4 (n : Nod) (w : World) :
  Calls Try.prog 80 #[nodV (kn 4 n)] w fun e w' => e = .returned (.bool (rBox 4 n)) ∧ Kept w w' := by
 refine g_enter (args := [nodV (kn 4 n)]) [] [] Try.func80 rfl Try.ntmps80 kL (sat0 w) ?_
 refine g0 ?_
 refine gN fun b0 hb0 => ?_
 refine gA (List.replicate 19 0) 0 ?_
 refine g_callq _ _ _ ?_ (fun w hs => rthree_any (kn 4 n) w) ?_
 ·kernel_rfl
 refine g0 ?_
 refine g_dec 6 (!d3B (kn 4 n).w (kn 4 n).h (kn 4 n).d) kR (fun h6 => ?_) (fun h6 => ?_)
 ·refine gA [] 5 ?_
  refine gR (Value.bool false) fun w' hs => ?_
  exact ⟨ret_bool (by clear hs; (try simp at *); simp [rBox, *]), hs.kk⟩
 refine gA ([0]) 2 ?_
 refine g_callq _ _ _ ?_ (fun w hs => rdimen5_any n.shift w) ?_
 ·kernel_rfl
 refine gA [] 1 ?_
 refine g_dec 11 (!dimB n.shift) kR (fun h11 => ?_) (fun h11 => ?_)
 ·refine gA [] 1 ?_
  refine gR (Value.bool false) fun w' hs => ?_
  exact ⟨ret_bool (by clear hs; (try simp at *); simp [rBox, *]), hs.kk⟩
 refine gA ([0]) 1 ?_
 refine g_dec 14 ((kn 4 n).sign == 0) kR (fun h14 => ?_) (fun h14 => ?_)
 ·refine gA [] 1 ?_
  refine gD 9 ?_
  refine lA (List.replicate 19 0) 0 ?_
  refine l_callq _ _ _ ?_ (fun w hs => rbare_any (kn 4 n) w) ?_
  ·kernel_rfl
  refine lU 22 ([0, 0]) 0 ?_
  refine l_val _ _ ?_ (fun w _ => .inl (api_eql (bareN (kn 4 n)) ⟨4, 0, 0, 0, 0, 0, n.shift, 0, 0, 0, 0, 0, 0, 0, 0, 0, 0, 0, ⟨#[]⟩⟩ (.tmp 16) (.tmp 21) w)) ?_
  ·kernel_rfl
  refine l0 ?_
  refine lE ?_
  refine gR (Value.bool (decide (bareN (kn 4 n) = Nod.mk 4 0 0 0 0 0 n.shift 0 0 0 0 0 0 0 0 0 0 0 (ByteArray.mk #[])))) fun w' hs => ?_
  exact ⟨ret_bool (by clear hs; (try simp at *); simp [rBox, *]), hs.kk⟩
 refine gA ([0]) 1 ?_
 refine g_dec 26 ((kn 4 n).sign != 1) kR (fun h26 => ?_) (fun h26 => ?_)
 ·refine gA ([0]) 3 ?_
  refine g_dec 31 ((kn 4 n).sign != 2) kR (fun h31 => ?_) (fun h31 => ?_)
  ·refine gA [] 19 ?_
   refine gR (Value.bool false) fun w' hs => ?_
   exact ⟨ret_bool (by clear hs; (try simp at *); simp [rBox, *]), hs.kk⟩
  refine gA ([0]) 3 ?_
  refine g_dec 36 (decide ((kn 4 n).ord < 0)) kR (fun h36 => ?_) (fun h36 => ?_)
  ·refine gA [] 16 ?_
   refine gR (Value.bool false) fun w' hs => ?_
   exact ⟨ret_bool (by clear hs; (try simp at *); simp [rBox, *]), hs.kk⟩
  refine gA ([0]) 3 ?_
  refine g_dec 41 (decide ((kn 4 n).ord > 3)) kR (fun h41 => ?_) (fun h41 => ?_)
  ·refine gA [] 13 ?_
   refine gR (Value.bool false) fun w' hs => ?_
   exact ⟨ret_bool (by clear hs; (try simp at *); simp [rBox, *]), hs.kk⟩
  refine gA ([0]) 3 ?_
  refine g_dec 46 (decide ((kn 4 n).num < 1)) kR (fun h46 => ?_) (fun h46 => ?_)
  ·refine gA [] 10 ?_
   refine gR (Value.bool false) fun w' hs => ?_
   exact ⟨ret_bool (by clear hs; (try simp at *); simp [rBox, *]), hs.kk⟩
  refine gA ([0]) 3 ?_
  refine g_dec 51 (decide ((kn 4 n).num > 1152921504606846976)) kR (fun h51 => ?_) (fun h51 => ?_)
  ·refine gA [] 7 ?_
   refine gR (Value.bool false) fun w' hs => ?_
   exact ⟨ret_bool (by clear hs; (try simp at *); simp [rBox, *]), hs.kk⟩
  refine gA ([0]) 3 ?_
  refine g_dec 56 (decide ((kn 4 n).den < 1)) kR (fun h56 => ?_) (fun h56 => ?_)
  ·refine gA [] 4 ?_
   refine gR (Value.bool false) fun w' hs => ?_
   exact ⟨ret_bool (by clear hs; (try simp at *); simp [rBox, *]), hs.kk⟩
  refine gA ([0]) 3 ?_
  refine g_dec 60 (decide ((kn 4 n).den > 1152921504606846976)) kR (fun h60 => ?_) (fun h60 => ?_)
  ·refine gA [] 1 ?_
   refine gR (Value.bool false) fun w' hs => ?_
   exact ⟨ret_bool (by clear hs; (try simp at *); simp [rBox, *]), hs.kk⟩
  refine gA ([0]) 1 ?_
  refine g_dec 64 ((kn 4 n).sign == 2) kR (fun h64 => ?_) (fun h64 => ?_)
  ·refine gA ([0]) 3 ?_
   refine g_dec 69 ((kn 4 n).ord == 0) kR (fun h69 => ?_) (fun h69 => ?_)
   ·refine gA ([0, 0]) 5 ?_
    refine g_dec 75 (decide ((kn 4 n).num > (kn 4 n).den)) kR (fun h75 => ?_) (fun h75 => ?_)
    ·refine gA [] 1 ?_
     refine gR (Value.bool false) fun w' hs => ?_
     exact ⟨ret_bool (by clear hs; (try simp at *); simp [rBox, *]), hs.kk⟩
    refine gA [] 1 ?_
    refine gD 17 ?_
    refine lA (List.replicate 19 0) 0 ?_
    refine l_callq _ _ _ ?_ (fun w hs => rbare_any (kn 4 n) w) ?_
    ·kernel_rfl
    refine lU 91 (List.replicate 6 0) 0 ?_
    refine l_val _ _ ?_ (fun w _ => .inl (api_eql (bareN (kn 4 n)) ⟨4, 0, 0, 0, 0, 0, n.shift, 0, 0, 0, 0, 0, n.sign, n.ord, n.num, n.den, 0, 0, ⟨#[]⟩⟩ (.tmp 77) (.tmp 90) w)) ?_
    ·kernel_rfl
    refine l0 ?_
    refine lE ?_
    refine gR (Value.bool (decide (bareN (kn 4 n) = Nod.mk 4 0 0 0 0 0 n.shift 0 0 0 0 0 n.sign n.ord n.num n.den 0 0 (ByteArray.mk #[])))) fun w' hs => ?_
    exact ⟨ret_bool (by clear hs; (try simp at *); simp [rBox, *]), hs.kk⟩
   refine gA [] 6 ?_
   refine gD 17 ?_
   refine lA (List.replicate 19 0) 0 ?_
   refine l_callq _ _ _ ?_ (fun w hs => rbare_any (kn 4 n) w) ?_
   ·kernel_rfl
   refine lU 91 (List.replicate 6 0) 0 ?_
   refine l_val _ _ ?_ (fun w _ => .inl (api_eql (bareN (kn 4 n)) ⟨4, 0, 0, 0, 0, 0, n.shift, 0, 0, 0, 0, 0, n.sign, n.ord, n.num, n.den, 0, 0, ⟨#[]⟩⟩ (.tmp 77) (.tmp 90) w)) ?_
   ·kernel_rfl
   refine l0 ?_
   refine lE ?_
   refine gR (Value.bool (decide (bareN (kn 4 n) = Nod.mk 4 0 0 0 0 0 n.shift 0 0 0 0 0 n.sign n.ord n.num n.den 0 0 (ByteArray.mk #[])))) fun w' hs => ?_
   exact ⟨ret_bool (by clear hs; (try simp at *); simp [rBox, *]), hs.kk⟩
  refine gA [] 9 ?_
  refine gD 17 ?_
  refine lA (List.replicate 19 0) 0 ?_
  refine l_callq _ _ _ ?_ (fun w hs => rbare_any (kn 4 n) w) ?_
  ·kernel_rfl
  refine lU 91 (List.replicate 6 0) 0 ?_
  refine l_val _ _ ?_ (fun w _ => .inl (api_eql (bareN (kn 4 n)) ⟨4, 0, 0, 0, 0, 0, n.shift, 0, 0, 0, 0, 0, n.sign, n.ord, n.num, n.den, 0, 0, ⟨#[]⟩⟩ (.tmp 77) (.tmp 90) w)) ?_
  ·kernel_rfl
  refine l0 ?_
  refine lE ?_
  refine gR (Value.bool (decide (bareN (kn 4 n) = Nod.mk 4 0 0 0 0 0 n.shift 0 0 0 0 0 n.sign n.ord n.num n.den 0 0 (ByteArray.mk #[])))) fun w' hs => ?_
  exact ⟨ret_bool (by clear hs; (try simp at *); simp [rBox, *]; omega), hs.kk⟩
 refine gA ([0]) 6 ?_
 refine g_dec 36 (decide ((kn 4 n).ord < 0)) kR (fun h36 => ?_) (fun h36 => ?_)
 ·refine gA [] 16 ?_
  refine gR (Value.bool false) fun w' hs => ?_
  exact ⟨ret_bool (by clear hs; (try simp at *); simp [rBox, *]), hs.kk⟩
 refine gA ([0]) 3 ?_
 refine g_dec 41 (decide ((kn 4 n).ord > 3)) kR (fun h41 => ?_) (fun h41 => ?_)
 ·refine gA [] 13 ?_
  refine gR (Value.bool false) fun w' hs => ?_
  exact ⟨ret_bool (by clear hs; (try simp at *); simp [rBox, *]), hs.kk⟩
 refine gA ([0]) 3 ?_
 refine g_dec 46 (decide ((kn 4 n).num < 1)) kR (fun h46 => ?_) (fun h46 => ?_)
 ·refine gA [] 10 ?_
  refine gR (Value.bool false) fun w' hs => ?_
  exact ⟨ret_bool (by clear hs; (try simp at *); simp [rBox, *]), hs.kk⟩
 refine gA ([0]) 3 ?_
 refine g_dec 51 (decide ((kn 4 n).num > 1152921504606846976)) kR (fun h51 => ?_) (fun h51 => ?_)
 ·refine gA [] 7 ?_
  refine gR (Value.bool false) fun w' hs => ?_
  exact ⟨ret_bool (by clear hs; (try simp at *); simp [rBox, *]), hs.kk⟩
 refine gA ([0]) 3 ?_
 refine g_dec 56 (decide ((kn 4 n).den < 1)) kR (fun h56 => ?_) (fun h56 => ?_)
 ·refine gA [] 4 ?_
  refine gR (Value.bool false) fun w' hs => ?_
  exact ⟨ret_bool (by clear hs; (try simp at *); simp [rBox, *]), hs.kk⟩
 refine gA ([0]) 3 ?_
 refine g_dec 60 (decide ((kn 4 n).den > 1152921504606846976)) kR (fun h60 => ?_) (fun h60 => ?_)
 ·refine gA [] 1 ?_
  refine gR (Value.bool false) fun w' hs => ?_
  exact ⟨ret_bool (by clear hs; (try simp at *); simp [rBox, *]), hs.kk⟩
 refine gA ([0]) 1 ?_
 refine g_dec 64 ((kn 4 n).sign == 2) kR (fun h64 => ?_) (fun h64 => ?_)
 ·refine gA ([0]) 3 ?_
  refine g_dec 69 ((kn 4 n).ord == 0) kR (fun h69 => ?_) (fun h69 => ?_)
  ·refine gA ([0, 0]) 5 ?_
   refine g_dec 75 (decide ((kn 4 n).num > (kn 4 n).den)) kR (fun h75 => ?_) (fun h75 => ?_)
   ·refine gA [] 1 ?_
    refine gR (Value.bool false) fun w' hs => ?_
    exact ⟨ret_bool (by clear hs; (try simp at *); simp [rBox, *]; omega), hs.kk⟩
   refine gA [] 1 ?_
   refine gD 17 ?_
   refine lA (List.replicate 19 0) 0 ?_
   refine l_callq _ _ _ ?_ (fun w hs => rbare_any (kn 4 n) w) ?_
   ·kernel_rfl
   refine lU 91 (List.replicate 6 0) 0 ?_
   refine l_val _ _ ?_ (fun w _ => .inl (api_eql (bareN (kn 4 n)) ⟨4, 0, 0, 0, 0, 0, n.shift, 0, 0, 0, 0, 0, n.sign, n.ord, n.num, n.den, 0, 0, ⟨#[]⟩⟩ (.tmp 77) (.tmp 90) w)) ?_
   ·kernel_rfl
   refine l0 ?_
   refine lE ?_
   refine gR (Value.bool (decide (bareN (kn 4 n) = Nod.mk 4 0 0 0 0 0 n.shift 0 0 0 0 0 n.sign n.ord n.num n.den 0 0 (ByteArray.mk #[])))) fun w' hs => ?_
   exact ⟨ret_bool (by clear hs; (try simp at *); simp [rBox, *]), hs.kk⟩
  refine gA [] 6 ?_
  refine gD 17 ?_
  refine lA (List.replicate 19 0) 0 ?_
  refine l_callq _ _ _ ?_ (fun w hs => rbare_any (kn 4 n) w) ?_
  ·kernel_rfl
  refine lU 91 (List.replicate 6 0) 0 ?_
  refine l_val _ _ ?_ (fun w _ => .inl (api_eql (bareN (kn 4 n)) ⟨4, 0, 0, 0, 0, 0, n.shift, 0, 0, 0, 0, 0, n.sign, n.ord, n.num, n.den, 0, 0, ⟨#[]⟩⟩ (.tmp 77) (.tmp 90) w)) ?_
  ·kernel_rfl
  refine l0 ?_
  refine lE ?_
  refine gR (Value.bool (decide (bareN (kn 4 n) = Nod.mk 4 0 0 0 0 0 n.shift 0 0 0 0 0 n.sign n.ord n.num n.den 0 0 (ByteArray.mk #[])))) fun w' hs => ?_
  exact ⟨ret_bool (by clear hs; (try simp at *); simp [rBox, *]), hs.kk⟩
 refine gA [] 9 ?_
 refine gD 17 ?_
 refine lA (List.replicate 19 0) 0 ?_
 refine l_callq _ _ _ ?_ (fun w hs => rbare_any (kn 4 n) w) ?_
 ·kernel_rfl
 refine lU 91 (List.replicate 6 0) 0 ?_
 refine l_val _ _ ?_ (fun w _ => .inl (api_eql (bareN (kn 4 n)) ⟨4, 0, 0, 0, 0, 0, n.shift, 0, 0, 0, 0, 0, n.sign, n.ord, n.num, n.den, 0, 0, ⟨#[]⟩⟩ (.tmp 77) (.tmp 90) w)) ?_
 ·kernel_rfl
 refine l0 ?_
 refine lE ?_
 refine gR (Value.bool (decide (bareN (kn 4 n) = Nod.mk 4 0 0 0 0 0 n.shift 0 0 0 0 0 n.sign n.ord n.num n.den 0 0 (ByteArray.mk #[])))) fun w' hs => ?_
 exact ⟨ret_bool (by clear hs; (try simp at *); simp [rBox, *]), hs.kk⟩
theorem rbox5 (n : Nod) (w : World) :
  Calls Try.prog 80 #[nodV (kn 5 n)] w fun e w' => e = .returned (.bool (rBox 5 n)) ∧ Kept w w' := by
 refine g_enter (args := [nodV (kn 5 n)]) [] [] Try.func80 rfl Try.ntmps80 kL (sat0 w) ?_
 refine g0 ?_
 refine gN fun b0 hb0 => ?_
 refine gA (List.replicate 19 0) 0 ?_
 refine g_callq _ _ _ ?_ (fun w hs => rthree_any (kn 5 n) w) ?_
 ·kernel_rfl
 refine g0 ?_
 refine g_dec 6 (!d3B (kn 5 n).w (kn 5 n).h (kn 5 n).d) kR (fun h6 => ?_) (fun h6 => ?_)
 ·refine gA [] 5 ?_
  refine gR (Value.bool false) fun w' hs => ?_
  exact ⟨ret_bool (by clear hs; (try simp at *); simp [rBox, *]), hs.kk⟩
 refine gA ([0]) 2 ?_
 refine g_callq _ _ _ ?_ (fun w hs => rdimen5_any n.shift w) ?_
 ·kernel_rfl
 refine gA [] 1 ?_
 refine g_dec 11 (!dimB n.shift) kR (fun h11 => ?_) (fun h11 => ?_)
 ·refine gA [] 1 ?_
  refine gR (Value.bool false) fun w' hs => ?_
  exact ⟨ret_bool (by clear hs; (try simp at *); simp [rBox, *]), hs.kk⟩
 refine gA ([0]) 1 ?_
 refine g_dec 14 ((kn 5 n).sign == 0) kR (fun h14 => ?_) (fun h14 => ?_)
 ·refine gA [] 1 ?_
  refine gD 9 ?_
  refine lA (List.replicate 19 0) 0 ?_
  refine l_callq _ _ _ ?_ (fun w hs => rbare_any (kn 5 n) w) ?_
  ·kernel_rfl
  refine lU 22 ([0, 0]) 0 ?_
  refine l_val _ _ ?_ (fun w _ => .inl (api_eql (bareN (kn 5 n)) ⟨5, 0, 0, 0, 0, 0, n.shift, 0, 0, 0, 0, 0, 0, 0, 0, 0, 0, 0, ⟨#[]⟩⟩ (.tmp 16) (.tmp 21) w)) ?_
  ·kernel_rfl
  refine l0 ?_
  refine lE ?_
  refine gR (Value.bool (decide (bareN (kn 5 n) = Nod.mk 5 0 0 0 0 0 n.shift 0 0 0 0 0 0 0 0 0 0 0 (ByteArray.mk #[])))) fun w' hs => ?_
  exact ⟨ret_bool (by clear hs; (try simp at *); simp [rBox, *]), hs.kk⟩
 refine gA ([0]) 1 ?_
 refine g_dec 26 ((kn 5 n).sign != 1) kR (fun h26 => ?_) (fun h26 => ?_)
 ·refine gA ([0]) 3 ?_
  refine g_dec 31 ((kn 5 n).sign != 2) kR (fun h31 => ?_) (fun h31 => ?_)
  ·refine gA [] 19 ?_
   refine gR (Value.bool false) fun w' hs => ?_
   exact ⟨ret_bool (by clear hs; (try simp at *); simp [rBox, *]), hs.kk⟩
  refine gA ([0]) 3 ?_
  refine g_dec 36 (decide ((kn 5 n).ord < 0)) kR (fun h36 => ?_) (fun h36 => ?_)
  ·refine gA [] 16 ?_
   refine gR (Value.bool false) fun w' hs => ?_
   exact ⟨ret_bool (by clear hs; (try simp at *); simp [rBox, *]), hs.kk⟩
  refine gA ([0]) 3 ?_
  refine g_dec 41 (decide ((kn 5 n).ord > 3)) kR (fun h41 => ?_) (fun h41 => ?_)
  ·refine gA [] 13 ?_
   refine gR (Value.bool false) fun w' hs => ?_
   exact ⟨ret_bool (by clear hs; (try simp at *); simp [rBox, *]), hs.kk⟩
  refine gA ([0]) 3 ?_
  refine g_dec 46 (decide ((kn 5 n).num < 1)) kR (fun h46 => ?_) (fun h46 => ?_)
  ·refine gA [] 10 ?_
   refine gR (Value.bool false) fun w' hs => ?_
   exact ⟨ret_bool (by clear hs; (try simp at *); simp [rBox, *]), hs.kk⟩
  refine gA ([0]) 3 ?_
  refine g_dec 51 (decide ((kn 5 n).num > 1152921504606846976)) kR (fun h51 => ?_) (fun h51 => ?_)
  ·refine gA [] 7 ?_
   refine gR (Value.bool false) fun w' hs => ?_
   exact ⟨ret_bool (by clear hs; (try simp at *); simp [rBox, *]), hs.kk⟩
  refine gA ([0]) 3 ?_
  refine g_dec 56 (decide ((kn 5 n).den < 1)) kR (fun h56 => ?_) (fun h56 => ?_)
  ·refine gA [] 4 ?_
   refine gR (Value.bool false) fun w' hs => ?_
   exact ⟨ret_bool (by clear hs; (try simp at *); simp [rBox, *]), hs.kk⟩
  refine gA ([0]) 3 ?_
  refine g_dec 60 (decide ((kn 5 n).den > 1152921504606846976)) kR (fun h60 => ?_) (fun h60 => ?_)
  ·refine gA [] 1 ?_
   refine gR (Value.bool false) fun w' hs => ?_
   exact ⟨ret_bool (by clear hs; (try simp at *); simp [rBox, *]), hs.kk⟩
  refine gA ([0]) 1 ?_
  refine g_dec 64 ((kn 5 n).sign == 2) kR (fun h64 => ?_) (fun h64 => ?_)
  ·refine gA ([0]) 3 ?_
   refine g_dec 69 ((kn 5 n).ord == 0) kR (fun h69 => ?_) (fun h69 => ?_)
   ·refine gA ([0, 0]) 5 ?_
    refine g_dec 75 (decide ((kn 5 n).num > (kn 5 n).den)) kR (fun h75 => ?_) (fun h75 => ?_)
    ·refine gA [] 1 ?_
     refine gR (Value.bool false) fun w' hs => ?_
     exact ⟨ret_bool (by clear hs; (try simp at *); simp [rBox, *]), hs.kk⟩
    refine gA [] 1 ?_
    refine gD 17 ?_
    refine lA (List.replicate 19 0) 0 ?_
    refine l_callq _ _ _ ?_ (fun w hs => rbare_any (kn 5 n) w) ?_
    ·kernel_rfl
    refine lU 91 (List.replicate 6 0) 0 ?_
    refine l_val _ _ ?_ (fun w _ => .inl (api_eql (bareN (kn 5 n)) ⟨5, 0, 0, 0, 0, 0, n.shift, 0, 0, 0, 0, 0, n.sign, n.ord, n.num, n.den, 0, 0, ⟨#[]⟩⟩ (.tmp 77) (.tmp 90) w)) ?_
    ·kernel_rfl
    refine l0 ?_
    refine lE ?_
    refine gR (Value.bool (decide (bareN (kn 5 n) = Nod.mk 5 0 0 0 0 0 n.shift 0 0 0 0 0 n.sign n.ord n.num n.den 0 0 (ByteArray.mk #[])))) fun w' hs => ?_
    exact ⟨ret_bool (by clear hs; (try simp at *); simp [rBox, *]), hs.kk⟩
   refine gA [] 6 ?_
   refine gD 17 ?_
   refine lA (List.replicate 19 0) 0 ?_
   refine l_callq _ _ _ ?_ (fun w hs => rbare_any (kn 5 n) w) ?_
   ·kernel_rfl
   refine lU 91 (List.replicate 6 0) 0 ?_
   refine l_val _ _ ?_ (fun w _ => .inl (api_eql (bareN (kn 5 n)) ⟨5, 0, 0, 0, 0, 0, n.shift, 0, 0, 0, 0, 0, n.sign, n.ord, n.num, n.den, 0, 0, ⟨#[]⟩⟩ (.tmp 77) (.tmp 90) w)) ?_
   ·kernel_rfl
   refine l0 ?_
   refine lE ?_
   refine gR (Value.bool (decide (bareN (kn 5 n) = Nod.mk 5 0 0 0 0 0 n.shift 0 0 0 0 0 n.sign n.ord n.num n.den 0 0 (ByteArray.mk #[])))) fun w' hs => ?_
   exact ⟨ret_bool (by clear hs; (try simp at *); simp [rBox, *]), hs.kk⟩
  refine gA [] 9 ?_
  refine gD 17 ?_
  refine lA (List.replicate 19 0) 0 ?_
  refine l_callq _ _ _ ?_ (fun w hs => rbare_any (kn 5 n) w) ?_
  ·kernel_rfl
  refine lU 91 (List.replicate 6 0) 0 ?_
  refine l_val _ _ ?_ (fun w _ => .inl (api_eql (bareN (kn 5 n)) ⟨5, 0, 0, 0, 0, 0, n.shift, 0, 0, 0, 0, 0, n.sign, n.ord, n.num, n.den, 0, 0, ⟨#[]⟩⟩ (.tmp 77) (.tmp 90) w)) ?_
  ·kernel_rfl
  refine l0 ?_
  refine lE ?_
  refine gR (Value.bool (decide (bareN (kn 5 n) = Nod.mk 5 0 0 0 0 0 n.shift 0 0 0 0 0 n.sign n.ord n.num n.den 0 0 (ByteArray.mk #[])))) fun w' hs => ?_
  exact ⟨ret_bool (by clear hs; (try simp at *); simp [rBox, *]; omega), hs.kk⟩
 refine gA ([0]) 6 ?_
 refine g_dec 36 (decide ((kn 5 n).ord < 0)) kR (fun h36 => ?_) (fun h36 => ?_)
 ·refine gA [] 16 ?_
  refine gR (Value.bool false) fun w' hs => ?_
  exact ⟨ret_bool (by clear hs; (try simp at *); simp [rBox, *]), hs.kk⟩
 refine gA ([0]) 3 ?_
 refine g_dec 41 (decide ((kn 5 n).ord > 3)) kR (fun h41 => ?_) (fun h41 => ?_)
 ·refine gA [] 13 ?_
  refine gR (Value.bool false) fun w' hs => ?_
  exact ⟨ret_bool (by clear hs; (try simp at *); simp [rBox, *]), hs.kk⟩
 refine gA ([0]) 3 ?_
 refine g_dec 46 (decide ((kn 5 n).num < 1)) kR (fun h46 => ?_) (fun h46 => ?_)
 ·refine gA [] 10 ?_
  refine gR (Value.bool false) fun w' hs => ?_
  exact ⟨ret_bool (by clear hs; (try simp at *); simp [rBox, *]), hs.kk⟩
 refine gA ([0]) 3 ?_
 refine g_dec 51 (decide ((kn 5 n).num > 1152921504606846976)) kR (fun h51 => ?_) (fun h51 => ?_)
 ·refine gA [] 7 ?_
  refine gR (Value.bool false) fun w' hs => ?_
  exact ⟨ret_bool (by clear hs; (try simp at *); simp [rBox, *]), hs.kk⟩
 refine gA ([0]) 3 ?_
 refine g_dec 56 (decide ((kn 5 n).den < 1)) kR (fun h56 => ?_) (fun h56 => ?_)
 ·refine gA [] 4 ?_
  refine gR (Value.bool false) fun w' hs => ?_
  exact ⟨ret_bool (by clear hs; (try simp at *); simp [rBox, *]), hs.kk⟩
 refine gA ([0]) 3 ?_
 refine g_dec 60 (decide ((kn 5 n).den > 1152921504606846976)) kR (fun h60 => ?_) (fun h60 => ?_)
 ·refine gA [] 1 ?_
  refine gR (Value.bool false) fun w' hs => ?_
  exact ⟨ret_bool (by clear hs; (try simp at *); simp [rBox, *]), hs.kk⟩
 refine gA ([0]) 1 ?_
 refine g_dec 64 ((kn 5 n).sign == 2) kR (fun h64 => ?_) (fun h64 => ?_)
 ·refine gA ([0]) 3 ?_
  refine g_dec 69 ((kn 5 n).ord == 0) kR (fun h69 => ?_) (fun h69 => ?_)
  ·refine gA ([0, 0]) 5 ?_
   refine g_dec 75 (decide ((kn 5 n).num > (kn 5 n).den)) kR (fun h75 => ?_) (fun h75 => ?_)
   ·refine gA [] 1 ?_
    refine gR (Value.bool false) fun w' hs => ?_
    exact ⟨ret_bool (by clear hs; (try simp at *); simp [rBox, *]; omega), hs.kk⟩
   refine gA [] 1 ?_
   refine gD 17 ?_
   refine lA (List.replicate 19 0) 0 ?_
   refine l_callq _ _ _ ?_ (fun w hs => rbare_any (kn 5 n) w) ?_
   ·kernel_rfl
   refine lU 91 (List.replicate 6 0) 0 ?_
   refine l_val _ _ ?_ (fun w _ => .inl (api_eql (bareN (kn 5 n)) ⟨5, 0, 0, 0, 0, 0, n.shift, 0, 0, 0, 0, 0, n.sign, n.ord, n.num, n.den, 0, 0, ⟨#[]⟩⟩ (.tmp 77) (.tmp 90) w)) ?_
   ·kernel_rfl
   refine l0 ?_
   refine lE ?_
   refine gR (Value.bool (decide (bareN (kn 5 n) = Nod.mk 5 0 0 0 0 0 n.shift 0 0 0 0 0 n.sign n.ord n.num n.den 0 0 (ByteArray.mk #[])))) fun w' hs => ?_
   exact ⟨ret_bool (by clear hs; (try simp at *); simp [rBox, *]), hs.kk⟩
  refine gA [] 6 ?_
  refine gD 17 ?_
  refine lA (List.replicate 19 0) 0 ?_
  refine l_callq _ _ _ ?_ (fun w hs => rbare_any (kn 5 n) w) ?_
  ·kernel_rfl
  refine lU 91 (List.replicate 6 0) 0 ?_
  refine l_val _ _ ?_ (fun w _ => .inl (api_eql (bareN (kn 5 n)) ⟨5, 0, 0, 0, 0, 0, n.shift, 0, 0, 0, 0, 0, n.sign, n.ord, n.num, n.den, 0, 0, ⟨#[]⟩⟩ (.tmp 77) (.tmp 90) w)) ?_
  ·kernel_rfl
  refine l0 ?_
  refine lE ?_
  refine gR (Value.bool (decide (bareN (kn 5 n) = Nod.mk 5 0 0 0 0 0 n.shift 0 0 0 0 0 n.sign n.ord n.num n.den 0 0 (ByteArray.mk #[])))) fun w' hs => ?_
  exact ⟨ret_bool (by clear hs; (try simp at *); simp [rBox, *]), hs.kk⟩
 refine gA [] 9 ?_
 refine gD 17 ?_
 refine lA (List.replicate 19 0) 0 ?_
 refine l_callq _ _ _ ?_ (fun w hs => rbare_any (kn 5 n) w) ?_
 ·kernel_rfl
 refine lU 91 (List.replicate 6 0) 0 ?_
 refine l_val _ _ ?_ (fun w _ => .inl (api_eql (bareN (kn 5 n)) ⟨5, 0, 0, 0, 0, 0, n.shift, 0, 0, 0, 0, 0, n.sign, n.ord, n.num, n.den, 0, 0, ⟨#[]⟩⟩ (.tmp 77) (.tmp 90) w)) ?_
 ·kernel_rfl
 refine l0 ?_
 refine lE ?_
 refine gR (Value.bool (decide (bareN (kn 5 n) = Nod.mk 5 0 0 0 0 0 n.shift 0 0 0 0 0 n.sign n.ord n.num n.den 0 0 (ByteArray.mk #[])))) fun w' hs => ?_
 exact ⟨ret_bool (by clear hs; (try simp at *); simp [rBox, *]), hs.kk⟩
end Go.Proofs.Ytcncfmjfgdbfeab
