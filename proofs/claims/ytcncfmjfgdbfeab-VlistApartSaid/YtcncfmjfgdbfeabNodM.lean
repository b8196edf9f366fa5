/- the document's nodes: Good, second part. -/
import Derived.Test.YtcncfmjfgdbfeabNodL
namespace Go.Proofs.Ytcncfmjfgdbfeab
open Go.RowKit

def noText (n : Nod) : Bool := n.text.toList == (ByteArray.mk #[]).toList
def rGlyph1 (n : Nod) : Bool := (d3B n.w n.h n.d && !decide (n.font < 0) && !decide (n.font ≥ 64)) && noText n && decide (bareN (kn 1 n) = ⟨1, n.font, n.char, 0, 0, 0, 0, 0, 0, 0, 0, 0, 0, 0, 0, 0, 0, 0, n.text⟩)
def rGlyph2 (n : Nod) : Bool := (d3B n.w n.h n.d && !decide (n.font < 0) && !decide (n.font ≥ 64)) && !decide ((n.text.size : Int) < 1) && !decide ((n.text.size : Int) > 63) && decide (bareN (kn 2 n) = ⟨2, n.font, n.char, 0, 0, 0, 0, 0, 0, 0, 0, 0, 0, 0, 0, 0, 0, 0, n.text⟩)
def rBox (k : Int) (n : Nod) : Bool := d3B n.w n.h n.d && dimB n.shift &&
  bif n.sign == 0 then decide (bareN (kn k n) = ⟨k, 0, 0, 0, 0, 0, n.shift, 0, 0, 0, 0, 0, 0, 0, 0, 0, 0, 0, ⟨#[]⟩⟩)
  else (n.sign == 1 || n.sign == 2) && !decide (n.ord < 0) && !decide (n.ord > 3) && !decide (n.num < 1) && !decide (n.num > 1152921504606846976) && !decide (n.den < 1) && !decide (n.den > 1152921504606846976) &&
    !(n.sign == 2 && n.ord == 0 && decide (n.num > n.den)) && decide (bareN (kn k n) = ⟨k, 0, 0, 0, 0, 0, n.shift, 0, 0, 0, 0, 0, n.sign, n.ord, n.num, n.den, 0, 0, ⟨#[]⟩⟩)
set_option maxRecDepth 100000 in
set_option maxHeartbeats 4000000 in
theorem rglyph1 (n : Nod) (w : World) :
    Calls Try.prog 78 #[nodV (kn 1 n)] w fun e w' => e = .returned (.bool (rGlyph1 n)) ∧ Kept w w' := by
  refine g_enter (args := [nodV (kn 1 n)]) [] [] Try.func78 rfl Try.ntmps78 (Nat.le_of_ble_eq_true (by kernel_rfl)) (sat0 w) ?_
  refine g_run 9999 [] 0 (by kernel_rfl) ?_
  refine g_new (fun b => by kernel_rfl) fun b0 hb0 => ?_
  refine g_run 9999 (List.replicate 19 0) 0 (by kernel_rfl) ?_
  refine g_callq _ _ _ ?_ (fun w hs => rthree_any (kn 1 n) w) ?_
  · kernel_rfl
  refine g_run 9999 [] 0 (by kernel_rfl) ?_
  refine g_dec 6 (!d3B (kn 1 n).w (kn 1 n).h (kn 1 n).d) (by kernel_rfl) (fun h6 => ?_) (fun h6 => ?_)
  · refine g_run 9999 [] 7 (by kernel_rfl) ?_
    refine g_ret [] (Value.bool false) (by kernel_rfl) (by kernel_rfl) (by kernel_rfl) fun w' hs => ?_
    exact ⟨ret_bool (by clear hs; (try simp at *); simp [rGlyph1, noText, *]), hs.kept.kept⟩
  · refine g_run 9999 ([0]) 3 (by kernel_rfl) ?_
    refine g_dec 11 (decide ((kn 1 n).font < 0)) (by kernel_rfl) (fun h11 => ?_) (fun h11 => ?_)
    · refine g_run 9999 [] 4 (by kernel_rfl) ?_
      refine g_ret [] (Value.bool false) (by kernel_rfl) (by kernel_rfl) (by kernel_rfl) fun w' hs => ?_
      exact ⟨ret_bool (by clear hs; (try simp at *); simp [rGlyph1, noText, *]), hs.kept.kept⟩
    · refine g_run 9999 ([0]) 3 (by kernel_rfl) ?_
      refine g_dec 15 (decide ((kn 1 n).font ≥ 64)) (by kernel_rfl) (fun h15 => ?_) (fun h15 => ?_)
      · refine g_run 9999 [] 1 (by kernel_rfl) ?_
        refine g_ret [] (Value.bool false) (by kernel_rfl) (by kernel_rfl) (by kernel_rfl) fun w' hs => ?_
        exact ⟨ret_bool (by clear hs; (try simp at *); simp [rGlyph1, noText, *]), hs.kept.kept⟩
      · refine g_run 9999 ([0, 0]) 4 (by kernel_rfl) ?_
        refine g_dec 24 (!(kn 1 n).text.toList == (ByteArray.mk #[]).toList) (by kernel_rfl) (fun h24 => ?_) (fun h24 => ?_)
        · refine g_run 9999 [] 16 (by kernel_rfl) ?_
          refine g_ret [] (Value.bool false) (by kernel_rfl) (by kernel_rfl) (by kernel_rfl) fun w' hs => ?_
          exact ⟨ret_bool (by clear hs; (try simp at *); simp [rGlyph1, noText, *]), hs.kept.kept⟩
        · refine g_run 9999 ([0]) 16 (by kernel_rfl) ?_
          refine g_draw 13 (by kernel_rfl) (by kernel_rfl) ?_
          refine l_run 9999 (List.replicate 19 0) 0 (by kernel_rfl) ?_
          refine l_callq _ _ _ ?_ (fun w hs => rbare_any (kn 1 n) w) ?_
          · kernel_rfl
          refine l_run 52 (List.replicate 4 0) 0 (by kernel_rfl) ?_
          refine l_val _ _ ?_ (fun w _ => .inl (api_eql (bareN (kn 1 n)) ⟨1, n.font, n.char, 0, 0, 0, 0, 0, 0, 0, 0, 0, 0, 0, 0, 0, 0, 0, n.text⟩ (.tmp 42) (.tmp 51) w)) ?_
          · kernel_rfl
          refine l_run 9999 [] 0 (by kernel_rfl) ?_
          refine l_end (by kernel_rfl) ?_
          refine g_ret [] (Value.bool (decide (bareN (kn 1 n) = Nod.mk 1 n.font n.char 0 0 0 0 0 0 0 0 0 0 0 0 0 0 0 n.text))) (by kernel_rfl) (by kernel_rfl) (by kernel_rfl) fun w' hs => ?_
          exact ⟨ret_bool (by clear hs; (try simp at *); simp [rGlyph1, noText, *]), hs.kept.kept⟩
set_option maxRecDepth 100000 in
set_option maxHeartbeats 4000000 in
theorem rglyph2 (n : Nod) (w : World) :
    Calls Try.prog 78 #[nodV (kn 2 n)] w fun e w' => e = .returned (.bool (rGlyph2 n)) ∧ Kept w w' := by
  refine g_enter (args := [nodV (kn 2 n)]) [] [] Try.func78 rfl Try.ntmps78 (Nat.le_of_ble_eq_true (by kernel_rfl)) (sat0 w) ?_
  refine g_run 9999 [] 0 (by kernel_rfl) ?_
  refine g_new (fun b => by kernel_rfl) fun b0 hb0 => ?_
  refine g_run 9999 (List.replicate 19 0) 0 (by kernel_rfl) ?_
  refine g_callq _ _ _ ?_ (fun w hs => rthree_any (kn 2 n) w) ?_
  · kernel_rfl
  refine g_run 9999 [] 0 (by kernel_rfl) ?_
  refine g_dec 6 (!d3B (kn 2 n).w (kn 2 n).h (kn 2 n).d) (by kernel_rfl) (fun h6 => ?_) (fun h6 => ?_)
  · refine g_run 9999 [] 7 (by kernel_rfl) ?_
    refine g_ret [] (Value.bool false) (by kernel_rfl) (by kernel_rfl) (by kernel_rfl) fun w' hs => ?_
    exact ⟨ret_bool (by clear hs; (try simp at *); simp [rGlyph2, *]), hs.kept.kept⟩
  · refine g_run 9999 ([0]) 3 (by kernel_rfl) ?_
    refine g_dec 11 (decide ((kn 2 n).font < 0)) (by kernel_rfl) (fun h11 => ?_) (fun h11 => ?_)
    · refine g_run 9999 [] 4 (by kernel_rfl) ?_
      refine g_ret [] (Value.bool false) (by kernel_rfl) (by kernel_rfl) (by kernel_rfl) fun w' hs => ?_
      exact ⟨ret_bool (by clear hs; (try simp at *); simp [rGlyph2, *]), hs.kept.kept⟩
    · refine g_run 9999 ([0]) 3 (by kernel_rfl) ?_
      refine g_dec 15 (decide ((kn 2 n).font ≥ 64)) (by kernel_rfl) (fun h15 => ?_) (fun h15 => ?_)
      · refine g_run 9999 [] 1 (by kernel_rfl) ?_
        refine g_ret [] (Value.bool false) (by kernel_rfl) (by kernel_rfl) (by kernel_rfl) fun w' hs => ?_
        exact ⟨ret_bool (by clear hs; (try simp at *); simp [rGlyph2, *]), hs.kept.kept⟩
      · refine g_run 9999 ([0, 0, 0]) 13 (by kernel_rfl) ?_
        refine g_dec 33 (decide ((↑(kn 2 n).text.size : Int) < 1)) (by kernel_rfl) (fun h33 => ?_) (fun h33 => ?_)
        · refine g_run 9999 [] 7 (by kernel_rfl) ?_
          refine g_ret [] (Value.bool false) (by kernel_rfl) (by kernel_rfl) (by kernel_rfl) fun w' hs => ?_
          exact ⟨ret_bool (by clear hs; (try simp at *); simp [rGlyph2, *]), hs.kept.kept⟩
        · refine g_run 9999 ([0]) 6 (by kernel_rfl) ?_
          refine g_dec 40 (decide ((↑(kn 2 n).text.size : Int) > 63)) (by kernel_rfl) (fun h40 => ?_) (fun h40 => ?_)
          · refine g_run 9999 [] 1 (by kernel_rfl) ?_
            refine g_ret [] (Value.bool false) (by kernel_rfl) (by kernel_rfl) (by kernel_rfl) fun w' hs => ?_
            exact ⟨ret_bool (by clear hs; (try simp at *); simp [rGlyph2, *]), hs.kept.kept⟩
          · refine g_run 9999 [] 1 (by kernel_rfl) ?_
            refine g_draw 13 (by kernel_rfl) (by kernel_rfl) ?_
            refine l_run 9999 (List.replicate 19 0) 0 (by kernel_rfl) ?_
            refine l_callq _ _ _ ?_ (fun w hs => rbare_any (kn 2 n) w) ?_
            · kernel_rfl
            refine l_run 52 (List.replicate 4 0) 0 (by kernel_rfl) ?_
            refine l_val _ _ ?_ (fun w _ => .inl (api_eql (bareN (kn 2 n)) ⟨2, n.font, n.char, 0, 0, 0, 0, 0, 0, 0, 0, 0, 0, 0, 0, 0, 0, 0, n.text⟩ (.tmp 42) (.tmp 51) w)) ?_
            · kernel_rfl
            refine l_run 9999 [] 0 (by kernel_rfl) ?_
            refine l_end (by kernel_rfl) ?_
            refine g_ret [] (Value.bool (decide (bareN (kn 2 n) = Nod.mk 2 n.font n.char 0 0 0 0 0 0 0 0 0 0 0 0 0 0 0 n.text))) (by kernel_rfl) (by kernel_rfl) (by kernel_rfl) fun w' hs => ?_
            exact ⟨ret_bool (by clear hs; (try simp at *); simp [rGlyph2, *]), hs.kept.kept⟩
set_option maxRecDepth 100000 in
set_option maxHeartbeats 4000000 in
theorem rbox4 (n : Nod) (w : World) :
    Calls Try.prog 80 #[nodV (kn 4 n)] w fun e w' => e = .returned (.bool (rBox 4 n)) ∧ Kept w w' := by
  refine g_enter (args := [nodV (kn 4 n)]) [] [] Try.func80 rfl Try.ntmps80 (Nat.le_of_ble_eq_true (by kernel_rfl)) (sat0 w) ?_
  refine g_run 9999 [] 0 (by kernel_rfl) ?_
  refine g_new (fun b => by kernel_rfl) fun b0 hb0 => ?_
  refine g_run 9999 (List.replicate 19 0) 0 (by kernel_rfl) ?_
  refine g_callq _ _ _ ?_ (fun w hs => rthree_any (kn 4 n) w) ?_
  · kernel_rfl
  refine g_run 9999 [] 0 (by kernel_rfl) ?_
  refine g_dec 6 (!d3B (kn 4 n).w (kn 4 n).h (kn 4 n).d) (by kernel_rfl) (fun h6 => ?_) (fun h6 => ?_)
  · refine g_run 9999 [] 5 (by kernel_rfl) ?_
    refine g_ret [] (Value.bool false) (by kernel_rfl) (by kernel_rfl) (by kernel_rfl) fun w' hs => ?_
    exact ⟨ret_bool (by clear hs; (try simp at *); simp [rBox, *]), hs.kept.kept⟩
  · refine g_run 9999 ([0]) 2 (by kernel_rfl) ?_
    refine g_callq _ _ _ ?_ (fun w hs => rdimen5_any n.shift w) ?_
    · kernel_rfl
    refine g_run 9999 [] 1 (by kernel_rfl) ?_
    refine g_dec 11 (!dimB n.shift) (by kernel_rfl) (fun h11 => ?_) (fun h11 => ?_)
    · refine g_run 9999 [] 1 (by kernel_rfl) ?_
      refine g_ret [] (Value.bool false) (by kernel_rfl) (by kernel_rfl) (by kernel_rfl) fun w' hs => ?_
      exact ⟨ret_bool (by clear hs; (try simp at *); simp [rBox, *]), hs.kept.kept⟩
    · refine g_run 9999 ([0]) 1 (by kernel_rfl) ?_
      refine g_dec 14 ((kn 4 n).sign == 0) (by kernel_rfl) (fun h14 => ?_) (fun h14 => ?_)
      · refine g_run 9999 [] 1 (by kernel_rfl) ?_
        refine g_draw 9 (by kernel_rfl) (by kernel_rfl) ?_
        refine l_run 9999 (List.replicate 19 0) 0 (by kernel_rfl) ?_
        refine l_callq _ _ _ ?_ (fun w hs => rbare_any (kn 4 n) w) ?_
        · kernel_rfl
        refine l_run 22 ([0, 0]) 0 (by kernel_rfl) ?_
        refine l_val _ _ ?_ (fun w _ => .inl (api_eql (bareN (kn 4 n)) ⟨4, 0, 0, 0, 0, 0, n.shift, 0, 0, 0, 0, 0, 0, 0, 0, 0, 0, 0, ⟨#[]⟩⟩ (.tmp 16) (.tmp 21) w)) ?_
        · kernel_rfl
        refine l_run 9999 [] 0 (by kernel_rfl) ?_
        refine l_end (by kernel_rfl) ?_
        refine g_ret [] (Value.bool (decide (bareN (kn 4 n) = Nod.mk 4 0 0 0 0 0 n.shift 0 0 0 0 0 0 0 0 0 0 0 (ByteArray.mk #[])))) (by kernel_rfl) (by kernel_rfl) (by kernel_rfl) fun w' hs => ?_
        exact ⟨ret_bool (by clear hs; (try simp at *); simp [rBox, *]), hs.kept.kept⟩
      · refine g_run 9999 ([0]) 1 (by kernel_rfl) ?_
        refine g_dec 26 ((kn 4 n).sign != 1) (by kernel_rfl) (fun h26 => ?_) (fun h26 => ?_)
        · refine g_run 9999 ([0]) 3 (by kernel_rfl) ?_
          refine g_dec 31 ((kn 4 n).sign != 2) (by kernel_rfl) (fun h31 => ?_) (fun h31 => ?_)
          · refine g_run 9999 [] 19 (by kernel_rfl) ?_
            refine g_ret [] (Value.bool false) (by kernel_rfl) (by kernel_rfl) (by kernel_rfl) fun w' hs => ?_
            exact ⟨ret_bool (by clear hs; (try simp at *); simp [rBox, *]), hs.kept.kept⟩
          · refine g_run 9999 ([0]) 3 (by kernel_rfl) ?_
            refine g_dec 36 (decide ((kn 4 n).ord < 0)) (by kernel_rfl) (fun h36 => ?_) (fun h36 => ?_)
            · refine g_run 9999 [] 16 (by kernel_rfl) ?_
              refine g_ret [] (Value.bool false) (by kernel_rfl) (by kernel_rfl) (by kernel_rfl) fun w' hs => ?_
              exact ⟨ret_bool (by clear hs; (try simp at *); simp [rBox, *]), hs.kept.kept⟩
            · refine g_run 9999 ([0]) 3 (by kernel_rfl) ?_
              refine g_dec 41 (decide ((kn 4 n).ord > 3)) (by kernel_rfl) (fun h41 => ?_) (fun h41 => ?_)
              · refine g_run 9999 [] 13 (by kernel_rfl) ?_
                refine g_ret [] (Value.bool false) (by kernel_rfl) (by kernel_rfl) (by kernel_rfl) fun w' hs => ?_
                exact ⟨ret_bool (by clear hs; (try simp at *); simp [rBox, *]), hs.kept.kept⟩
              · refine g_run 9999 ([0]) 3 (by kernel_rfl) ?_
                refine g_dec 46 (decide ((kn 4 n).num < 1)) (by kernel_rfl) (fun h46 => ?_) (fun h46 => ?_)
                · refine g_run 9999 [] 10 (by kernel_rfl) ?_
                  refine g_ret [] (Value.bool false) (by kernel_rfl) (by kernel_rfl) (by kernel_rfl) fun w' hs => ?_
                  exact ⟨ret_bool (by clear hs; (try simp at *); simp [rBox, *]), hs.kept.kept⟩
                · refine g_run 9999 ([0]) 3 (by kernel_rfl) ?_
                  refine g_dec 51 (decide ((kn 4 n).num > 1152921504606846976)) (by kernel_rfl) (fun h51 => ?_) (fun h51 => ?_)
                  · refine g_run 9999 [] 7 (by kernel_rfl) ?_
                    refine g_ret [] (Value.bool false) (by kernel_rfl) (by kernel_rfl) (by kernel_rfl) fun w' hs => ?_
                    exact ⟨ret_bool (by clear hs; (try simp at *); simp [rBox, *]), hs.kept.kept⟩
                  · refine g_run 9999 ([0]) 3 (by kernel_rfl) ?_
                    refine g_dec 56 (decide ((kn 4 n).den < 1)) (by kernel_rfl) (fun h56 => ?_) (fun h56 => ?_)
                    · refine g_run 9999 [] 4 (by kernel_rfl) ?_
                      refine g_ret [] (Value.bool false) (by kernel_rfl) (by kernel_rfl) (by kernel_rfl) fun w' hs => ?_
                      exact ⟨ret_bool (by clear hs; (try simp at *); simp [rBox, *]), hs.kept.kept⟩
                    · refine g_run 9999 ([0]) 3 (by kernel_rfl) ?_
                      refine g_dec 60 (decide ((kn 4 n).den > 1152921504606846976)) (by kernel_rfl) (fun h60 => ?_) (fun h60 => ?_)
                      · refine g_run 9999 [] 1 (by kernel_rfl) ?_
                        refine g_ret [] (Value.bool false) (by kernel_rfl) (by kernel_rfl) (by kernel_rfl) fun w' hs => ?_
                        exact ⟨ret_bool (by clear hs; (try simp at *); simp [rBox, *]), hs.kept.kept⟩
                      · refine g_run 9999 ([0]) 1 (by kernel_rfl) ?_
                        refine g_dec 64 ((kn 4 n).sign == 2) (by kernel_rfl) (fun h64 => ?_) (fun h64 => ?_)
                        · refine g_run 9999 ([0]) 3 (by kernel_rfl) ?_
                          refine g_dec 69 ((kn 4 n).ord == 0) (by kernel_rfl) (fun h69 => ?_) (fun h69 => ?_)
                          · refine g_run 9999 ([0, 0]) 5 (by kernel_rfl) ?_
                            refine g_dec 75 (decide ((kn 4 n).num > (kn 4 n).den)) (by kernel_rfl) (fun h75 => ?_) (fun h75 => ?_)
                            · refine g_run 9999 [] 1 (by kernel_rfl) ?_
                              refine g_ret [] (Value.bool false) (by kernel_rfl) (by kernel_rfl) (by kernel_rfl) fun w' hs => ?_
                              exact ⟨ret_bool (by clear hs; (try simp at *); simp [rBox, *]), hs.kept.kept⟩
                            · refine g_run 9999 [] 1 (by kernel_rfl) ?_
                              refine g_draw 17 (by kernel_rfl) (by kernel_rfl) ?_
                              refine l_run 9999 (List.replicate 19 0) 0 (by kernel_rfl) ?_
                              refine l_callq _ _ _ ?_ (fun w hs => rbare_any (kn 4 n) w) ?_
                              · kernel_rfl
                              refine l_run 91 (List.replicate 6 0) 0 (by kernel_rfl) ?_
                              refine l_val _ _ ?_ (fun w _ => .inl (api_eql (bareN (kn 4 n)) ⟨4, 0, 0, 0, 0, 0, n.shift, 0, 0, 0, 0, 0, n.sign, n.ord, n.num, n.den, 0, 0, ⟨#[]⟩⟩ (.tmp 77) (.tmp 90) w)) ?_
                              · kernel_rfl
                              refine l_run 9999 [] 0 (by kernel_rfl) ?_
                              refine l_end (by kernel_rfl) ?_
                              refine g_ret [] (Value.bool (decide (bareN (kn 4 n) = Nod.mk 4 0 0 0 0 0 n.shift 0 0 0 0 0 n.sign n.ord n.num n.den 0 0 (ByteArray.mk #[])))) (by kernel_rfl) (by kernel_rfl) (by kernel_rfl) fun w' hs => ?_
                              exact ⟨ret_bool (by clear hs; (try simp at *); simp [rBox, *]), hs.kept.kept⟩
                          · refine g_run 9999 [] 6 (by kernel_rfl) ?_
                            refine g_draw 17 (by kernel_rfl) (by kernel_rfl) ?_
                            refine l_run 9999 (List.replicate 19 0) 0 (by kernel_rfl) ?_
                            refine l_callq _ _ _ ?_ (fun w hs => rbare_any (kn 4 n) w) ?_
                            · kernel_rfl
                            refine l_run 91 (List.replicate 6 0) 0 (by kernel_rfl) ?_
                            refine l_val _ _ ?_ (fun w _ => .inl (api_eql (bareN (kn 4 n)) ⟨4, 0, 0, 0, 0, 0, n.shift, 0, 0, 0, 0, 0, n.sign, n.ord, n.num, n.den, 0, 0, ⟨#[]⟩⟩ (.tmp 77) (.tmp 90) w)) ?_
                            · kernel_rfl
                            refine l_run 9999 [] 0 (by kernel_rfl) ?_
                            refine l_end (by kernel_rfl) ?_
                            refine g_ret [] (Value.bool (decide (bareN (kn 4 n) = Nod.mk 4 0 0 0 0 0 n.shift 0 0 0 0 0 n.sign n.ord n.num n.den 0 0 (ByteArray.mk #[])))) (by kernel_rfl) (by kernel_rfl) (by kernel_rfl) fun w' hs => ?_
                            exact ⟨ret_bool (by clear hs; (try simp at *); simp [rBox, *]), hs.kept.kept⟩
                        · refine g_run 9999 [] 9 (by kernel_rfl) ?_
                          refine g_draw 17 (by kernel_rfl) (by kernel_rfl) ?_
                          refine l_run 9999 (List.replicate 19 0) 0 (by kernel_rfl) ?_
                          refine l_callq _ _ _ ?_ (fun w hs => rbare_any (kn 4 n) w) ?_
                          · kernel_rfl
                          refine l_run 91 (List.replicate 6 0) 0 (by kernel_rfl) ?_
                          refine l_val _ _ ?_ (fun w _ => .inl (api_eql (bareN (kn 4 n)) ⟨4, 0, 0, 0, 0, 0, n.shift, 0, 0, 0, 0, 0, n.sign, n.ord, n.num, n.den, 0, 0, ⟨#[]⟩⟩ (.tmp 77) (.tmp 90) w)) ?_
                          · kernel_rfl
                          refine l_run 9999 [] 0 (by kernel_rfl) ?_
                          refine l_end (by kernel_rfl) ?_
                          refine g_ret [] (Value.bool (decide (bareN (kn 4 n) = Nod.mk 4 0 0 0 0 0 n.shift 0 0 0 0 0 n.sign n.ord n.num n.den 0 0 (ByteArray.mk #[])))) (by kernel_rfl) (by kernel_rfl) (by kernel_rfl) fun w' hs => ?_
                          exact ⟨ret_bool (by clear hs; (try simp at *); simp [rBox, *]; omega), hs.kept.kept⟩
        · refine g_run 9999 ([0]) 6 (by kernel_rfl) ?_
          refine g_dec 36 (decide ((kn 4 n).ord < 0)) (by kernel_rfl) (fun h36 => ?_) (fun h36 => ?_)
          · refine g_run 9999 [] 16 (by kernel_rfl) ?_
            refine g_ret [] (Value.bool false) (by kernel_rfl) (by kernel_rfl) (by kernel_rfl) fun w' hs => ?_
            exact ⟨ret_bool (by clear hs; (try simp at *); simp [rBox, *]), hs.kept.kept⟩
          · refine g_run 9999 ([0]) 3 (by kernel_rfl) ?_
            refine g_dec 41 (decide ((kn 4 n).ord > 3)) (by kernel_rfl) (fun h41 => ?_) (fun h41 => ?_)
            · refine g_run 9999 [] 13 (by kernel_rfl) ?_
              refine g_ret [] (Value.bool false) (by kernel_rfl) (by kernel_rfl) (by kernel_rfl) fun w' hs => ?_
              exact ⟨ret_bool (by clear hs; (try simp at *); simp [rBox, *]), hs.kept.kept⟩
            · refine g_run 9999 ([0]) 3 (by kernel_rfl) ?_
              refine g_dec 46 (decide ((kn 4 n).num < 1)) (by kernel_rfl) (fun h46 => ?_) (fun h46 => ?_)
              · refine g_run 9999 [] 10 (by kernel_rfl) ?_
                refine g_ret [] (Value.bool false) (by kernel_rfl) (by kernel_rfl) (by kernel_rfl) fun w' hs => ?_
                exact ⟨ret_bool (by clear hs; (try simp at *); simp [rBox, *]), hs.kept.kept⟩
              · refine g_run 9999 ([0]) 3 (by kernel_rfl) ?_
                refine g_dec 51 (decide ((kn 4 n).num > 1152921504606846976)) (by kernel_rfl) (fun h51 => ?_) (fun h51 => ?_)
                · refine g_run 9999 [] 7 (by kernel_rfl) ?_
                  refine g_ret [] (Value.bool false) (by kernel_rfl) (by kernel_rfl) (by kernel_rfl) fun w' hs => ?_
                  exact ⟨ret_bool (by clear hs; (try simp at *); simp [rBox, *]), hs.kept.kept⟩
                · refine g_run 9999 ([0]) 3 (by kernel_rfl) ?_
                  refine g_dec 56 (decide ((kn 4 n).den < 1)) (by kernel_rfl) (fun h56 => ?_) (fun h56 => ?_)
                  · refine g_run 9999 [] 4 (by kernel_rfl) ?_
                    refine g_ret [] (Value.bool false) (by kernel_rfl) (by kernel_rfl) (by kernel_rfl) fun w' hs => ?_
                    exact ⟨ret_bool (by clear hs; (try simp at *); simp [rBox, *]), hs.kept.kept⟩
                  · refine g_run 9999 ([0]) 3 (by kernel_rfl) ?_
                    refine g_dec 60 (decide ((kn 4 n).den > 1152921504606846976)) (by kernel_rfl) (fun h60 => ?_) (fun h60 => ?_)
                    · refine g_run 9999 [] 1 (by kernel_rfl) ?_
                      refine g_ret [] (Value.bool false) (by kernel_rfl) (by kernel_rfl) (by kernel_rfl) fun w' hs => ?_
                      exact ⟨ret_bool (by clear hs; (try simp at *); simp [rBox, *]), hs.kept.kept⟩
                    · refine g_run 9999 ([0]) 1 (by kernel_rfl) ?_
                      refine g_dec 64 ((kn 4 n).sign == 2) (by kernel_rfl) (fun h64 => ?_) (fun h64 => ?_)
                      · refine g_run 9999 ([0]) 3 (by kernel_rfl) ?_
                        refine g_dec 69 ((kn 4 n).ord == 0) (by kernel_rfl) (fun h69 => ?_) (fun h69 => ?_)
                        · refine g_run 9999 ([0, 0]) 5 (by kernel_rfl) ?_
                          refine g_dec 75 (decide ((kn 4 n).num > (kn 4 n).den)) (by kernel_rfl) (fun h75 => ?_) (fun h75 => ?_)
                          · refine g_run 9999 [] 1 (by kernel_rfl) ?_
                            refine g_ret [] (Value.bool false) (by kernel_rfl) (by kernel_rfl) (by kernel_rfl) fun w' hs => ?_
                            exact ⟨ret_bool (by clear hs; (try simp at *); simp [rBox, *]; omega), hs.kept.kept⟩
                          · refine g_run 9999 [] 1 (by kernel_rfl) ?_
                            refine g_draw 17 (by kernel_rfl) (by kernel_rfl) ?_
                            refine l_run 9999 (List.replicate 19 0) 0 (by kernel_rfl) ?_
                            refine l_callq _ _ _ ?_ (fun w hs => rbare_any (kn 4 n) w) ?_
                            · kernel_rfl
                            refine l_run 91 (List.replicate 6 0) 0 (by kernel_rfl) ?_
                            refine l_val _ _ ?_ (fun w _ => .inl (api_eql (bareN (kn 4 n)) ⟨4, 0, 0, 0, 0, 0, n.shift, 0, 0, 0, 0, 0, n.sign, n.ord, n.num, n.den, 0, 0, ⟨#[]⟩⟩ (.tmp 77) (.tmp 90) w)) ?_
                            · kernel_rfl
                            refine l_run 9999 [] 0 (by kernel_rfl) ?_
                            refine l_end (by kernel_rfl) ?_
                            refine g_ret [] (Value.bool (decide (bareN (kn 4 n) = Nod.mk 4 0 0 0 0 0 n.shift 0 0 0 0 0 n.sign n.ord n.num n.den 0 0 (ByteArray.mk #[])))) (by kernel_rfl) (by kernel_rfl) (by kernel_rfl) fun w' hs => ?_
                            exact ⟨ret_bool (by clear hs; (try simp at *); simp [rBox, *]), hs.kept.kept⟩
                        · refine g_run 9999 [] 6 (by kernel_rfl) ?_
                          refine g_draw 17 (by kernel_rfl) (by kernel_rfl) ?_
                          refine l_run 9999 (List.replicate 19 0) 0 (by kernel_rfl) ?_
                          refine l_callq _ _ _ ?_ (fun w hs => rbare_any (kn 4 n) w) ?_
                          · kernel_rfl
                          refine l_run 91 (List.replicate 6 0) 0 (by kernel_rfl) ?_
                          refine l_val _ _ ?_ (fun w _ => .inl (api_eql (bareN (kn 4 n)) ⟨4, 0, 0, 0, 0, 0, n.shift, 0, 0, 0, 0, 0, n.sign, n.ord, n.num, n.den, 0, 0, ⟨#[]⟩⟩ (.tmp 77) (.tmp 90) w)) ?_
                          · kernel_rfl
                          refine l_run 9999 [] 0 (by kernel_rfl) ?_
                          refine l_end (by kernel_rfl) ?_
                          refine g_ret [] (Value.bool (decide (bareN (kn 4 n) = Nod.mk 4 0 0 0 0 0 n.shift 0 0 0 0 0 n.sign n.ord n.num n.den 0 0 (ByteArray.mk #[])))) (by kernel_rfl) (by kernel_rfl) (by kernel_rfl) fun w' hs => ?_
                          exact ⟨ret_bool (by clear hs; (try simp at *); simp [rBox, *]), hs.kept.kept⟩
                      · refine g_run 9999 [] 9 (by kernel_rfl) ?_
                        refine g_draw 17 (by kernel_rfl) (by kernel_rfl) ?_
                        refine l_run 9999 (List.replicate 19 0) 0 (by kernel_rfl) ?_
                        refine l_callq _ _ _ ?_ (fun w hs => rbare_any (kn 4 n) w) ?_
                        · kernel_rfl
                        refine l_run 91 (List.replicate 6 0) 0 (by kernel_rfl) ?_
                        refine l_val _ _ ?_ (fun w _ => .inl (api_eql (bareN (kn 4 n)) ⟨4, 0, 0, 0, 0, 0, n.shift, 0, 0, 0, 0, 0, n.sign, n.ord, n.num, n.den, 0, 0, ⟨#[]⟩⟩ (.tmp 77) (.tmp 90) w)) ?_
                        · kernel_rfl
                        refine l_run 9999 [] 0 (by kernel_rfl) ?_
                        refine l_end (by kernel_rfl) ?_
                        refine g_ret [] (Value.bool (decide (bareN (kn 4 n) = Nod.mk 4 0 0 0 0 0 n.shift 0 0 0 0 0 n.sign n.ord n.num n.den 0 0 (ByteArray.mk #[])))) (by kernel_rfl) (by kernel_rfl) (by kernel_rfl) fun w' hs => ?_
                        exact ⟨ret_bool (by clear hs; (try simp at *); simp [rBox, *]), hs.kept.kept⟩
set_option maxRecDepth 100000 in
set_option maxHeartbeats 4000000 in
theorem rbox5 (n : Nod) (w : World) :
    Calls Try.prog 80 #[nodV (kn 5 n)] w fun e w' => e = .returned (.bool (rBox 5 n)) ∧ Kept w w' := by
  refine g_enter (args := [nodV (kn 5 n)]) [] [] Try.func80 rfl Try.ntmps80 (Nat.le_of_ble_eq_true (by kernel_rfl)) (sat0 w) ?_
  refine g_run 9999 [] 0 (by kernel_rfl) ?_
  refine g_new (fun b => by kernel_rfl) fun b0 hb0 => ?_
  refine g_run 9999 (List.replicate 19 0) 0 (by kernel_rfl) ?_
  refine g_callq _ _ _ ?_ (fun w hs => rthree_any (kn 5 n) w) ?_
  · kernel_rfl
  refine g_run 9999 [] 0 (by kernel_rfl) ?_
  refine g_dec 6 (!d3B (kn 5 n).w (kn 5 n).h (kn 5 n).d) (by kernel_rfl) (fun h6 => ?_) (fun h6 => ?_)
  · refine g_run 9999 [] 5 (by kernel_rfl) ?_
    refine g_ret [] (Value.bool false) (by kernel_rfl) (by kernel_rfl) (by kernel_rfl) fun w' hs => ?_
    exact ⟨ret_bool (by clear hs; (try simp at *); simp [rBox, *]), hs.kept.kept⟩
  · refine g_run 9999 ([0]) 2 (by kernel_rfl) ?_
    refine g_callq _ _ _ ?_ (fun w hs => rdimen5_any n.shift w) ?_
    · kernel_rfl
    refine g_run 9999 [] 1 (by kernel_rfl) ?_
    refine g_dec 11 (!dimB n.shift) (by kernel_rfl) (fun h11 => ?_) (fun h11 => ?_)
    · refine g_run 9999 [] 1 (by kernel_rfl) ?_
      refine g_ret [] (Value.bool false) (by kernel_rfl) (by kernel_rfl) (by kernel_rfl) fun w' hs => ?_
      exact ⟨ret_bool (by clear hs; (try simp at *); simp [rBox, *]), hs.kept.kept⟩
    · refine g_run 9999 ([0]) 1 (by kernel_rfl) ?_
      refine g_dec 14 ((kn 5 n).sign == 0) (by kernel_rfl) (fun h14 => ?_) (fun h14 => ?_)
      · refine g_run 9999 [] 1 (by kernel_rfl) ?_
        refine g_draw 9 (by kernel_rfl) (by kernel_rfl) ?_
        refine l_run 9999 (List.replicate 19 0) 0 (by kernel_rfl) ?_
        refine l_callq _ _ _ ?_ (fun w hs => rbare_any (kn 5 n) w) ?_
        · kernel_rfl
        refine l_run 22 ([0, 0]) 0 (by kernel_rfl) ?_
        refine l_val _ _ ?_ (fun w _ => .inl (api_eql (bareN (kn 5 n)) ⟨5, 0, 0, 0, 0, 0, n.shift, 0, 0, 0, 0, 0, 0, 0, 0, 0, 0, 0, ⟨#[]⟩⟩ (.tmp 16) (.tmp 21) w)) ?_
        · kernel_rfl
        refine l_run 9999 [] 0 (by kernel_rfl) ?_
        refine l_end (by kernel_rfl) ?_
        refine g_ret [] (Value.bool (decide (bareN (kn 5 n) = Nod.mk 5 0 0 0 0 0 n.shift 0 0 0 0 0 0 0 0 0 0 0 (ByteArray.mk #[])))) (by kernel_rfl) (by kernel_rfl) (by kernel_rfl) fun w' hs => ?_
        exact ⟨ret_bool (by clear hs; (try simp at *); simp [rBox, *]), hs.kept.kept⟩
      · refine g_run 9999 ([0]) 1 (by kernel_rfl) ?_
        refine g_dec 26 ((kn 5 n).sign != 1) (by kernel_rfl) (fun h26 => ?_) (fun h26 => ?_)
        · refine g_run 9999 ([0]) 3 (by kernel_rfl) ?_
          refine g_dec 31 ((kn 5 n).sign != 2) (by kernel_rfl) (fun h31 => ?_) (fun h31 => ?_)
          · refine g_run 9999 [] 19 (by kernel_rfl) ?_
            refine g_ret [] (Value.bool false) (by kernel_rfl) (by kernel_rfl) (by kernel_rfl) fun w' hs => ?_
            exact ⟨ret_bool (by clear hs; (try simp at *); simp [rBox, *]), hs.kept.kept⟩
          · refine g_run 9999 ([0]) 3 (by kernel_rfl) ?_
            refine g_dec 36 (decide ((kn 5 n).ord < 0)) (by kernel_rfl) (fun h36 => ?_) (fun h36 => ?_)
            · refine g_run 9999 [] 16 (by kernel_rfl) ?_
              refine g_ret [] (Value.bool false) (by kernel_rfl) (by kernel_rfl) (by kernel_rfl) fun w' hs => ?_
              exact ⟨ret_bool (by clear hs; (try simp at *); simp [rBox, *]), hs.kept.kept⟩
            · refine g_run 9999 ([0]) 3 (by kernel_rfl) ?_
              refine g_dec 41 (decide ((kn 5 n).ord > 3)) (by kernel_rfl) (fun h41 => ?_) (fun h41 => ?_)
              · refine g_run 9999 [] 13 (by kernel_rfl) ?_
                refine g_ret [] (Value.bool false) (by kernel_rfl) (by kernel_rfl) (by kernel_rfl) fun w' hs => ?_
                exact ⟨ret_bool (by clear hs; (try simp at *); simp [rBox, *]), hs.kept.kept⟩
              · refine g_run 9999 ([0]) 3 (by kernel_rfl) ?_
                refine g_dec 46 (decide ((kn 5 n).num < 1)) (by kernel_rfl) (fun h46 => ?_) (fun h46 => ?_)
                · refine g_run 9999 [] 10 (by kernel_rfl) ?_
                  refine g_ret [] (Value.bool false) (by kernel_rfl) (by kernel_rfl) (by kernel_rfl) fun w' hs => ?_
                  exact ⟨ret_bool (by clear hs; (try simp at *); simp [rBox, *]), hs.kept.kept⟩
                · refine g_run 9999 ([0]) 3 (by kernel_rfl) ?_
                  refine g_dec 51 (decide ((kn 5 n).num > 1152921504606846976)) (by kernel_rfl) (fun h51 => ?_) (fun h51 => ?_)
                  · refine g_run 9999 [] 7 (by kernel_rfl) ?_
                    refine g_ret [] (Value.bool false) (by kernel_rfl) (by kernel_rfl) (by kernel_rfl) fun w' hs => ?_
                    exact ⟨ret_bool (by clear hs; (try simp at *); simp [rBox, *]), hs.kept.kept⟩
                  · refine g_run 9999 ([0]) 3 (by kernel_rfl) ?_
                    refine g_dec 56 (decide ((kn 5 n).den < 1)) (by kernel_rfl) (fun h56 => ?_) (fun h56 => ?_)
                    · refine g_run 9999 [] 4 (by kernel_rfl) ?_
                      refine g_ret [] (Value.bool false) (by kernel_rfl) (by kernel_rfl) (by kernel_rfl) fun w' hs => ?_
                      exact ⟨ret_bool (by clear hs; (try simp at *); simp [rBox, *]), hs.kept.kept⟩
                    · refine g_run 9999 ([0]) 3 (by kernel_rfl) ?_
                      refine g_dec 60 (decide ((kn 5 n).den > 1152921504606846976)) (by kernel_rfl) (fun h60 => ?_) (fun h60 => ?_)
                      · refine g_run 9999 [] 1 (by kernel_rfl) ?_
                        refine g_ret [] (Value.bool false) (by kernel_rfl) (by kernel_rfl) (by kernel_rfl) fun w' hs => ?_
                        exact ⟨ret_bool (by clear hs; (try simp at *); simp [rBox, *]), hs.kept.kept⟩
                      · refine g_run 9999 ([0]) 1 (by kernel_rfl) ?_
                        refine g_dec 64 ((kn 5 n).sign == 2) (by kernel_rfl) (fun h64 => ?_) (fun h64 => ?_)
                        · refine g_run 9999 ([0]) 3 (by kernel_rfl) ?_
                          refine g_dec 69 ((kn 5 n).ord == 0) (by kernel_rfl) (fun h69 => ?_) (fun h69 => ?_)
                          · refine g_run 9999 ([0, 0]) 5 (by kernel_rfl) ?_
                            refine g_dec 75 (decide ((kn 5 n).num > (kn 5 n).den)) (by kernel_rfl) (fun h75 => ?_) (fun h75 => ?_)
                            · refine g_run 9999 [] 1 (by kernel_rfl) ?_
                              refine g_ret [] (Value.bool false) (by kernel_rfl) (by kernel_rfl) (by kernel_rfl) fun w' hs => ?_
                              exact ⟨ret_bool (by clear hs; (try simp at *); simp [rBox, *]), hs.kept.kept⟩
                            · refine g_run 9999 [] 1 (by kernel_rfl) ?_
                              refine g_draw 17 (by kernel_rfl) (by kernel_rfl) ?_
                              refine l_run 9999 (List.replicate 19 0) 0 (by kernel_rfl) ?_
                              refine l_callq _ _ _ ?_ (fun w hs => rbare_any (kn 5 n) w) ?_
                              · kernel_rfl
                              refine l_run 91 (List.replicate 6 0) 0 (by kernel_rfl) ?_
                              refine l_val _ _ ?_ (fun w _ => .inl (api_eql (bareN (kn 5 n)) ⟨5, 0, 0, 0, 0, 0, n.shift, 0, 0, 0, 0, 0, n.sign, n.ord, n.num, n.den, 0, 0, ⟨#[]⟩⟩ (.tmp 77) (.tmp 90) w)) ?_
                              · kernel_rfl
                              refine l_run 9999 [] 0 (by kernel_rfl) ?_
                              refine l_end (by kernel_rfl) ?_
                              refine g_ret [] (Value.bool (decide (bareN (kn 5 n) = Nod.mk 5 0 0 0 0 0 n.shift 0 0 0 0 0 n.sign n.ord n.num n.den 0 0 (ByteArray.mk #[])))) (by kernel_rfl) (by kernel_rfl) (by kernel_rfl) fun w' hs => ?_
                              exact ⟨ret_bool (by clear hs; (try simp at *); simp [rBox, *]), hs.kept.kept⟩
                          · refine g_run 9999 [] 6 (by kernel_rfl) ?_
                            refine g_draw 17 (by kernel_rfl) (by kernel_rfl) ?_
                            refine l_run 9999 (List.replicate 19 0) 0 (by kernel_rfl) ?_
                            refine l_callq _ _ _ ?_ (fun w hs => rbare_any (kn 5 n) w) ?_
                            · kernel_rfl
                            refine l_run 91 (List.replicate 6 0) 0 (by kernel_rfl) ?_
                            refine l_val _ _ ?_ (fun w _ => .inl (api_eql (bareN (kn 5 n)) ⟨5, 0, 0, 0, 0, 0, n.shift, 0, 0, 0, 0, 0, n.sign, n.ord, n.num, n.den, 0, 0, ⟨#[]⟩⟩ (.tmp 77) (.tmp 90) w)) ?_
                            · kernel_rfl
                            refine l_run 9999 [] 0 (by kernel_rfl) ?_
                            refine l_end (by kernel_rfl) ?_
                            refine g_ret [] (Value.bool (decide (bareN (kn 5 n) = Nod.mk 5 0 0 0 0 0 n.shift 0 0 0 0 0 n.sign n.ord n.num n.den 0 0 (ByteArray.mk #[])))) (by kernel_rfl) (by kernel_rfl) (by kernel_rfl) fun w' hs => ?_
                            exact ⟨ret_bool (by clear hs; (try simp at *); simp [rBox, *]), hs.kept.kept⟩
                        · refine g_run 9999 [] 9 (by kernel_rfl) ?_
                          refine g_draw 17 (by kernel_rfl) (by kernel_rfl) ?_
                          refine l_run 9999 (List.replicate 19 0) 0 (by kernel_rfl) ?_
                          refine l_callq _ _ _ ?_ (fun w hs => rbare_any (kn 5 n) w) ?_
                          · kernel_rfl
                          refine l_run 91 (List.replicate 6 0) 0 (by kernel_rfl) ?_
                          refine l_val _ _ ?_ (fun w _ => .inl (api_eql (bareN (kn 5 n)) ⟨5, 0, 0, 0, 0, 0, n.shift, 0, 0, 0, 0, 0, n.sign, n.ord, n.num, n.den, 0, 0, ⟨#[]⟩⟩ (.tmp 77) (.tmp 90) w)) ?_
                          · kernel_rfl
                          refine l_run 9999 [] 0 (by kernel_rfl) ?_
                          refine l_end (by kernel_rfl) ?_
                          refine g_ret [] (Value.bool (decide (bareN (kn 5 n) = Nod.mk 5 0 0 0 0 0 n.shift 0 0 0 0 0 n.sign n.ord n.num n.den 0 0 (ByteArray.mk #[])))) (by kernel_rfl) (by kernel_rfl) (by kernel_rfl) fun w' hs => ?_
                          exact ⟨ret_bool (by clear hs; (try simp at *); simp [rBox, *]; omega), hs.kept.kept⟩
        · refine g_run 9999 ([0]) 6 (by kernel_rfl) ?_
          refine g_dec 36 (decide ((kn 5 n).ord < 0)) (by kernel_rfl) (fun h36 => ?_) (fun h36 => ?_)
          · refine g_run 9999 [] 16 (by kernel_rfl) ?_
            refine g_ret [] (Value.bool false) (by kernel_rfl) (by kernel_rfl) (by kernel_rfl) fun w' hs => ?_
            exact ⟨ret_bool (by clear hs; (try simp at *); simp [rBox, *]), hs.kept.kept⟩
          · refine g_run 9999 ([0]) 3 (by kernel_rfl) ?_
            refine g_dec 41 (decide ((kn 5 n).ord > 3)) (by kernel_rfl) (fun h41 => ?_) (fun h41 => ?_)
            · refine g_run 9999 [] 13 (by kernel_rfl) ?_
              refine g_ret [] (Value.bool false) (by kernel_rfl) (by kernel_rfl) (by kernel_rfl) fun w' hs => ?_
              exact ⟨ret_bool (by clear hs; (try simp at *); simp [rBox, *]), hs.kept.kept⟩
            · refine g_run 9999 ([0]) 3 (by kernel_rfl) ?_
              refine g_dec 46 (decide ((kn 5 n).num < 1)) (by kernel_rfl) (fun h46 => ?_) (fun h46 => ?_)
              · refine g_run 9999 [] 10 (by kernel_rfl) ?_
                refine g_ret [] (Value.bool false) (by kernel_rfl) (by kernel_rfl) (by kernel_rfl) fun w' hs => ?_
                exact ⟨ret_bool (by clear hs; (try simp at *); simp [rBox, *]), hs.kept.kept⟩
              · refine g_run 9999 ([0]) 3 (by kernel_rfl) ?_
                refine g_dec 51 (decide ((kn 5 n).num > 1152921504606846976)) (by kernel_rfl) (fun h51 => ?_) (fun h51 => ?_)
                · refine g_run 9999 [] 7 (by kernel_rfl) ?_
                  refine g_ret [] (Value.bool false) (by kernel_rfl) (by kernel_rfl) (by kernel_rfl) fun w' hs => ?_
                  exact ⟨ret_bool (by clear hs; (try simp at *); simp [rBox, *]), hs.kept.kept⟩
                · refine g_run 9999 ([0]) 3 (by kernel_rfl) ?_
                  refine g_dec 56 (decide ((kn 5 n).den < 1)) (by kernel_rfl) (fun h56 => ?_) (fun h56 => ?_)
                  · refine g_run 9999 [] 4 (by kernel_rfl) ?_
                    refine g_ret [] (Value.bool false) (by kernel_rfl) (by kernel_rfl) (by kernel_rfl) fun w' hs => ?_
                    exact ⟨ret_bool (by clear hs; (try simp at *); simp [rBox, *]), hs.kept.kept⟩
                  · refine g_run 9999 ([0]) 3 (by kernel_rfl) ?_
                    refine g_dec 60 (decide ((kn 5 n).den > 1152921504606846976)) (by kernel_rfl) (fun h60 => ?_) (fun h60 => ?_)
                    · refine g_run 9999 [] 1 (by kernel_rfl) ?_
                      refine g_ret [] (Value.bool false) (by kernel_rfl) (by kernel_rfl) (by kernel_rfl) fun w' hs => ?_
                      exact ⟨ret_bool (by clear hs; (try simp at *); simp [rBox, *]), hs.kept.kept⟩
                    · refine g_run 9999 ([0]) 1 (by kernel_rfl) ?_
                      refine g_dec 64 ((kn 5 n).sign == 2) (by kernel_rfl) (fun h64 => ?_) (fun h64 => ?_)
                      · refine g_run 9999 ([0]) 3 (by kernel_rfl) ?_
                        refine g_dec 69 ((kn 5 n).ord == 0) (by kernel_rfl) (fun h69 => ?_) (fun h69 => ?_)
                        · refine g_run 9999 ([0, 0]) 5 (by kernel_rfl) ?_
                          refine g_dec 75 (decide ((kn 5 n).num > (kn 5 n).den)) (by kernel_rfl) (fun h75 => ?_) (fun h75 => ?_)
                          · refine g_run 9999 [] 1 (by kernel_rfl) ?_
                            refine g_ret [] (Value.bool false) (by kernel_rfl) (by kernel_rfl) (by kernel_rfl) fun w' hs => ?_
                            exact ⟨ret_bool (by clear hs; (try simp at *); simp [rBox, *]; omega), hs.kept.kept⟩
                          · refine g_run 9999 [] 1 (by kernel_rfl) ?_
                            refine g_draw 17 (by kernel_rfl) (by kernel_rfl) ?_
                            refine l_run 9999 (List.replicate 19 0) 0 (by kernel_rfl) ?_
                            refine l_callq _ _ _ ?_ (fun w hs => rbare_any (kn 5 n) w) ?_
                            · kernel_rfl
                            refine l_run 91 (List.replicate 6 0) 0 (by kernel_rfl) ?_
                            refine l_val _ _ ?_ (fun w _ => .inl (api_eql (bareN (kn 5 n)) ⟨5, 0, 0, 0, 0, 0, n.shift, 0, 0, 0, 0, 0, n.sign, n.ord, n.num, n.den, 0, 0, ⟨#[]⟩⟩ (.tmp 77) (.tmp 90) w)) ?_
                            · kernel_rfl
                            refine l_run 9999 [] 0 (by kernel_rfl) ?_
                            refine l_end (by kernel_rfl) ?_
                            refine g_ret [] (Value.bool (decide (bareN (kn 5 n) = Nod.mk 5 0 0 0 0 0 n.shift 0 0 0 0 0 n.sign n.ord n.num n.den 0 0 (ByteArray.mk #[])))) (by kernel_rfl) (by kernel_rfl) (by kernel_rfl) fun w' hs => ?_
                            exact ⟨ret_bool (by clear hs; (try simp at *); simp [rBox, *]), hs.kept.kept⟩
                        · refine g_run 9999 [] 6 (by kernel_rfl) ?_
                          refine g_draw 17 (by kernel_rfl) (by kernel_rfl) ?_
                          refine l_run 9999 (List.replicate 19 0) 0 (by kernel_rfl) ?_
                          refine l_callq _ _ _ ?_ (fun w hs => rbare_any (kn 5 n) w) ?_
                          · kernel_rfl
                          refine l_run 91 (List.replicate 6 0) 0 (by kernel_rfl) ?_
                          refine l_val _ _ ?_ (fun w _ => .inl (api_eql (bareN (kn 5 n)) ⟨5, 0, 0, 0, 0, 0, n.shift, 0, 0, 0, 0, 0, n.sign, n.ord, n.num, n.den, 0, 0, ⟨#[]⟩⟩ (.tmp 77) (.tmp 90) w)) ?_
                          · kernel_rfl
                          refine l_run 9999 [] 0 (by kernel_rfl) ?_
                          refine l_end (by kernel_rfl) ?_
                          refine g_ret [] (Value.bool (decide (bareN (kn 5 n) = Nod.mk 5 0 0 0 0 0 n.shift 0 0 0 0 0 n.sign n.ord n.num n.den 0 0 (ByteArray.mk #[])))) (by kernel_rfl) (by kernel_rfl) (by kernel_rfl) fun w' hs => ?_
                          exact ⟨ret_bool (by clear hs; (try simp at *); simp [rBox, *]), hs.kept.kept⟩
                      · refine g_run 9999 [] 9 (by kernel_rfl) ?_
                        refine g_draw 17 (by kernel_rfl) (by kernel_rfl) ?_
                        refine l_run 9999 (List.replicate 19 0) 0 (by kernel_rfl) ?_
                        refine l_callq _ _ _ ?_ (fun w hs => rbare_any (kn 5 n) w) ?_
                        · kernel_rfl
                        refine l_run 91 (List.replicate 6 0) 0 (by kernel_rfl) ?_
                        refine l_val _ _ ?_ (fun w _ => .inl (api_eql (bareN (kn 5 n)) ⟨5, 0, 0, 0, 0, 0, n.shift, 0, 0, 0, 0, 0, n.sign, n.ord, n.num, n.den, 0, 0, ⟨#[]⟩⟩ (.tmp 77) (.tmp 90) w)) ?_
                        · kernel_rfl
                        refine l_run 9999 [] 0 (by kernel_rfl) ?_
                        refine l_end (by kernel_rfl) ?_
                        refine g_ret [] (Value.bool (decide (bareN (kn 5 n) = Nod.mk 5 0 0 0 0 0 n.shift 0 0 0 0 0 n.sign n.ord n.num n.den 0 0 (ByteArray.mk #[])))) (by kernel_rfl) (by kernel_rfl) (by kernel_rfl) fun w' hs => ?_
                        exact ⟨ret_bool (by clear hs; (try simp at *); simp [rBox, *]), hs.kept.kept⟩
end Go.Proofs.Ytcncfmjfgdbfeab
