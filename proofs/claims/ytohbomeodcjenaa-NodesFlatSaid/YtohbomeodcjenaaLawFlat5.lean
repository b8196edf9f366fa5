/- NodesFlat's walk. -/
import Derived.Test.YtohbomeodcjenaaM47
import Derived.Test.YtohbomeodcjenaaNodRk
namespace Go.Proofs.Ytohbomeodcjenaa
open Go.RowKit

/-- where the loop stands -/
structure FX (l : List Nod) (W : Wk) where
  at_ : Nat
  cnt : Nat
  e : Nat
  y : List Nod
  z : List Nod
  ch : Ch W.beh at_ l.length
  cn : cnt + (itemsF W.beh l.length l.length at_).length = countN l W
  he : e = W.beh.getD at_ 0
  hy : y = seg l at_ e
  hz : z = seg l (at_ + 1) (e - 1)
structure RoundF (l : List Nod) (W : Wk) (x : FX l W) : Prop where
  lt : x.at_ < x.e
  le : x.e ≤ l.length
  ne : x.e ≠ 0
  len : x.y.length = x.e - x.at_
  chk : checkB x.y = 0
theorem end_is {n : Nod} (h : rightB n = true) (h6 : n.kind = 6) : n = endN := by
  obtain ⟨kind, font, char, wd, ht, dp, shift, nat, str, shr, so, sho, sign, ord, num, den, pen, sub, text⟩ := n
  simp only at h6
  subst h6
  have h' : bareB ⟨6, font, char, wd, ht, dp, shift, nat, str, shr, so, sho, sign, ord, num, den, pen, sub, text⟩ = true := h
  unfold bareB onlyB at h'
  have := of_decide_eq_true h'
  rw [this]
  rfl
theorem FX.round {l : List Nod} {W : Wk} (hG : Good l W) (x : FX l W) (hx : x.at_ < l.length) : RoundF l W x := by
  have hi := x.ch.inv
  rcases hi with h | ⟨_, h1, h2⟩
  · omega
  · have he := x.he
    have hle := h2.le
    rw [← he] at h1 hle
    refine ⟨h1, hle, by omega, by rw [x.hy, seg_len hle], ?_⟩
    obtain ⟨V, hV⟩ := hG.piece (p := x.at_) (by omega)
    rw [x.hy, he]
    exact hV.check
structure InF (l : List Nod) (W : Wk) (x : FX l W) : Prop where
  hr : rightB (nth l x.at_) = true
  hen : enters (nth l x.at_).kind = true
  chk : checkB x.z = 0
  len : x.z.length ≤ 2000
  wrap : wrapN (nth l x.at_) x.z = x.y
theorem FX.inner {l : List Nod} {W : Wk} (hG : Good l W) (x : FX l W) (hx : x.at_ < l.length) (hb : x.at_ + 1 < x.e) (h10 : (nth l x.at_).kind ≠ 10) : InF l W x := by
  have hF := x.round hG hx
  have he := x.he
  have h1 := hF.le
  have hI := hG.items x.at_ (by omega)
  rw [← he] at hI
  rcases hI.ins with ⟨q, _⟩ | ⟨_, h2, h3, h4, _⟩
  · omega
  · obtain ⟨V, hV⟩ := hG.inside (p := x.at_) (by omega) (by omega) h10
    rw [← he, ← x.hz] at hV
    refine ⟨hI.right, h2, hV.check, hV.le, ?_⟩
    rw [x.hy, x.hz, seg_cons (show x.at_ < x.e by omega) hx, wrapN, show x.e = x.e - 1 + 1 by omega, seg_snoc (by omega) (by omega), show x.e - 1 + 1 - 1 = x.e - 1 by omega, end_is h4 h3]
def FX.next {l : List Nod} {W : Wk} (hG : Good l W) (x : FX l W) (hx : x.at_ < l.length) : FX l W :=
  ⟨x.e, x.cnt + 1, W.beh.getD x.e 0, _, _, by
    rcases x.ch.inv with h | ⟨_, h1, h2⟩
    · omega
    · rw [x.he]; exact h2, by
    have h3 := x.cn
    have hF := x.round hG hx
    rcases x.ch.inv with h | ⟨_, h1, h2⟩
    · omega
    · rw [← x.he] at h2
      obtain ⟨n, hn⟩ : ∃ n, l.length = n + 1 := ⟨l.length - 1, by omega⟩
      have hlt := hF.lt
      have h4 : itemsF W.beh l.length l.length x.at_ = x.at_ :: itemsF W.beh l.length n x.e := by
        conv => lhs; rw [show itemsF W.beh l.length l.length x.at_ = itemsF W.beh l.length (n + 1) x.at_ by rw [← hn]]
        rw [itemsF, if_pos hx, x.he]
      rw [h4, List.length_cons, h2.fuel n l.length (by omega) (by omega)] at h3
      omega, rfl, rfl, rfl⟩
theorem FX.end_ {l : List Nod} {W : Wk} (x : FX l W) (hx : ¬ x.at_ < l.length) : x.cnt = countN l W := by
  have h := x.cn
  have : itemsF W.beh l.length l.length x.at_ = [] := by
    cases hl : l.length with
    | zero => rfl
    | succ n => rw [itemsF, if_neg (by omega)]
  rw [this] at h
  simpa using h
theorem newL_lst {w0 w : World} {z : List Nod} (q : NewL w0 z) (h : Sat w [] [.row q.b 0 19 z.length (rowOf z)] w) : ∃ b o, Lst w q.A z q.c b o := by
  refine lst_of w q.A z q.c q.nil fun a ha hn => ?_
  have hq := q.ax.resolve_left (by omega)
  rw [hq] at ha
  obtain rfl := Option.some.inj ha
  obtain ⟨h1, h2⟩ := h.holds _ (List.mem_singleton.2 rfl) hn
  exact ⟨rfl, h1, fun k hk j v hv => h2 k hk j v hv⟩
theorem piece_run {l y : List Nod} {bl ol cl s e : Nat} (hcl : l.length ≤ cl) (hse : s < e) (he : e ≤ l.length) (hy : y.length = e - s) (w : World) :
    (sliceSem 59 (.slice (some ⟨bl, ol, none⟩) l.length cl) (some (.int .i64 (s : Int))) (some (.int .i64 (e : Int))) none).run Try.prog w = .ok (.value (.slice (some ⟨bl, ol + s * 19, none⟩) y.length (cl - s))) w := by
  have h := seg_run (P := Try.prog) (T := 59) (E := 63) (b := bl) (o := ol) (n := l.length) (c := cl) (s := s) (e := e) (sz := 19) (kk := .i64) (kl := .i64) w (by kernel_rfl) (by kernel_rfl) (by omega) (by omega)
  rw [h, hy]
  unfold tailA
  rw [if_neg (by omega)]
theorem kindLoad {l : List Nod} {bl ol k j : Nat} {w0 w : World} {bs : List Nat} {hp : List HE} (hw : Sat w0 bs hp w) (hj : hp[j]? = some (.row bl ol 19 l.length (rowOf l))) (hk : k < l.length) :
    (loadSem 3 (.pointer (some ⟨bl, ol + k * 19, none⟩))).run Try.prog w = .ok (.value (.int .i64 (nth l k).kind)) w :=
  Sat.rowload1 (T := 3) (i := j) (b := bl) (off := ol) (sz := 19) (n := l.length) (f := rowOf l) (j := 0) hw hj hk (by kernel_rfl) rfl
theorem seg_row {l y : List Nod} {bl ol a b : Nat} {w : World} (h : Sat w [] [.row bl ol 19 l.length (rowOf l)] w) (hb : b ≤ l.length) (hy : y = seg l a b) : Sat w [] [.row bl (ol + a * 19) 19 y.length (rowOf y)] w := by
  rw [hy]; exact h.rowSeg hb
set_option maxRecDepth 100000 in
set_option maxHeartbeats 4000000 in
theorem flat_bad (A : Option Addr) (l : List Nod) (c bl ol : Nat) (w : World) (hA : Lst w A l c bl ol) (v : Int) (hv : checkB l = v) (h0 : v ≠ 0) (hr : ∀ w', Kept w w' → Calls Try.prog 46 #[.slice A l.length c] w' fun e w2 => e = .returned (.int .i64 v) ∧ Kept w' w2) :
    Calls Try.prog 11 #[.slice A l.length c] w fun e w' => e = .returned (.bool true) ∧ Kept w w' := by
  refine g_enter (args := [.slice A l.length c]) [] [] Try.func11 rfl Try.ntmps11 (Nat.le_of_ble_eq_true (by kernel_rfl)) (sat0 w) ?_
  refine g_run 9999 [] 0 (by kernel_rfl) ?_
  refine g_callq _ _ _ ?_ (fun w hs => hA.chk w hs.kept.kept v hv) ?_
  · kernel_rfl
  refine g_callq _ _ _ ?_ (fun w hs => num5_any v w) ?_
  · kernel_rfl
  refine g_run 9999 [] 0 (by kernel_rfl) ?_
  refine g_dec 17 (v != 0) (by kernel_rfl) (fun h17 => ?_) (fun h17 => ?_)
  · refine g_run 9999 [] 3 (by kernel_rfl) ?_
    refine g_callq _ _ _ ?_ (fun w hs => hA.chk w hs.kept.kept v hv) ?_
    · kernel_rfl
    refine g_callq _ _ _ ?_ (fun w hs => num5_any v w) ?_
    · kernel_rfl
    refine g_run 9999 [] 0 (by kernel_rfl) ?_
    refine g_callq _ _ _ ?_ (fun w hs => hr w hs.kept.kept) ?_
    · kernel_rfl
    refine g_run 9999 [] 0 (by kernel_rfl) ?_
    refine g_dec 27 (v == v) (by kernel_rfl) (fun h27 => ?_) (fun h27 => ?_)
    · refine g_callq _ _ _ ?_ (fun w hs => knows5_any w) ?_
      · kernel_rfl
      refine g_run 9999 [] 0 (by kernel_rfl) ?_
      refine g_ret [] (Value.bool true) (by kernel_rfl) (by kernel_rfl) (by kernel_rfl) fun w' hs => ?_
      exact ⟨rfl, hs.kept.kept⟩
    · exact absurd h27 (by clear hA hr; intro hx; first | (exact h0 (bne_eq_false_iff_eq.1 hx)) | (exact Bool.noConfusion (hx.symm.trans (beq_self_eq_true v))))
  · exact absurd h17 (by clear hA hr; intro hx; first | (exact h0 (bne_eq_false_iff_eq.1 hx)) | (exact Bool.noConfusion (hx.symm.trans (beq_self_eq_true v))))
set_option maxRecDepth 100000 in
set_option maxHeartbeats 4000000 in
theorem flat_none (A : Option Addr) (c bl ol : Nat) (w : World) (hA : Lst w A [] c bl ol) (h0 : ∀ w', Kept w w' → Calls Try.prog 47 #[.slice A 0 c] w' fun e w2 => e = .returned (.tuple #[.int .i64 0, .int .i64 0]) ∧ Kept w' w2) :
    Calls Try.prog 11 #[.slice A 0 c] w fun e w' => e = .returned (.bool true) ∧ Kept w w' := by
  refine g_enter (args := [.slice A 0 c]) [] [] Try.func11 rfl Try.ntmps11 (Nat.le_of_ble_eq_true (by kernel_rfl)) (sat0 w) ?_
  refine g_run 9999 [] 0 (by kernel_rfl) ?_
  refine g_callq _ _ _ ?_ (fun w hs => hA.chk w hs.kept.kept 0 rfl) ?_
  · kernel_rfl
  refine g_callq _ _ _ ?_ (fun w hs => num5_any 0 w) ?_
  · kernel_rfl
  refine g_run 9999 [] 0 (by kernel_rfl) ?_
  refine g_callq _ _ _ ?_ (fun w hs => knows5_any w) ?_
  · kernel_rfl
  refine g_run 9999 [] 2 (by kernel_rfl) ?_
  refine g_callq _ _ _ ?_ (fun w hs => h0 w hs.kept.kept) ?_
  · kernel_rfl
  refine g_run 9999 [] 0 (by kernel_rfl) ?_
  refine g_unroll 2 (by kernel_rfl) ?_
  refine g_run 9999 [] 1 (by kernel_rfl) ?_
  refine g_callq _ _ _ ?_ (fun w hs => num5_any 0 w) ?_
  · kernel_rfl
  refine g_run 9999 [] 3 (by kernel_rfl) ?_
  refine g_ret [] (Value.bool true) (by kernel_rfl) (by kernel_rfl) (by kernel_rfl) fun w' hs => ?_
  exact ⟨rfl, hs.kept.kept⟩
theorem wide {a b : Nat} (h : decide ((a : Int) > ((b + 1 : Nat) : Int)) = true) : b + 1 < a := by have := of_decide_eq_true h; omega
theorem kind_ne {k c : Int} (h : (k != c) = true) : k ≠ c := by simpa using h
theorem insideF {l : List Nod} {W : Wk} (hG : Good l W) (x : FX l W) {bl ol cl : Nat} (hcl : l.length ≤ cl) (hx : x.at_ < l.length) (h74 : decide ((x.e : Int) > ((x.at_ + 1 : Nat) : Int)) = true) (h81 : ((nth l x.at_).kind != 10) = true) (w : World) (hq : Sat w [] [.row bl ol 19 l.length (rowOf l)] w) :
    Calls Try.prog 29 #[.slice (some ⟨bl, ol, none⟩) l.length cl, .int .i64 (x.at_ : Int)] w fun e' w' => ∃ q : NewL w x.z, e' = .returned (.tuple #[.slice q.A x.z.length q.c, .int .i64 0]) ∧ Sat w [] [.row q.b 0 19 x.z.length (rowOf x.z)] w' := by
  have hI := x.inner hG hx (wide h74) (kind_ne h81)
  have h := inside_any l bl ol cl W hG hcl x.at_ x.e (wide h74) (x.round hG hx).le x.he.symm hI.hen w hq
  rw [← x.hz] at h
  exact h
theorem wrapF {l : List Nod} {W : Wk} (hG : Good l W) (x : FX l W) (hx : x.at_ < l.length) (h74 : decide ((x.e : Int) > ((x.at_ + 1 : Nat) : Int)) = true) (h81 : ((nth l x.at_).kind != 10) = true) {w0 : World} (q : NewL w0 x.z) (w : World) (hq : Sat w [] [.row q.b 0 19 x.z.length (rowOf x.z)] w) :
    Calls Try.prog 31 #[nodV (nth l x.at_), .slice q.A x.z.length q.c] w fun e' w' => ∃ r : NewL w x.y, e' = .returned (.tuple #[.slice r.A x.y.length r.c, .int .i64 0]) ∧ Sat w [] [.row r.b 0 19 x.y.length (rowOf x.y)] w' := by
  have hI := x.inner hG hx (wide h74) (kind_ne h81)
  obtain ⟨b, o, hL⟩ := newL_lst q hq
  exact wrap_any (nth l x.at_) x.z q.A q.c b o hI.hr hI.hen (kind_ne h81) hI.chk x.y hI.wrap (x.round hG hx).chk hI.len w hL
theorem ylen {l : List Nod} {W : Wk} (hG : Good l W) {x : FX l W} (hF : RoundF l W x) : x.y.length ≤ 1000000 := by
  have := hF.len
  have := hF.le
  have := hG.le
  omega
theorem cntlt {l : List Nod} {W : Wk} (hG : Good l W) (x : FX l W) : x.cnt < 9223372036854775807 := by
  have := x.cn
  have : countN l W ≤ l.length := items_le
  have := hG.le
  omega
theorem nextlt {l : List Nod} {W : Wk} (hG : Good l W) (x : FX l W) (hx : x.at_ < l.length) : l.length - (x.next hG hx).at_ < l.length - x.at_ := by
  have h1 := (x.round hG hx).lt
  have e : (x.next hG hx).at_ = x.e := rfl
  omega
set_option maxRecDepth 100000 in
set_option maxHeartbeats 4000000 in
theorem flat_some (l : List Nod) (bl ol cl : Nat) (W : Wk) (hG : Good l W) (hcl : l.length ≤ cl) (hl : l.length ≤ 2000) (n : Nat) (hn : countN l W = n) (w : World) (hq : Sat w [] [.row bl ol 19 l.length (rowOf l)] w) :
    Calls Try.prog 11 #[.slice (some ⟨bl, ol, none⟩) l.length cl] w fun e w' => e = .returned (.bool true) ∧ Kept w w' := by
  have hch := (good_ch hG.walk hG.os).1
  have hck := hG.check
  have hcnt : ∀ w, Sat w [] [.row bl ol 19 l.length (rowOf l)] w → Calls Try.prog 47 #[.slice (some ⟨bl, ol, none⟩) l.length cl] w fun e w' => e = .returned (.tuple #[.int .i64 (n : Int), .int .i64 0]) ∧ Kept w w' := fun w h => hn ▸ goodCount_any l bl ol cl W hG w h
  refine g_enter (args := [.slice (some ⟨bl, ol, none⟩) l.length cl]) [] [.row bl ol 19 l.length (rowOf l)] Try.func11 rfl Try.ntmps11 (Nat.le_of_ble_eq_true (by kernel_rfl)) hq ?_
  refine g_run 9999 [] 0 (by kernel_rfl) ?_
  refine g_callq _ _ _ ?_ (fun w hs => checkv_any l bl ol cl w 0 hck (hs.read [0] [.row bl ol 19 l.length (rowOf l)] (by kernel_rfl))) ?_
  · kernel_rfl
  refine g_callq _ _ _ ?_ (fun w hs => num5_any 0 w) ?_
  · kernel_rfl
  refine g_run 9999 [] 0 (by kernel_rfl) ?_
  refine g_callq _ _ _ ?_ (fun w hs => knows5_any w) ?_
  · kernel_rfl
  refine g_run 9999 [] 2 (by kernel_rfl) ?_
  refine g_callq _ _ _ ?_ (fun w hs => hcnt w (hs.read [0] [.row bl ol 19 l.length (rowOf l)] (by kernel_rfl))) ?_
  · kernel_rfl
  refine g_run 9999 [] 0 (by kernel_rfl) ?_
  refine g_loopN (X := FX l W) (fun x => [(5, .int .i64 (x.cnt : Int)), (6, .int .i64 (x.at_ : Int))]) (fun _ => [.row bl ol 19 l.length (rowOf l)]) (fun x => l.length - x.at_) ⟨0, 0, W.beh.getD 0 0, _, _, hch, Nat.zero_add _, rfl, rfl, rfl⟩ (by kernel_rfl) (by unfold Known; kernel_rfl) (by kernel_rfl) fun x N hN => ?_
  refine g_run 9999 [] 0 (by kernel_rfl) ?_
  refine g_dec 38 (decide ((x.at_ : Int) < (l.length : Int))) (by kernel_rfl) (fun h => ?_) (fun h => ?_)
  · have hx : x.at_ < l.length := Int.ofNat_lt.1 (of_decide_eq_true h)
    have hF := x.round hG hx
    refine g_run 9999 [] 1 (by kernel_rfl) ?_
    refine g_callq _ _ _ ?_ (fun w hs => item_any l bl ol cl W hG x.at_ x.e hx x.he.symm hF.ne w (hs.read [0] [.row bl ol 19 l.length (rowOf l)] (by kernel_rfl))) ?_
    · kernel_rfl
    refine g_run 9999 [] 0 (by kernel_rfl) ?_
    refine g_callq _ _ _ ?_ (fun w hs => num5_any 0 w) ?_
    · kernel_rfl
    refine g_run 9999 [] 3 (by kernel_rfl) ?_
    refine g_dec 55 (decide ((↑x.e : Int) ≤ (↑x.at_ : Int))) (by kernel_rfl) (fun h55 => ?_) (fun h55 => ?_)
    · exact absurd h55 (by clear hN hq hcnt; intro hx; first | exact absurd (of_decide_eq_true hx) (Int.not_le.2 (Int.ofNat_lt.2 hF.lt)) | exact absurd (of_decide_eq_true hx) (Int.not_lt.2 (Int.ofNat_le.2 hF.le)))
    · refine g_run 9999 [] 4 (by kernel_rfl) ?_
      refine g_dec 61 (decide ((↑x.e : Int) > (↑l.length : Int))) (by kernel_rfl) (fun h61 => ?_) (fun h61 => ?_)
      · exact absurd h61 (by clear hN hq hcnt; intro hx; first | exact absurd (of_decide_eq_true hx) (Int.not_le.2 (Int.ofNat_lt.2 hF.lt)) | exact absurd (of_decide_eq_true hx) (Int.not_lt.2 (Int.ofNat_le.2 hF.le)))
      · refine g_run 65 [] 3 (by kernel_rfl) ?_
        refine g_val _ _ ?_ (fun w _hs => piece_run (l := l) (y := x.y) (bl := bl) (ol := ol) (cl := cl) (s := x.at_) (e := x.e) hcl hF.lt hF.le hF.len w) ?_
        · kernel_rfl
        refine g_callq _ _ _ ?_ (fun w hs => checkv_any x.y bl (ol + x.at_ * 19) (cl - x.at_) w 0 hF.chk (seg_row (hs.read [0] [.row bl ol 19 l.length (rowOf l)] (by kernel_rfl)) hF.le x.hy)) ?_
        · kernel_rfl
        refine g_callq _ _ _ ?_ (fun w hs => num5_any 0 w) ?_
        · kernel_rfl
        refine g_run 72 [] 2 (by kernel_rfl) ?_
        refine g_val _ _ ?_ (fun w _hs => nat_succ (P := Try.prog) (t := 3) (x := .tmp 71) (y := .const (.int .i64 1)) (m := x.at_) (w := w) (by kernel_rfl) (by omega)) ?_
        · kernel_rfl
        refine g_run 9999 [] 0 (by kernel_rfl) ?_
        refine g_dec 74 (decide ((↑x.e : Int) > (↑(x.at_ + 1) : Int))) (by kernel_rfl) (fun h74 => ?_) (fun h74 => ?_)
        · refine g_run 77 [] 2 (by kernel_rfl) ?_
          refine g_val _ _ ?_ (fun w _hs => idx_run (P := Try.prog) (T := 59) (E := 63) (b := bl) (o := ol) (n := l.length) (c := cl) (k := x.at_) (sz := 19) (kk := .i64) w (by kernel_rfl) (by kernel_rfl) hx) ?_
          · kernel_rfl
          refine g_run 79 [] 1 (by kernel_rfl) ?_
          refine g_val _ _ ?_ (fun w _hs => kindLoad (l := l) (bl := bl) (ol := ol) (k := x.at_) (j := 0) _hs (by kernel_rfl) hx) ?_
          · kernel_rfl
          refine g_run 9999 [] 1 (by kernel_rfl) ?_
          refine g_dec 81 ((nth l x.at_).kind != 10) (by kernel_rfl) (fun h81 => ?_) (fun h81 => ?_)
          · refine g_run 9999 [] 1 (by kernel_rfl) ?_
            refine g_call (X := NewL w x.z) _ _ ?_ (fun q => .tuple #[.slice q.A x.z.length q.c, .int .i64 0]) (fun q => [.row bl ol 19 l.length (rowOf l)] ++ [.row q.b 0 19 x.z.length (rowOf x.z)]) (fun w1 hs => (insideF hG x hcl hx h74 h81 w1 (hs.read [0] [.row bl ol 19 l.length (rowOf l)] (by kernel_rfl))).mono fun e w2 ⟨q, h1, h2⟩ => ⟨⟨q.A, q.c, q.b, q.ax, q.nil, fun h => Nat.le_trans hs.kept.size (q.new h)⟩, h1, (hs.at (by kernel_rfl)).moreRow h2 q.new⟩) (fun q => ?_)
            · kernel_rfl
            refine g_run 91 [] 0 (by kernel_rfl) ?_
            refine g_val _ _ ?_ (fun w _hs => idx_run (P := Try.prog) (T := 59) (E := 63) (b := bl) (o := ol) (n := l.length) (c := cl) (k := x.at_) (sz := 19) (kk := .i64) w (by kernel_rfl) (by kernel_rfl) hx) ?_
            · kernel_rfl
            refine g_val _ _ ?_ (fun w _hs => nodeLoad (l := l) (bl := bl) (ol := ol) (k := x.at_) (j := 0) _hs (by kernel_rfl) hx) ?_
            · kernel_rfl
            refine g_run 9999 [] 0 (by kernel_rfl) ?_
            refine g_call (X := NewL w x.y) _ _ ?_ (fun r => .tuple #[.slice r.A x.y.length r.c, .int .i64 0]) (fun r => ([.row bl ol 19 l.length (rowOf l)] ++ [.row q.b 0 19 x.z.length (rowOf x.z)]) ++ [.row r.b 0 19 x.y.length (rowOf x.y)]) (fun w1 hs => (wrapF hG x hx h74 h81 q w1 (hs.read [1] [.row q.b 0 19 x.z.length (rowOf x.z)] (by kernel_rfl))).mono fun e w2 ⟨r, h1, h2⟩ => ⟨⟨r.A, r.c, r.b, r.ax, r.nil, fun h => Nat.le_trans hs.kept.size (r.new h)⟩, h1, (hs.at (by kernel_rfl)).moreRow h2 r.new⟩) (fun r => ?_)
            · kernel_rfl
            refine g_run 9999 [] 0 (by kernel_rfl) ?_
            refine g_callq _ _ _ ?_ (fun w hs => num5_any 0 w) ?_
            · kernel_rfl
            refine g_run 9999 [] 0 (by kernel_rfl) ?_
            refine g_callq _ _ _ ?_ (fun w hs => num5_any 0 w) ?_
            · kernel_rfl
            refine g_run 108 [] 4 (by kernel_rfl) ?_
            refine g_val _ _ ?_ (fun w _hs => piece_run (l := l) (y := x.y) (bl := bl) (ol := ol) (cl := cl) (s := x.at_) (e := x.e) hcl hF.lt hF.le hF.len w) ?_
            · kernel_rfl
            refine g_callq _ _ _ ?_ (fun w hs => same_any x.y r.A (some ⟨bl, ol + x.at_ * 19, none⟩) r.b 0 r.c bl (ol + x.at_ * 19) (cl - x.at_) (ylen hG hF) w (hs.read [2] [.row r.b 0 19 x.y.length (rowOf x.y)] (by kernel_rfl)) (seg_row (hs.read [0] [.row bl ol 19 l.length (rowOf l)] (by kernel_rfl)) hF.le x.hy) r.ax (.inr rfl)) ?_
            · kernel_rfl
            refine g_run 40 [] 2 (by kernel_rfl) ?_
            refine g_val _ _ ?_ (fun w _hs => nat_succ (P := Try.prog) (t := 3) (x := .tmp 39) (y := .const (.int .i64 1)) (m := x.cnt) (w := w) (by kernel_rfl) (cntlt hG x)) ?_
            · kernel_rfl
            refine g_run 9999 [] 0 (by kernel_rfl) ?_
            refine g_take 1 ?_
            refine g_hook (hN (x.next hG hx) (nextlt hG x hx)) (by kernel_rfl) (by kernel_rfl) (by kernel_rfl) (by unfold Known; kernel_rfl) (by kernel_rfl) (by kernel_rfl)
          · refine g_run 40 [] 1 (by kernel_rfl) ?_
            refine g_val _ _ ?_ (fun w _hs => nat_succ (P := Try.prog) (t := 3) (x := .tmp 39) (y := .const (.int .i64 1)) (m := x.cnt) (w := w) (by kernel_rfl) (cntlt hG x)) ?_
            · kernel_rfl
            refine g_run 9999 [] 0 (by kernel_rfl) ?_
            refine g_take 1 ?_
            refine g_hook (hN (x.next hG hx) (nextlt hG x hx)) (by kernel_rfl) (by kernel_rfl) (by kernel_rfl) (by unfold Known; kernel_rfl) (by kernel_rfl) (by kernel_rfl)
        · refine g_run 40 [] 7 (by kernel_rfl) ?_
          refine g_val _ _ ?_ (fun w _hs => nat_succ (P := Try.prog) (t := 3) (x := .tmp 39) (y := .const (.int .i64 1)) (m := x.cnt) (w := w) (by kernel_rfl) (cntlt hG x)) ?_
          · kernel_rfl
          refine g_run 9999 [] 0 (by kernel_rfl) ?_
          refine g_take 1 ?_
          refine g_hook (hN (x.next hG hx) (nextlt hG x hx)) (by kernel_rfl) (by kernel_rfl) (by kernel_rfl) (by unfold Known; kernel_rfl) (by kernel_rfl) (by kernel_rfl)
  · have hx : ¬ x.at_ < l.length := fun hx => of_decide_eq_false h (Int.ofNat_lt.2 hx)
    have hn2 : x.cnt = n := (x.end_ hx).trans hn
    refine g_run 9999 [] 1 (by kernel_rfl) ?_
    refine g_callq _ _ _ ?_ (fun w hs => num5_any 0 w) ?_
    · kernel_rfl
    refine g_run 9999 [] 3 (by kernel_rfl) ?_
    refine g_ret [] (Value.bool ((↑x.cnt : Int) == (↑n : Int))) (by kernel_rfl) (by kernel_rfl) (by kernel_rfl) fun w' hs => ?_
    exact ⟨ret_bool (by clear hs hN hq hcnt; rw [hn2]; exact beq_self_eq_true _), hs.kept.kept⟩
theorem nodesFlat_walk (w : World) (A : Option Addr) (l : List Nod) (c : Nat) (hle : l.length ≤ c) (_hcm : c ≤ maxLen) (hnil : A = none → l = [] ∧ c = 0)
    (hrow : ∀ p, A = some p → 0 < l.length → p.spot = none ∧ p.block < w.heap.size ∧ ∀ k, k < l.length → ∀ j v, (rowOf l k)[j]? = some v → w.cell? ⟨p.block, p.off + k * 19 + j, none⟩ = some v) :
    Calls Try.prog 11 #[.slice A l.length c] w fun e w' => e = .returned (.bool true) ∧ Kept w w' := by
  obtain ⟨bl, ol, hA⟩ := lst_of w A l c hnil hrow
  rcases Nat.eq_zero_or_pos l.length with h0 | h0
  · obtain rfl := List.length_eq_zero_iff.1 h0
    obtain ⟨W, hG⟩ := good_of (l := []) rfl
    exact flat_none A c bl ol w hA fun w' k => hA.cnt w' k W hG
  · have hAx := hA.ax.resolve_left (by omega)
    have hq := hA.sat w (.refl _)
    by_cases h : checkB l = 0
    · obtain ⟨W, hG⟩ := good_of h
      rw [hAx]
      exact flat_some l bl ol c W hG hle hG.le _ rfl w hq
    · refine flat_bad A l c bl ol w hA (checkB l) rfl h fun w' k => ?_
      rw [hAx]
      exact rcheck_any l bl ol c w' (hA.sat w' k)
end Go.Proofs.Ytohbomeodcjenaa
