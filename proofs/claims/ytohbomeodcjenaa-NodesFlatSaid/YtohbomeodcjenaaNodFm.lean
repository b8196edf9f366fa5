/- nodes: copies: Inside. -/
import Derived.Test.YtohbomeodcjenaaM45
namespace Go.Proofs.Ytohbomeodcjenaa
open Go.RowKit

/-- a list that a call has made -/
structure NewL (w0 : World) (x : List Nod) where
  A : Option Addr
  c : Nat
  b : Nat
  ax : x.length = 0 ∨ A = some ⟨b, 0, none⟩
  nil : A = none → x = [] ∧ c = 0
  new : 0 < x.length → w0.heap.size ≤ b
theorem rows_seg {l : List Nod} {a b : Nat} : rowsL (rowOf l) a (b - a) = rowsL (rowOf (seg l a b)) 0 (b - a) := by
  have key : ∀ m, m ≤ b - a → rowsL (rowOf l) a m = rowsL (rowOf (seg l a b)) 0 m := by
    intro m
    induction m with
    | zero => intro _; simp [rowsL]
    | succ m ih =>
      intro hm
      rw [rowsL_succ, rowsL_succ, ih (by omega)]
      simp only [rowOf, Nat.zero_add]
      rw [seg_nth (by omega)]
  exact key _ (Nat.le_refl _)
theorem tail_eq {b o s sz c : Nat} (h : c ≠ s) : some (tailA b o s sz c) = some (⟨b, o + s * sz, none⟩ : Addr) := by
  unfold tailA
  rw [if_neg h]
theorem seg_none {l : List Nod} {a : Nat} (x : List Nod) (h : x = seg l a a) : x = [] := by rw [h, seg_same]
/-- a piece of a row -/
theorem Sat.rowSeg {w : World} {l : List Nod} {bl ol a b : Nat} (h : Sat w [] [.row bl ol 19 l.length (rowOf l)] w) (hb : b ≤ l.length) : Sat w [] [.row bl (ol + a * 19) 19 (seg l a b).length (rowOf (seg l a b))] w := by
  refine row_sat fun hn => ?_
  rw [seg_len hb] at hn
  obtain ⟨h1, h2⟩ := h.holds _ (List.mem_singleton.2 rfl) (by show 0 < l.length; omega)
  refine ⟨h1, fun k hk j v hv => ?_⟩
  rw [seg_len hb] at hk
  have h3 := h2 (a + k) (by omega) j v (by simp only [rowOf] at hv ⊢; rwa [seg_nth hk] at hv)
  rw [show ol + a * 19 + k * 19 + j = ol + (a + k) * 19 + j by omega]
  exact h3
theorem copyN (l : List Nod) (bl ol cl fr to j : Nat) {w0 w : World} {bs : List Nat} {hp : List HE} {hp' : CopyX w0 (rowOf l) fr (to - fr) 19 → List HE} (hft : fr < to) (hto : to ≤ l.length) (hcl : l.length ≤ cl) (hl : l.length ≤ 2000) (hw : Sat w0 bs hp w) (hj : hp[j]? = some (.row bl ol 19 l.length (rowOf l)))
    (e : ∀ x : CopyX w0 (rowOf l) fr (to - fr) 19, hp ++ [.obj true x.b x.cs 63] = hp' x) :
    ∃ (x : CopyX w0 (rowOf l) fr (to - fr) 19) (w' : World), (appSem 59 59 (.slice none 0 0) (.slice (some (tailA bl ol fr 19 cl)) (to - fr) (cl - fr))).run Try.prog w = .ok (.value (.slice (some ⟨x.b, 0, none⟩) (to - fr) x.cap)) w' ∧ Sat w0 bs (hp' x) w' := by
  have h := appN_run (P := Try.prog) (t := 59) (ty := 59) (E := 63) (sz := 19) (m := to - fr) (c := cl - fr) (s := fr) (bx := bl) (off := ol) (n := l.length) (by_ := 160) (j := j) (ax := some (tailA bl ol fr 19 cl)) (f := rowOf l) hw (by kernel_rfl) (info_of (by kernel_rfl)) hj (fun _ => rfl) (by omega) (by omega) (tail_eq (by omega)) (by omega) (by omega)
  obtain ⟨x, w', h1, h2⟩ := h
  exact ⟨x, w', h1, h2.at (e x)⟩
theorem copy0 (A : Option Addr) (c : Nat) (w : World) : (appSem 59 59 (.slice none 0 0) (.slice A 0 c)).run Try.prog w = .ok (.value (.slice none 0 0)) w := by
  obtain ⟨ti, z, h1, _⟩ := info_of (P := Try.prog) (E := 63) (sz := 19) (by_ := 160) (by kernel_rfl)
  exact app0_run (by kernel_rfl) h1
theorem nodeLoad {l : List Nod} {bl ol k j : Nat} {w0 w : World} {bs : List Nat} {hp : List HE} (hw : Sat w0 bs hp w) (hj : hp[j]? = some (.row bl ol 19 l.length (rowOf l))) (hk : k < l.length) :
    (loadSem 63 (.pointer (some ⟨bl, ol + k * 19, none⟩))).run Try.prog w = .ok (.value (nodV (nth l k))) w :=
  Sat.rowload (T := 63) (i := j) (b := bl) (off := ol) (sz := 19) (n := l.length) (f := rowOf l) hw hj hk (by kernel_rfl) (by kernel_rfl) rfl
set_option maxRecDepth 100000 in
set_option maxHeartbeats 4000000 in
theorem copied_some (l : List Nod) (bl ol cl : Nat) (bb : Option Addr) (bn bc fr to : Nat) (hft : fr < to) (hto : to ≤ l.length) (hcl : l.length ≤ cl) (hl : l.length ≤ 2000) (w : World) (hq : Sat w [] [.row bl ol 19 l.length (rowOf l)] w) :
    Calls Try.prog 68 #[.agg #[.slice (some ⟨bl, ol, none⟩) l.length cl, .slice bb bn bc], .agg #[.int .i64 (fr : Int), .int .i64 (to : Int)]] w fun e w' => ∃ x : CopyX w (rowOf l) fr (to - fr) 19, e = .returned (.slice (some ⟨x.b, 0, none⟩) (to - fr) x.cap) ∧ Sat w [] [.obj true x.b x.cs 63] w' := by
  refine g_enter (args := [.agg #[.slice (some ⟨bl, ol, none⟩) l.length cl, .slice bb bn bc], .agg #[.int .i64 (fr : Int), .int .i64 (to : Int)]]) [] [.row bl ol 19 l.length (rowOf l)] Try.func68 rfl Try.ntmps68 (Nat.le_of_ble_eq_true (by kernel_rfl)) hq ?_
  refine g_run 9999 [] 0 (by kernel_rfl) ?_
  refine g_new (fun b => by kernel_rfl) fun b1 hb1 => ?_
  refine g_new (fun b => by kernel_rfl) fun b2 hb2 => ?_
  refine g_run 11 ([1] ++ [2, 2]) 0 (by kernel_rfl) ?_
  refine g_val _ _ ?_ (fun w _hs => seg_run (P := Try.prog) (T := 59) (E := 63) (b := bl) (o := ol) (n := l.length) (c := cl) (s := fr) (e := to) (sz := 19) (kk := .i64) (kl := .i64) w (by kernel_rfl) (by kernel_rfl) (by omega) (by omega)) ?_
  · kernel_rfl
  refine g_anyW (X := CopyX w (rowOf l) fr (to - fr) 19) (appSem 59 59 (.slice none 0 0) (.slice (some (tailA bl ol fr 19 cl)) (to - fr) (cl - fr))) (fun x => .slice (some ⟨x.b, 0, none⟩) (to - fr) x.cap) (fun x => [.row bl ol 19 l.length (rowOf l), .obj true b1 [.slice (some ⟨bl, ol, none⟩) l.length cl, .slice bb bn bc] 141, .obj true b2 [.int .i64 (fr : Int), .int .i64 (to : Int)] 147, .obj true x.b x.cs 63]) (by kernel_rfl) (fun w hs => copyN l bl ol cl fr to 0 hft hto hcl hl hs (by kernel_rfl) (fun x => by kernel_rfl)) (fun x => ?_)
  refine g_run 9999 [] 0 (by kernel_rfl) ?_
  refine g_ret [] (Value.slice (some (Addr.mk x.b 0 none)) (to - fr) x.cap) (by kernel_rfl) (by kernel_rfl) (by kernel_rfl) fun w' hs => ?_
  exact ⟨x, rfl, hs.pick [3] (by decide) (by kernel_rfl)⟩
set_option maxRecDepth 100000 in
set_option maxHeartbeats 4000000 in
theorem copied_none (l : List Nod) (bl ol cl : Nat) (bb : Option Addr) (bn bc fr : Nat) (hto : fr ≤ l.length) (hcl : l.length ≤ cl) (w : World) (hq : Sat w [] [.row bl ol 19 l.length (rowOf l)] w) :
    Calls Try.prog 68 #[.agg #[.slice (some ⟨bl, ol, none⟩) l.length cl, .slice bb bn bc], .agg #[.int .i64 (fr : Int), .int .i64 (fr : Int)]] w fun e w' => e = .returned (.slice none 0 0) ∧ Kept w w' := by
  refine g_enter (args := [.agg #[.slice (some ⟨bl, ol, none⟩) l.length cl, .slice bb bn bc], .agg #[.int .i64 (fr : Int), .int .i64 (fr : Int)]]) [] [.row bl ol 19 l.length (rowOf l)] Try.func68 rfl Try.ntmps68 (Nat.le_of_ble_eq_true (by kernel_rfl)) hq ?_
  refine g_run 9999 [] 0 (by kernel_rfl) ?_
  refine g_new (fun b => by kernel_rfl) fun b1 hb1 => ?_
  refine g_new (fun b => by kernel_rfl) fun b2 hb2 => ?_
  refine g_run 11 ([1] ++ [2, 2]) 0 (by kernel_rfl) ?_
  refine g_val _ _ ?_ (fun w _hs => (seg_run (P := Try.prog) (T := 59) (E := 63) (b := bl) (o := ol) (n := l.length) (c := cl) (s := fr) (e := fr) (sz := 19) (kk := .i64) (kl := .i64) w (by kernel_rfl) (by kernel_rfl) (by omega) (by omega)).trans (congrArg (fun z => Result.ok (Next.value (Value.slice (some (tailA bl ol fr 19 cl)) z (cl - fr))) w) (Nat.sub_self fr))) ?_
  · kernel_rfl
  refine g_val _ _ ?_ (fun w _hs => copy0 (some (tailA bl ol fr 19 cl)) (cl - fr) w) ?_
  · kernel_rfl
  refine g_run 9999 [] 0 (by kernel_rfl) ?_
  refine g_ret [] (Value.slice none 0 0) (by kernel_rfl) (by kernel_rfl) (by kernel_rfl) fun w' hs => ?_
  exact ⟨rfl, hs.kept.kept⟩
theorem copied_any (l : List Nod) (bl ol cl : Nat) (bb : Option Addr) (bn bc fr to : Nat) (hft : fr ≤ to) (hto : to ≤ l.length) (hcl : l.length ≤ cl) (hl : l.length ≤ 2000) (w : World) (hq : Sat w [] [.row bl ol 19 l.length (rowOf l)] w) :
    Calls Try.prog 68 #[.agg #[.slice (some ⟨bl, ol, none⟩) l.length cl, .slice bb bn bc], .agg #[.int .i64 (fr : Int), .int .i64 (to : Int)]] w fun e w' => ∃ x : NewL w (seg l fr to), e = .returned (.slice x.A (seg l fr to).length x.c) ∧ Sat w [] [.row x.b 0 19 (seg l fr to).length (rowOf (seg l fr to))] w' := by
  rcases Nat.lt_or_ge fr to with h | h
  · refine (copied_some l bl ol cl bb bn bc fr to h hto hcl hl w hq).mono fun e w' ⟨x, h1, h2⟩ => ?_
    refine ⟨⟨some ⟨x.b, 0, none⟩, x.cap, x.b, .inr rfl, fun h => (by cases h), fun _ => x.new⟩, ?_, ?_⟩
    · refine h1.trans ?_
      show Ending.returned (Value.slice (some ⟨x.b, 0, none⟩) (to - fr) x.cap) = Ending.returned (Value.slice (some ⟨x.b, 0, none⟩) (seg l fr to).length x.cap)
      rw [seg_len hto]
    · have h3 := h2.asRow (i := 0) (o := true) (cs := x.cs) (E := 63) (b := x.b) (n := to - fr) (f := rowOf (seg l fr to)) rfl (fun _ => rfl) (by rw [x.row, rows_seg])
      show Sat w [] [.row x.b 0 19 (seg l fr to).length (rowOf (seg l fr to))] w'
      rw [seg_len hto]
      exact Sat.oneRow h2.kept.kept h3
  · obtain rfl : fr = to := by omega
    refine (copied_none l bl ol cl bb bn bc fr hto hcl w hq).mono fun e w' ⟨h1, h2⟩ => ?_
    have hs : seg l fr fr = [] := seg_same
    generalize seg l fr fr = y at *
    subst hs
    exact ⟨⟨none, 0, 0, .inl rfl, fun _ => ⟨rfl, rfl⟩, fun h => (by cases h)⟩, h1, Sat.oneRow h2 (row_sat fun h => by cases h)⟩
set_option maxRecDepth 100000 in
set_option maxHeartbeats 4000000 in
theorem inside_any (l : List Nod) (bl ol cl : Nat) (W : Wk) (hG : Good l W) (hcl : l.length ≤ cl) (at_ e : Nat) (ha : at_ + 1 < e) (hel : e ≤ l.length) (he : W.beh.getD at_ 0 = e) (hen : enters (nth l at_).kind = true) (w : World) (hq : Sat w [] [.row bl ol 19 l.length (rowOf l)] w) :
    Calls Try.prog 29 #[.slice (some ⟨bl, ol, none⟩) l.length cl, .int .i64 (at_ : Int)] w fun e' w' => ∃ x : NewL w (seg l (at_ + 1) (e - 1)), e' = .returned (.tuple #[.slice x.A (seg l (at_ + 1) (e - 1)).length x.c, .int .i64 0]) ∧ Sat w [] [.row x.b 0 19 (seg l (at_ + 1) (e - 1)).length (rowOf (seg l (at_ + 1) (e - 1)))] w' := by
  have hlen := (good_ch hG.walk hG.os).2
  have hl := hG.le
  have hop : ∀ w, Calls Try.prog 67 #[nodV (nth l at_)] w fun e w' => e = .returned (.bool true) ∧ Kept w w' := fun w => hen ▸ nopens_any (nth l at_) w
  refine g_enter (args := [.slice (some ⟨bl, ol, none⟩) l.length cl, .int .i64 (at_ : Int)]) [] [.row bl ol 19 l.length (rowOf l)] Try.func29 rfl Try.ntmps29 (Nat.le_of_ble_eq_true (by kernel_rfl)) hq ?_
  refine g_run 9999 [] 0 (by kernel_rfl) ?_
  refine g_call (X := Nat) _ _ ?_ (fun bb => .tuple #[.agg #[.slice (some ⟨bl, ol, none⟩) l.length cl, .slice (some ⟨bb, 0, none⟩) l.length l.length], .int .i64 0]) (fun bb => [.row bl ol 19 l.length (rowOf l)] ++ [.obj true bb (behC W.beh) 3])
    (fun w1 hs => (outline_ok l bl ol cl w1 (hs.read [0] [.row bl ol 19 l.length (rowOf l)] (by kernel_rfl)) W hG.le hG.whole hG.walk hG.d).mono fun e w2 ⟨bb, h1, h2, h3, h4⟩ => ⟨bb, h1, (Sat.at hs (by kernel_rfl)).more (Sat.one h4 h2 h3) (by simp [HE.own])⟩) (fun bb => ?_)
  · kernel_rfl
  refine g_run 9999 [] 0 (by kernel_rfl) ?_
  refine g_new (fun b => by kernel_rfl) fun b2 hb2 => ?_
  refine g_run 9999 (List.replicate 4 2) 1 (by kernel_rfl) ?_
  refine g_callq _ _ _ ?_ (fun w hs => begins_yes W.beh bb (some ⟨bl, ol, none⟩) l.length cl l.length at_ hlen (by omega) (by omega) w (hs.obj (o := true) (i := 1) (by kernel_rfl))) ?_
  · kernel_rfl
  refine g_run 23 [] 2 (by kernel_rfl) ?_
  refine g_val _ _ ?_ (fun w _hs => idx_run (P := Try.prog) (T := 59) (E := 63) (b := bl) (o := ol) (n := l.length) (c := cl) (k := at_) (sz := 19) (kk := .i64) w (by kernel_rfl) (by kernel_rfl) (by omega)) ?_
  · kernel_rfl
  refine g_val _ _ ?_ (fun w _hs => nodeLoad (l := l) (bl := bl) (ol := ol) (k := at_) (j := 0) _hs (by kernel_rfl) (by omega)) ?_
  · kernel_rfl
  refine g_callq _ _ _ ?_ (fun w hs => hop w) ?_
  · kernel_rfl
  refine g_run 9999 [] 2 (by kernel_rfl) ?_
  refine g_draw 4 (by kernel_rfl) (by kernel_rfl) ?_
  refine l_run 9999 (List.replicate 4 2) 0 (by kernel_rfl) ?_
  refine l_callq _ _ _ ?_ (fun w hs => inside_span W.beh bb (some ⟨bl, ol, none⟩) l.length cl l.length at_ e hlen (by omega) he (by omega) (by omega) hl w (hs.obj (o := true) (i := 1) (by kernel_rfl))) ?_
  · kernel_rfl
  refine l_end (by kernel_rfl) ?_
  refine g_call (X := NewL w (seg l (at_ + 1) (e - 1))) _ _ ?_ (fun x => .slice x.A (seg l (at_ + 1) (e - 1)).length x.c) (fun x => [.row bl ol 19 l.length (rowOf l), .obj true bb (behC W.beh) 3, .obj true b2 [.slice (some ⟨bl, ol, none⟩) l.length cl, .slice (some ⟨bb, 0, none⟩) l.length l.length] 141] ++ [.row x.b 0 19 (seg l (at_ + 1) (e - 1)).length (rowOf (seg l (at_ + 1) (e - 1)))]) (fun w1 hs => (copied_any l bl ol cl (some ⟨bb, 0, none⟩) l.length l.length (at_ + 1) (e - 1) (by omega) (by omega) hcl hl w1 (hs.read [0] [.row bl ol 19 l.length (rowOf l)] (by kernel_rfl))).mono fun e w2 ⟨x, h1, h2⟩ => ⟨⟨x.A, x.c, x.b, x.ax, x.nil, fun h => Nat.le_trans hs.kept.size (x.new h)⟩, h1, (hs.at (by kernel_rfl)).moreRow h2 x.new⟩) (fun x => ?_)
  · kernel_rfl
  refine g_run 9999 [] 0 (by kernel_rfl) ?_
  refine g_ret [] (Value.tuple (Array.mk [Value.slice x.A (seg l (at_ + 1) (e - 1)).length x.c, Value.int IntKind.i64 0])) (by kernel_rfl) (by kernel_rfl) (by kernel_rfl) fun w' hs => ?_
  exact ⟨x, rfl, hs.pick [3] (by decide) (by kernel_rfl)⟩
end Go.Proofs.Ytohbomeodcjenaa
