/- VMk VPn RMk. -/
import Derived.Test.YtcncfmjfgdbfeabVOf3
import Derived.Test.YtcncfmjfgdbfeabM35
import Derived.Test.YtcncfmjfgdbfeabM39
import Derived.Test.YtcncfmjfgdbfeabVPr
namespace Go.Proofs.Ytcncfmjfgdbfeab
open Go.RowKit
structure Mks where
 f : ByteArray
 la : ByteArray
 s : Bool
def mkS (a : Mks) (n : Nod) : Mks := bif decide (n.kind = 12) then ⟨bif a.s then a.f else n.text, n.text, true⟩ else a
def mk0 : Mks := ⟨⟨#[]⟩, ⟨#[]⟩, false⟩
def marksV (l : List Nod) (W : Wk) : Mks := (startsV l W).foldl (fun a p => mkS a (nth l p)) mk0
structure MX (l : List Nod) (W : Wk) where
 x : PX l W
 a : Mks
 is : x.pre.foldl (fun a p => mkS a (nth l p)) mk0 = a
def MX.first (l : List Nod) (W : Wk) : MX l W := ⟨.first l W, mk0, rfl⟩
def MX.next {l : List Nod} {W : Wk} (u : MX l W) (e : Nat) (h : u.x.p < l.length) (he : W.beh.getD u.x.p 0 = e) (hlt : u.x.p < e) (b : Mks) (hb : mkS u.a (nth l u.x.p) = b) : MX l W :=
 ⟨u.x.next e h he hlt, b, by
  show (u.x.pre ++ [u.x.p]).foldl _ _ = _
  rw [List.foldl_append, u.is]
  exact hb⟩
theorem MX.done {l : List Nod} {W : Wk} (u : MX l W) (h : u.x.p = l.length) : marksV l W = u.a := by
 rw [← u.is, u.x.end_ h]; rfl
theorem mk_no {a : Mks} {n : Nod} (h : n.kind ≠ 12) : mkS a n = a := by simp [mkS, h]
theorem mk_1 {a : Mks} {n : Nod} (h : n.kind = 12) (hs : a.s = false) : mkS a n = ⟨n.text, n.text, true⟩ := by simp [mkS, h, hs]
theorem mk_2 {a : Mks} {n : Nod} (h : n.kind = 12) (hs : a.s = true) : mkS a n = ⟨a.f, n.text, a.s⟩ := by simp [mkS, h, hs]
def WMk (a : Mks) : VP := fun s v _ => match s with
 | 30 => v = .string a.f
 | 31 => v = .string a.la
 | 32 => v = .bool a.s
 | 5 => v = .int .i64 0
 | _ => True
theorem WMk_kept {a : Mks} : ∀ s v w w', WMk a s v w → Kept w w' → WMk a s v w' := fun _ _ _ _ h _ => h
theorem Sat.five {w0 w : World} {bs : List Nat} {e1 e2 e3 e4 : HE} {x : Nat} {cs : List Value} {T : TypeId} {w1 : World} (h : Sat w0 bs [e1, e2, e3, e4] w) (k : Sat w [] [.obj true x cs T] w1) : Sat w0 bs [e1, e2, e3, e4, .obj true x cs T] w1 := h.more k (by simp [HE.own])
theorem vck0_any (l : List Nod) (bl ol cl : Nat) (W : Wk) (hG : Good l W) (hcl : l.length ≤ cl) (hk : checkB l = 0) (hv : vcheckE l W = 0) (w : World) (hq : Sat w [] [.row bl ol 19 l.length (rowOf l)] w) :
  Calls Try.prog 23 #[.slice (some ⟨bl, ol, none⟩) l.length cl] w fun e w' => e = .returned (.int .i64 0) ∧ Kept w w' := by
 cases hu : uprightB l W with
 | true => exact vcheck_up l bl ol cl W hG hcl hk hu 0 hv w hq
 | false => rw [vcheckE, hu] at hv; cases hv
set_option maxRecDepth 100000 in
set_option maxHeartbeats 8000000 in
theorem marks_row (l : List Nod) (bl ol cl : Nat) (W : Wk) (hG : Good l W) (hcl : l.length ≤ cl) (hk : checkB l = 0) (hv0 : vcheckE l W = 0) (m : Mks) (hm : marksV l W = m) (w : World) (hq : Sat w [] [.row bl ol 19 l.length (rowOf l)] w) :
  Calls Try.prog 8 #[.slice (some ⟨bl, ol, none⟩) l.length cl] w fun e w' => e = .returned (.tuple #[.string m.f, .string m.la, .bool m.s, .int .i64 0]) ∧ Kept w w' := by
 refine g_enterN (W := w) (args := [.slice (some ⟨bl, ol, none⟩) l.length cl]) [] [.row bl ol 19 l.length (rowOf l)] Try.func8 rfl Try.ntmps8 kL hq ?_
 refine g0 ?_
 refine gN fun b2 hb2 => ?_
 refine gN fun b3 hb3 => ?_
 refine gN fun b4 hb4 => ?_
 refine g0 ?_
 refine g_callq _ _ _ ?_ (fun w hs => vck0_any l bl ol cl W hG hcl hk hv0 w (hs.read [0] [.row bl ol 19 l.length (rowOf l)] kR)) ?_
 ·kernel_rfl
 refine gA [] 1 ?_
 refine g_call (X := Nat) _ _ ?_ (fun x => .func (.func 50) #[] #[.pointer (some ⟨x, 0, none⟩)]) (fun x => [.row bl ol 19 l.length (rowOf l), .obj true b2 [.string mk0.f] 9, .obj true b3 [.string mk0.la] 9, .obj true b4 [.bool mk0.s] 4, .obj true x [.slice (some ⟨bl, ol, none⟩) l.length cl] 22])
  (fun w1 hs => (of_any (some ⟨bl, ol, none⟩) l.length cl w1).mono fun e w2 ⟨x, he, hx⟩ => ⟨x, he, (Sat.at hs kR).five hx⟩) (fun x1 => ?_)
 ·kernel_rfl
 refine g0 ?_
 refine g_rangeX 50 kR (fun L => by kernel_rfl) (fnI := Try.f50) (cI := Try.f50.body.getD .skip) (nI := Try.f50.ntmps) Try.func50 rfl rfl (fun L => Nat.le_of_ble_eq_true kR) fun L W1 bs1 R hR => ?_
 refine g_is kR (of_walk3 hR kR l bl ol cl W hG hcl x1 (X := MX l W) (fun u => u.x.p) (fun u => .obj true b2 [.string u.a.f] 9) (fun u => .obj true b3 [.string u.a.la] 9) (fun u => .obj true b4 [.bool u.a.s] 4) (MX.first l W) rfl (fun u e hp he hlt hel N hN => ?_) (fun u hu => ?_))
 ·refine g0 ?_
  refine g_beginX hN kR kR kR fun W2 bs2 fin2 _ _ _ hRd => ?_
  have h0 : 0 < e - u.x.p := by omega
  refine gU 19 [] 0 ?_
  refine g_val _ _ ?_ (fun w _hs => idx0_run (P := Try.prog) (T := 22) (E := 55) (b := bl) (o := ol + u.x.p * 19) (n := e - u.x.p) (c := e - u.x.p) (sz := 19) w kR kR h0) ?_
  ·kernel_rfl
  refine gU 21 [] 0 ?_
  refine g_val _ _ ?_ (fun w _hs => Sat.rowload1 (T := 3) (i := 0) (b := bl) (off := ol) (sz := 19) (n := l.length) (k := u.x.p) (j := 0) (f := rowOf l) (v := .int .i64 (nth l u.x.p).kind) _hs kR hp kR rfl) ?_
  ·kernel_rfl
  refine g0 ?_
  refine g_dec 22 ((nth l u.x.p).kind != 12) kR (fun h22 => ?_) (fun h22 => ?_)
  ·refine gA [] 1 ?_
   first | exact g_endX hRd kR (.refl _ _) ⟨u.next e hp he hlt _ (mk_no (by clear hR hN hRd; simp at *; omega)), rfl, by kernel_rfl⟩ | exact g_endX hRd kR (.refl _ _) ⟨u.next e hp he hlt _ (mk_2 (by clear hR hN hRd; simp at *; omega) (by clear hR hN hRd; simpa using h28)), rfl, by kernel_rfl⟩ | exact g_endX hRd kR (.refl _ _) ⟨u.next e hp he hlt _ (mk_1 (by clear hR hN hRd; simp at *; omega) (by clear hR hN hRd; simpa using h28)), rfl, by kernel_rfl⟩
  refine gU 24 [] 1 ?_
  refine g_val _ _ ?_ (fun w _hs => idx0_run (P := Try.prog) (T := 22) (E := 55) (b := bl) (o := ol + u.x.p * 19) (n := e - u.x.p) (c := e - u.x.p) (sz := 19) w kR kR h0) ?_
  ·kernel_rfl
  refine gU 26 [] 0 ?_
  refine g_val _ _ ?_ (fun w _hs => Sat.rowload1 (T := 9) (i := 0) (b := bl) (off := ol) (sz := 19) (n := l.length) (k := u.x.p) (j := 18) (f := rowOf l) (v := .string (nth l u.x.p).text) _hs kR hp kR rfl) ?_
  ·kernel_rfl
  refine gA ([2] ++ [3]) 0 ?_
  refine g_dec 28 (!u.a.s) kR (fun h28 => ?_) (fun h28 => ?_)
  ·refine gA ([2] ++ [1] ++ [3]) 1 ?_
   first | exact g_endX hRd kR (.refl _ _) ⟨u.next e hp he hlt _ (mk_no (by clear hR hN hRd; simp at *; omega)), rfl, by kernel_rfl⟩ | exact g_endX hRd kR (.refl _ _) ⟨u.next e hp he hlt _ (mk_2 (by clear hR hN hRd; simp at *; omega) (by clear hR hN hRd; simpa using h28)), rfl, by kernel_rfl⟩ | exact g_endX hRd kR (.refl _ _) ⟨u.next e hp he hlt _ (mk_1 (by clear hR hN hRd; simp at *; omega) (by clear hR hN hRd; simpa using h28)), rfl, by kernel_rfl⟩
  refine gA [] 1 ?_
  first | exact g_endX hRd kR (.refl _ _) ⟨u.next e hp he hlt _ (mk_no (by clear hR hN hRd; simp at *; omega)), rfl, by kernel_rfl⟩ | exact g_endX hRd kR (.refl _ _) ⟨u.next e hp he hlt _ (mk_2 (by clear hR hN hRd; simp at *; omega) (by clear hR hN hRd; simpa using h28)), rfl, by kernel_rfl⟩ | exact g_endX hRd kR (.refl _ _) ⟨u.next e hp he hlt _ (mk_1 (by clear hR hN hRd; simp at *; omega) (by clear hR hN hRd; simpa using h28)), rfl, by kernel_rfl⟩
 intro D W3 bs3 hD he hd hf
 refine g0 ?_
 refine g_drawU 7 (WMk u.a) [(5, .int .i64 0)] [.row bl ol 19 l.length (rowOf l), .obj true b2 [.string u.a.f] 9, .obj true b3 [.string u.a.la] 9, .obj true b4 [.bool u.a.s] 4, .obj true x1 [.slice (some ⟨bl, ol, none⟩) l.length cl] 22] kR kR kR WMk_kept kR ⟨fun u w h => h, trivial⟩ kR ⟨⟨⟨⟨⟨⟨⟨trivial, ?o0⟩, ?o1⟩, ?o2⟩, ?o3⟩, ?o4⟩, ?o5⟩, ?o6⟩ ?_
 case o0 =>
  exact aVal1 30 [(2, some (.pointer (some ⟨b2, 0, none⟩)))] [1] kR kR kR kR fun w hs => ⟨.string u.a.f, kR, kR, rfl⟩
 case o1 =>
  exact aVal1 31 [(3, some (.pointer (some ⟨b3, 0, none⟩)))] [2] kR kR kR kR fun w hs => ⟨.string u.a.la, kR, kR, rfl⟩
 case o2 =>
  exact aVal1 32 [(4, some (.pointer (some ⟨b4, 0, none⟩)))] [3] kR kR kR kR fun w hs => ⟨.bool u.a.s, kR, kR, rfl⟩
 case o3 =>
  exact aSame [(2, some (.pointer (some ⟨b2, 0, none⟩))), (30, none)] 1 b2 (.string u.a.f) 9 kR kR kR kR kR kR fun w hs v30 h30 => by
   obtain rfl := (show v30 = .string u.a.f from h30)
   exact ⟨9, kR, kR⟩
 case o4 =>
  exact aSame [(3, some (.pointer (some ⟨b3, 0, none⟩))), (31, none)] 2 b3 (.string u.a.la) 9 kR kR kR kR kR kR fun w hs v31 h31 => by
   obtain rfl := (show v31 = .string u.a.la from h31)
   exact ⟨9, kR, kR⟩
 case o5 =>
  exact aSame [(4, some (.pointer (some ⟨b4, 0, none⟩))), (32, none)] 3 b4 (.bool u.a.s) 4 kR kR kR kR kR kR fun w hs v32 h32 => by
   obtain rfl := (show v32 = .bool u.a.s from h32)
   exact ⟨4, kR, kR⟩
 case o6 =>
  exact aVal1 5 [] [] kR kR kR kR fun w hs => ⟨.int .i64 0, kR, kR, rfl⟩
 refine g_retN (W0 := w) (bs0 := []) [1, 2, 3] (.tuple #[.string u.a.f, .string u.a.la, .bool u.a.s, .int .i64 0]) kR kR [D] kR he (fun D' hD' => by rw [List.mem_singleton.1 hD']; exact ⟨hD, hd, hf⟩) (by simp) fun w3 hs3 => ?_
 exact ⟨by rw [← hm, u.done hu], hs3.kept.kept⟩
end Go.Proofs.Ytcncfmjfgdbfeab
namespace Go.Proofs.Ytcncfmjfgdbfeab
set_option maxRecDepth 100000
set_option maxHeartbeats 8000000
open Go.RowKit
def VC (l : List Nod) (v : Int) : Prop := (checkB l = v ∧ v ≠ 0) ∨ (checkB l = 0 ∧ ∃ W, Good l W ∧ vcheckE l W = v)
theorem vc_any (l : List Nod) : ∃ v, VC l v := by
 by_cases h : checkB l = 0
 ·obtain ⟨W, hW⟩ := good_of h
  exact ⟨_, .inr ⟨h, W, hW, rfl⟩⟩
 exact ⟨_, .inl ⟨rfl, h⟩⟩
def Tp.nod (T : Tp) : Nod := ⟨7, 0, 0, 0, 0, 0, 0, T.a0, T.a1, T.a2, T.a3, T.a4, 0, 0, 0, 0, 0, 0, ⟨#[]⟩⟩
theorem Sat.addK {w0 w w1 : World} {bs : List Nat} {hp : List HE} (h : Sat w0 bs hp w) (q : KP) (k : Sat w [] [q.e] w1) : Sat w0 bs (hp ++ [q.e]) w1 := by
 rcases q.own with ⟨_, _, _, h4⟩ | ⟨b, _, h2, _⟩
 ·rw [h4]
  exact (h.of_kept k.kept.kept).dummy
 exact h.more k (fun e he => by rw [List.mem_singleton.1 he, h2]; rfl)
theorem vcheck_bad (l : List Nod) (bl ol cl : Nat) (v : Int) (hk : checkB l = v) (hv : v ≠ 0) (w : World) (hq : Sat w [] [.row bl ol 19 l.length (rowOf l)] w) :
  Calls Try.prog 23 #[.slice (some ⟨bl, ol, none⟩) l.length cl] w fun e w' => e = .returned (.int .i64 v) ∧ Kept w w' := by
 refine g_enterM (W := w) (args := [.slice (some ⟨bl, ol, none⟩) l.length cl]) [] [.row bl ol 19 l.length (rowOf l)] Try.func23 rfl Try.ntmps23 kL hq ?_
 refine g0 ?_
 refine gN fun b1 hb1 => ?_
 refine g0 ?_
 refine g_callq _ _ _ ?_ (fun w hs => ckv_any l bl ol cl w v hk (hs.read [0] [.row bl ol 19 l.length (rowOf l)] kR)) ?_
 ·kernel_rfl
 refine g0 ?_
 refine g_dec 9 (v != 0) kR (fun h9 => ?_) (fun h9 => ?_)
 ·refine gA ([1]) 1 ?_
  refine g_retM (W0 := w) (bs0 := []) [1] (.int .i64 v) kR kR [] kR (.refl _ _) (fun D hD => by cases hD) List.nodup_nil fun w3 hs3 => ?_
  exact ⟨rfl, hs3.kept.kept⟩
 exact absurd h9 (by intro hx; simp at hx; exact hv hx)
theorem vcheck_not (l : List Nod) (bl ol cl : Nat) (W : Wk) (hG : Good l W) (hcl : l.length ≤ cl) (hk : checkB l = 0) (hu : uprightB l W = false) (w : World) (hq : Sat w [] [.row bl ol 19 l.length (rowOf l)] w) :
  Calls Try.prog 23 #[.slice (some ⟨bl, ol, none⟩) l.length cl] w fun e w' => e = .returned (.int .i64 50) ∧ Kept w w' := by
 refine g_enterM (W := w) (args := [.slice (some ⟨bl, ol, none⟩) l.length cl]) [] [.row bl ol 19 l.length (rowOf l)] Try.func23 rfl Try.ntmps23 kL hq ?_
 refine g0 ?_
 refine gN fun b1 hb1 => ?_
 refine g0 ?_
 refine g_callq _ _ _ ?_ (fun w hs => ckv_any l bl ol cl w 0 hk (hs.read [0] [.row bl ol 19 l.length (rowOf l)] kR)) ?_
 ·kernel_rfl
 refine gA [] 1 ?_
 refine g_callq _ _ _ ?_ (fun w hs => upright_row l bl ol cl W hG hcl false hu w (hs.read [0] [.row bl ol 19 l.length (rowOf l)] kR)) ?_
 ·kernel_rfl
 refine gA ([1]) 1 ?_
 refine g_retM (W0 := w) (bs0 := []) [1] (.int .i64 50) kR kR [] kR (.refl _ _) (fun D hD => by cases hD) List.nodup_nil fun w3 hs3 => ?_
 exact ⟨rfl, hs3.kept.kept⟩
theorem vcheck_any (l : List Nod) (bl ol cl : Nat) (hcl : l.length ≤ cl) (v : Int) (hv : VC l v) (w : World) (hq : Sat w [] [.row bl ol 19 l.length (rowOf l)] w) :
  Calls Try.prog 23 #[.slice (some ⟨bl, ol, none⟩) l.length cl] w fun e w' => e = .returned (.int .i64 v) ∧ Kept w w' := by
 rcases hv with ⟨h1, h2⟩ | ⟨h1, W, hG, h2⟩
 ·exact vcheck_bad l bl ol cl v h1 h2 w hq
 cases hu : uprightB l W with
 | true => exact vcheck_up l bl ol cl W hG hcl h1 hu v h2 w hq
 | false =>
  have : v = 50 := by rw [← h2, vcheckE, hu]; rfl
  subst this
  exact vcheck_not l bl ol cl W hG hcl h1 hu w hq
theorem prune_bad (T : Tp) (l : List Nod) (bl ol cl : Nat) (hcl : l.length ≤ cl) (v : Int) (hv : VC l v) (h0 : v ≠ 0) (w : World) (hq : Sat w [] [.row bl ol 19 l.length (rowOf l)] w) :
  Calls Try.prog 7 #[.slice (some ⟨bl, ol, none⟩) l.length cl, T.v] w fun e w' => e = .returned (.tuple #[.slice none 0 0, .int .i64 v]) ∧ Kept w w' := by
 refine g_enter (args := [.slice (some ⟨bl, ol, none⟩) l.length cl, T.v]) [] [.row bl ol 19 l.length (rowOf l)] Try.func7 rfl Try.ntmps7 kL hq ?_
 refine g0 ?_
 refine gN fun b1 hb1 => ?_
 refine g0 ?_
 refine g_callq _ _ _ ?_ (fun w hs => vcheck_any l bl ol cl hcl v hv w (hs.read [0] [.row bl ol 19 l.length (rowOf l)] kR)) ?_
 ·kernel_rfl
 refine g0 ?_
 refine g_dec 10 (v != 0) kR (fun h10 => ?_) (fun h10 => ?_)
 ·refine gA [] 1 ?_
  refine gR (Value.tuple (Array.mk [Value.slice none 0 0, Value.int IntKind.i64 v])) fun w' hs => ?_
  exact ⟨rfl, hs.kk⟩
 exact absurd h10 (by intro hx; simp at hx; exact h0 hx)
theorem prune_glue (T : Tp) (l : List Nod) (bl ol cl : Nat) (hcl : l.length ≤ cl) (hv : VC l 0) (hf : finB T.nod = false) (w : World) (hq : Sat w [] [.row bl ol 19 l.length (rowOf l)] w) :
  Calls Try.prog 7 #[.slice (some ⟨bl, ol, none⟩) l.length cl, T.v] w fun e w' => e = .returned (.tuple #[.slice none 0 0, .int .i64 30]) ∧ Kept w w' := by
 have hF : ∀ w, Calls Try.prog 24 #[T.v] w fun e w' => e = .returned (.bool false) ∧ Kept w w' := fun w => hf ▸ vfin_any T.nod w
 refine g_enter (args := [.slice (some ⟨bl, ol, none⟩) l.length cl, T.v]) [] [.row bl ol 19 l.length (rowOf l)] Try.func7 rfl Try.ntmps7 kL hq ?_
 refine g0 ?_
 refine gN fun b1 hb1 => ?_
 refine g0 ?_
 refine g_callq _ _ _ ?_ (fun w hs => vcheck_any l bl ol cl hcl 0 hv w (hs.read [0] [.row bl ol 19 l.length (rowOf l)] kR)) ?_
 ·kernel_rfl
 refine gA (List.replicate 5 1) 1 ?_
 refine g_callq _ _ _ ?_ (fun w hs => hF w) ?_
 ·kernel_rfl
 refine gA [] 1 ?_
 refine gR (Value.tuple (Array.mk [Value.slice none 0 0, Value.int IntKind.i64 30])) fun w' hs => ?_
 exact ⟨rfl, hs.kk⟩
theorem prune_ok (T : Tp) (l : List Nod) (bl ol cl : Nat) (hcl : l.length ≤ cl) (hv : VC l 0) (hf : finB T.nod = true) (W : Wk) (hG : Good l W) (Z : List Nod) (hZ : prunedV T l W = Z) (w : World) (hq : Sat w [] [.row bl ol 19 l.length (rowOf l)] w) :
  Calls Try.prog 7 #[.slice (some ⟨bl, ol, none⟩) l.length cl, T.v] w fun e w' => PrE Z e w w' := by
 have hF : ∀ w, Calls Try.prog 24 #[T.v] w fun e w' => e = .returned (.bool true) ∧ Kept w w' := fun w => hf ▸ vfin_any T.nod w
 refine g_enter (args := [.slice (some ⟨bl, ol, none⟩) l.length cl, T.v]) [] [.row bl ol 19 l.length (rowOf l)] Try.func7 rfl Try.ntmps7 kL hq ?_
 refine g0 ?_
 refine gN fun b3 hb3 => ?_
 refine g0 ?_
 refine g_callq _ _ _ ?_ (fun w hs => vcheck_any l bl ol cl hcl 0 hv w (hs.read [0] [.row bl ol 19 l.length (rowOf l)] kR)) ?_
 ·kernel_rfl
 refine gA (List.replicate 5 1) 1 ?_
 refine g_callq _ _ _ ?_ (fun w hs => hF w) ?_
 ·kernel_rfl
 refine gA (List.replicate 5 1) 1 ?_
 refine g_call (X := { q : KP // q.y = (bif decide (2000 < Z.length) then [] else Z) }) _ _ ?_ (fun q => .tuple #[.slice q.1.A q.1.n q.1.c, .int .i64 (errP Z)]) (fun q => [.row bl ol 19 l.length (rowOf l), .obj true b3 T.cs 24, q.1.e])
  (fun w1 hs => (pruned_any T l bl ol cl W hG hcl Z hZ w1 (hs.read [0] [.row bl ol 19 l.length (rowOf l)] kR)).mono fun e w2 ⟨q, he, hq, hy⟩ => ⟨⟨q, hy⟩, he, (show Sat w [] ([.row bl ol 19 l.length (rowOf l), .obj true b3 T.cs 24] ++ [q.e]) w2 from (Sat.at hs kR).addK q hq)⟩) (fun q => ?_)
 ·kernel_rfl
 refine g0 ?_
 refine gR (.tuple #[.slice q.1.A q.1.n q.1.c, .int .i64 (errP Z)]) fun w' hs => ?_
 exact ⟨q.1, rfl, hs.pick [2] (by decide) kR, q.2⟩
theorem marks_bad (l : List Nod) (bl ol cl : Nat) (hcl : l.length ≤ cl) (v : Int) (hv : VC l v) (h0 : v ≠ 0) (w : World) (hq : Sat w [] [.row bl ol 19 l.length (rowOf l)] w) :
  Calls Try.prog 8 #[.slice (some ⟨bl, ol, none⟩) l.length cl] w fun e w' => e = .returned (.tuple #[.string ⟨#[]⟩, .string ⟨#[]⟩, .bool false, .int .i64 v]) ∧ Kept w w' := by
 refine g_enterM (W := w) (args := [.slice (some ⟨bl, ol, none⟩) l.length cl]) [] [.row bl ol 19 l.length (rowOf l)] Try.func8 rfl Try.ntmps8 kL hq ?_
 refine g0 ?_
 refine gN fun b1 hb1 => ?_
 refine gN fun b2 hb2 => ?_
 refine gN fun b3 hb3 => ?_
 refine g0 ?_
 refine g_callq _ _ _ ?_ (fun w hs => vcheck_any l bl ol cl hcl v hv w (hs.read [0] [.row bl ol 19 l.length (rowOf l)] kR)) ?_
 ·kernel_rfl
 refine g0 ?_
 refine g_dec 12 (v != 0) kR (fun h12 => ?_) (fun h12 => ?_)
 ·refine gA ([1] ++ [2] ++ [3]) 1 ?_
  refine g_retM (W0 := w) (bs0 := []) [1, 2, 3] (.tuple #[.string ⟨#[]⟩, .string ⟨#[]⟩, .bool false, .int .i64 v]) kR kR [] kR (.refl _ _) (fun D hD => by cases hD) List.nodup_nil fun w3 hs3 => ?_
  exact ⟨rfl, hs3.kept.kept⟩
 exact absurd h12 (by intro hx; simp at hx; exact h0 hx)
end Go.Proofs.Ytcncfmjfgdbfeab
namespace Go.Proofs.Ytcncfmjfgdbfeab
set_option maxRecDepth 100000
set_option maxHeartbeats 8000000
open Go.RowKit
theorem mk_3 {a : Mks} {n : Nod} (h : n.kind = 12) (hs : a.s = true) : mkS a n = ⟨a.f, n.text, true⟩ := by simp [mkS, h, hs]
structure RMX (l : List Nod) (ss : List Nat) where
 i : Nat
 a : Mks
 is : (ss.take i).foldl (fun a p => mkS a (nth l p)) mk0 = a
def RMX.first {l : List Nod} {ss : List Nat} : RMX l ss := ⟨0, mk0, rfl⟩
def RMX.next {l : List Nod} {ss : List Nat} (x : RMX l ss) (h : x.i < ss.length) (b : Mks) (hb : mkS x.a (nth l (ss.getD x.i 0)) = b) : RMX l ss :=
 ⟨x.i + 1, b, by rw [take_snoc h, List.foldl_append, x.is]; exact hb⟩
theorem RMX.done {l : List Nod} {ss : List Nat} (x : RMX l ss) (h : ¬ x.i < ss.length) : ss.foldl (fun a p => mkS a (nth l p)) mk0 = x.a := by
 have := x.is
 rwa [List.take_of_length_le (by omega)] at this
theorem rvcheck_bad (l : List Nod) (bl ol cl : Nat) (v : Int) (hk : checkB l = v) (hv : v ≠ 0) (w : World) (hq : Sat w [] [.row bl ol 19 l.length (rowOf l)] w) :
  Calls Try.prog 27 #[.slice (some ⟨bl, ol, none⟩) l.length cl] w fun e w' => e = .returned (.int .i64 v) ∧ Kept w w' := by
 refine g_enter (args := [.slice (some ⟨bl, ol, none⟩) l.length cl]) [] [.row bl ol 19 l.length (rowOf l)] Try.func27 rfl Try.ntmps27 kL hq ?_
 refine g0 ?_
 refine g_callq _ _ _ ?_ (fun w hs => rcheckv_any l bl ol cl v hk w (hs.read [0] [.row bl ol 19 l.length (rowOf l)] kR)) ?_
 ·kernel_rfl
 refine g0 ?_
 refine g_dec 11 (v != 0) kR (fun h11 => ?_) (fun h11 => ?_)
 ·refine gA [] 1 ?_
  refine gR (Value.int IntKind.i64 v) fun w' hs => ?_
  exact ⟨rfl, hs.kk⟩
 exact absurd h11 (by intro hx; simp at hx; exact hv hx)
theorem rvc_any (l : List Nod) (bl ol cl : Nat) (v : Int) (hv : VC l v) (w : World) (hq : Sat w [] [.row bl ol 19 l.length (rowOf l)] w) :
  Calls Try.prog 27 #[.slice (some ⟨bl, ol, none⟩) l.length cl] w fun e w' => e = .returned (.int .i64 v) ∧ Kept w w' := by
 rcases hv with ⟨h1, h2⟩ | ⟨h1, W, hG, h2⟩
 ·exact rvcheck_bad l bl ol cl v h1 h2 w hq
 exact rvcheck_row l bl ol cl W hG h1 v h2 w hq
theorem rmarks_bad (l : List Nod) (bl ol cl : Nat) (v : Int) (hv : VC l v) (h0 : v ≠ 0) (w : World) (hq : Sat w [] [.row bl ol 19 l.length (rowOf l)] w) :
  Calls Try.prog 10 #[.slice (some ⟨bl, ol, none⟩) l.length cl] w fun e w' => e = .returned (.tuple #[.string ⟨#[]⟩, .string ⟨#[]⟩, .bool false, .int .i64 v]) ∧ Kept w w' := by
 refine g_enter (args := [.slice (some ⟨bl, ol, none⟩) l.length cl]) [] [.row bl ol 19 l.length (rowOf l)] Try.func10 rfl Try.ntmps10 kL hq ?_
 refine g0 ?_
 refine g_callq _ _ _ ?_ (fun w hs => rvc_any l bl ol cl v hv w (hs.read [0] [.row bl ol 19 l.length (rowOf l)] kR)) ?_
 ·kernel_rfl
 refine g0 ?_
 refine g_dec 15 (v != 0) kR (fun h15 => ?_) (fun h15 => ?_)
 ·refine gA [] 1 ?_
  refine gR (Value.tuple (Array.mk [Value.string (ByteArray.mk (Array.mk [])), Value.string (ByteArray.mk (Array.mk [])), Value.bool false, Value.int IntKind.i64 v])) fun w' hs => ?_
  exact ⟨rfl, hs.kk⟩
 exact absurd h15 (by intro hx; simp at hx; exact h0 hx)
theorem rmarks_row (l : List Nod) (bl ol cl : Nat) (W : Wk) (hG : Good l W) (hv : VC l 0) (m : Mks) (hm : marksV l W = m) (w : World) (hq : Sat w [] [.row bl ol 19 l.length (rowOf l)] w) :
  Calls Try.prog 10 #[.slice (some ⟨bl, ol, none⟩) l.length cl] w fun e w' => e = .returned (.tuple #[.string m.f, .string m.la, .bool m.s, .int .i64 0]) ∧ Kept w w' := by
 have hgl := hG.le
 refine Exists.elim (show ∃ n, (startsN l W).length = n from ⟨_, rfl⟩) fun n hn => ?_
 have hnl : n ≤ l.length := by rw [← hn]; exact items_le
 have hbe : ∀ k, k < n → (startsN l W).getD k 0 < l.length := fun k hk => starts_mem hG (by omega)
 have hdone := fun (x : RMX l (startsN l W)) => x.done
 have hmm : (startsN l W).foldl (fun a p => mkS a (nth l p)) mk0 = m := hm
 rw [hmm] at hdone
 refine Exists.elim (show ∃ ss, startsN l W = ss from ⟨_, rfl⟩) fun ss hss => ?_
 rw [hss] at hn hbe hdone hmm
 by_cases hn0 : n = 0
 ·have hm0 : mk0 = m := by
   have : ss = [] := List.length_eq_zero_iff.1 (hn.trans hn0)
   rw [this] at hmm
   exact hmm
  subst hn0
  refine g_enter (args := [.slice (some ⟨bl, ol, none⟩) l.length cl]) [] [.row bl ol 19 l.length (rowOf l)] Try.func10 rfl Try.ntmps10 kL hq ?_
  refine g0 ?_
  refine g_callq _ _ _ ?_ (fun w hs => rvc_any l bl ol cl 0 hv w (hs.read [0] [.row bl ol 19 l.length (rowOf l)] kR)) ?_
  ·kernel_rfl
  refine gA [] 1 ?_
  refine g_call (X := NewI w ss) _ _ ?_ (fun q => .slice q.A 0 q.c) (fun q => [.row bl ol 19 l.length (rowOf l)] ++ [.row q.b 0 1 0 (intR ss)])
   (fun w1 hs => (hss ▸ rstarts_row l bl ol cl W hG hgl 0 (hss ▸ hn) w1 (hs.read [0] [.row bl ol 19 l.length (rowOf l)] kR) : Calls Try.prog 30 #[.slice (some ⟨bl, ol, none⟩) l.length cl] w1 fun e w' => ∃ q : NewI w1 ss, e = .returned (.slice q.A 0 q.c) ∧ Sat w1 [] [.row q.b 0 1 0 (intR ss)] w').mono fun e w2 ⟨q, h1, h2⟩ => ⟨⟨q.A, q.c, q.b, q.ax, fun h => Nat.le_trans hs.kept.size (q.new h)⟩, h1, (hs.at kR).moreRow h2 (fun h => absurd h (Nat.lt_irrefl 0))⟩) (fun q => ?_)
  ·kernel_rfl
  refine g0 ?_
  refine g_unroll 2 kR ?_
  refine gA [] 1 ?_
  refine gR (Value.tuple (Array.mk [Value.string (ByteArray.mk (Array.mk [])), Value.string (ByteArray.mk (Array.mk [])), Value.bool false, Value.int IntKind.i64 0])) fun w' hs => ?_
  exact ⟨by rw [← hm0]; rfl, hs.kk⟩
 refine g_enter (args := [.slice (some ⟨bl, ol, none⟩) l.length cl]) [] [.row bl ol 19 l.length (rowOf l)] Try.func10 rfl Try.ntmps10 kL hq ?_
 refine g0 ?_
 refine g_callq _ _ _ ?_ (fun w hs => rvc_any l bl ol cl 0 hv w (hs.read [0] [.row bl ol 19 l.length (rowOf l)] kR)) ?_
 ·kernel_rfl
 refine gA [] 1 ?_
 refine g_call (X := { q : NewI w ss // q.A = some ⟨q.b, 0, none⟩ }) _ _ ?_ (fun q => .slice (some ⟨q.1.b, 0, none⟩) n q.1.c) (fun q => [.row bl ol 19 l.length (rowOf l)] ++ [.row q.1.b 0 1 n (intR ss)])
  (fun w1 hs => (hss ▸ rstarts_row l bl ol cl W hG hgl n (hss ▸ hn) w1 (hs.read [0] [.row bl ol 19 l.length (rowOf l)] kR) : Calls Try.prog 30 #[.slice (some ⟨bl, ol, none⟩) l.length cl] w1 fun e w' => ∃ q : NewI w1 ss, e = .returned (.slice q.A n q.c) ∧ Sat w1 [] [.row q.b 0 1 n (intR ss)] w').mono fun e w2 ⟨q, h1, h2⟩ => ⟨⟨⟨q.A, q.c, q.b, q.ax, fun h => Nat.le_trans hs.kept.size (q.new h)⟩, q.ax.resolve_left (by omega)⟩, h1.trans (congrArg (fun z => Ending.returned (Value.slice z n q.c)) (q.ax.resolve_left (by omega))), (hs.at kR).moreRow h2 (fun h => q.new (hn ▸ h))⟩) (fun q => ?_)
 ·kernel_rfl
 refine g0 ?_
 refine g_loopN (X := RMX l ss) (fun x => [(7, .string x.a.f), (8, .string x.a.la), (9, .bool x.a.s), (11, .int .i64 ((x.i : Nat) : Int))]) (fun x => [.row bl ol 19 l.length (rowOf l), .row q.1.b 0 1 n (intR ss)]) (fun x => n - x.i) .first kR (by unfold Known; kernel_rfl) kR fun x N hN => ?_
 refine g0 ?_
 refine g_dec 22 (decide ((x.i : Int) < (n : Int))) kR (fun hd => ?_) (fun hd => ?_)
 ·have hx : x.i < n := Int.ofNat_lt.1 (of_decide_eq_true hd)
  have hxs : x.i < ss.length := hn.symm ▸ hx
  have hp : ss.getD x.i 0 < l.length := hbe x.i hx
  have hms : n - (x.i + 1) < n - x.i := Nat.sub_lt_sub_left hx (Nat.lt_succ_self _)
  refine gU 28 [] 1 ?_
  refine g_val _ _ ?_ (fun w _hs => idx_run (P := Try.prog) (T := 41) (E := 3) (b := q.1.b) (o := 0) (n := n) (c := q.1.c) (k := x.i) (sz := 1) (kk := .i64) w kR kR hx) ?_
  ·kernel_rfl
  refine g_val _ _ ?_ (fun w _hs => intLoad (ss := ss) (b := q.1.b) (k := x.i) (n := n) (j := 1) _hs kR hx) ?_
  ·kernel_rfl
  refine g_val _ _ ?_ (fun w _hs => idx_run (P := Try.prog) (T := 22) (E := 55) (b := bl) (o := ol) (n := l.length) (c := cl) (k := ss.getD x.i 0) (sz := 19) (kk := .i64) w kR kR hp) ?_
  ·kernel_rfl
  refine gU 32 [] 0 ?_
  refine g_val _ _ ?_ (fun w _hs => Sat.rowload1 (T := 3) (i := 0) (b := bl) (off := ol) (sz := 19) (n := l.length) (k := ss.getD x.i 0) (j := 0) (f := rowOf l) (v := .int .i64 (nth l (ss.getD x.i 0)).kind) _hs kR hp kR rfl) ?_
  ·kernel_rfl
  refine g0 ?_
  refine g_dec 33 ((nth l (ss.getD x.i 0)).kind != 12) kR (fun h33 => ?_) (fun h33 => ?_)
  ·refine gU 24 [] 1 ?_
   refine g_val _ _ ?_ (fun w _hs => nat_succ (P := Try.prog) (t := 3) (x := .tmp 23) (y := .const (.int .i64 1)) (m := x.i) (w := w) kR (by omega)) ?_
   ·kernel_rfl
   refine g0 ?_
   refine g_take 2 ?_
   refine g_hook (hN (x.next hxs _ (mk_no (by clear hN hdone hbe; simp at *; omega))) hms) kR kR kR (by unfold Known; kernel_rfl) kR kR
  refine gU 37 [] 1 ?_
  refine g_val _ _ ?_ (fun w _hs => idx_run (P := Try.prog) (T := 41) (E := 3) (b := q.1.b) (o := 0) (n := n) (c := q.1.c) (k := x.i) (sz := 1) (kk := .i64) w kR kR hx) ?_
  ·kernel_rfl
  refine g_val _ _ ?_ (fun w _hs => intLoad (ss := ss) (b := q.1.b) (k := x.i) (n := n) (j := 1) _hs kR hx) ?_
  ·kernel_rfl
  refine g_val _ _ ?_ (fun w _hs => idx_run (P := Try.prog) (T := 22) (E := 55) (b := bl) (o := ol) (n := l.length) (c := cl) (k := ss.getD x.i 0) (sz := 19) (kk := .i64) w kR kR hp) ?_
  ·kernel_rfl
  refine gU 41 [] 0 ?_
  refine g_val _ _ ?_ (fun w _hs => Sat.rowload1 (T := 9) (i := 0) (b := bl) (off := ol) (sz := 19) (n := l.length) (k := ss.getD x.i 0) (j := 18) (f := rowOf l) (v := .string (nth l (ss.getD x.i 0)).text) _hs kR hp kR rfl) ?_
  ·kernel_rfl
  refine g0 ?_
  refine g_dec 43 (!x.a.s) kR (fun h43 => ?_) (fun h43 => ?_)
  ·refine gU 24 [] 1 ?_
   refine g_val _ _ ?_ (fun w _hs => nat_succ (P := Try.prog) (t := 3) (x := .tmp 23) (y := .const (.int .i64 1)) (m := x.i) (w := w) kR (by omega)) ?_
   ·kernel_rfl
   refine g0 ?_
   refine g_take 2 ?_
   refine g_hook (hN (x.next hxs _ (mk_1 (by clear hN hdone hbe; simp at *; omega) (by clear hN hdone hbe; simp at *; assumption))) hms) kR kR kR (by unfold Known; kernel_rfl) kR kR
  refine gU 24 [] 1 ?_
  refine g_val _ _ ?_ (fun w _hs => nat_succ (P := Try.prog) (t := 3) (x := .tmp 23) (y := .const (.int .i64 1)) (m := x.i) (w := w) kR (by omega)) ?_
  ·kernel_rfl
  refine g0 ?_
  refine g_take 2 ?_
  refine g_hook (hN (x.next hxs _ (mk_3 (by clear hN hdone hbe; simp at *; omega) (by clear hN hdone hbe; simp at *; assumption))) hms) kR kR kR (by unfold Known; kernel_rfl) kR kR
 have hx : ¬ x.i < ss.length := fun hx => of_decide_eq_false hd (Int.ofNat_lt.2 (hn ▸ hx))
 refine gA [] 1 ?_
 refine gR (Value.tuple (Array.mk [Value.string x.a.f, Value.string x.a.la, Value.bool x.a.s, Value.int IntKind.i64 0])) fun w' hs => ?_
 exact ⟨by rw [hdone x hx], hs.kk⟩
end Go.Proofs.Ytcncfmjfgdbfeab
