/- RPn RLo RunB RNi. -/
import Derived.Test.YtcncfmjfgdbfeabRPr
import Derived.Test.YtcncfmjfgdbfeabRun5
namespace Go.Proofs.Ytcncfmjfgdbfeab
set_option maxRecDepth 100000
set_option maxHeartbeats 8000000
open Go.RowKit
theorem rprune_bad (T : Tp) (l : List Nod) (bl ol cl : Nat) (v : Int) (hv : VC l v) (h0 : v ≠ 0) (w : World) (hq : Sat w [] [.row bl ol 19 l.length (rowOf l)] w) :
  Calls Try.prog 9 #[.slice (some ⟨bl, ol, none⟩) l.length cl, T.v] w fun e w' => e = .returned (.tuple #[.slice none 0 0, .int .i64 v]) ∧ Kept w w' := by
 refine g_enter (args := [.slice (some ⟨bl, ol, none⟩) l.length cl, T.v]) [] [.row bl ol 19 l.length (rowOf l)] Try.func9 rfl Try.ntmps9 kL hq ?_
 refine g0 ?_
 refine gN fun b1 hb1 => ?_
 refine g0 ?_
 refine g_callq _ _ _ ?_ (fun w hs => rvc_any l bl ol cl v hv w (hs.read [0] [.row bl ol 19 l.length (rowOf l)] kR)) ?_
 ·kernel_rfl
 refine g0 ?_
 refine g_dec 11 (v != 0) kR (fun h11 => ?_) (fun h11 => ?_)
 ·refine gA [] 1 ?_
  refine gR (Value.tuple (Array.mk [Value.slice none 0 0, Value.int IntKind.i64 v])) fun w' hs => ?_
  exact ⟨rfl, hs.kk⟩
 exact absurd h11 (by intro hx; simp at hx; exact h0 hx)
theorem rprune_glue (T : Tp) (l : List Nod) (bl ol cl : Nat) (hv : VC l 0) (hf : finB T.nod = false) (w : World) (hq : Sat w [] [.row bl ol 19 l.length (rowOf l)] w) :
  Calls Try.prog 9 #[.slice (some ⟨bl, ol, none⟩) l.length cl, T.v] w fun e w' => e = .returned (.tuple #[.slice none 0 0, .int .i64 30]) ∧ Kept w w' := by
 have hF : ∀ w, Calls Try.prog 28 #[T.v] w fun e w' => e = .returned (.bool false) ∧ Kept w w' := fun w => hf ▸ rtop_any T.nod w
 refine g_enter (args := [.slice (some ⟨bl, ol, none⟩) l.length cl, T.v]) [] [.row bl ol 19 l.length (rowOf l)] Try.func9 rfl Try.ntmps9 kL hq ?_
 refine g0 ?_
 refine gN fun b1 hb1 => ?_
 refine g0 ?_
 refine g_callq _ _ _ ?_ (fun w hs => rvc_any l bl ol cl 0 hv w (hs.read [0] [.row bl ol 19 l.length (rowOf l)] kR)) ?_
 ·kernel_rfl
 refine gA (List.replicate 5 1) 1 ?_
 refine g_callq _ _ _ ?_ (fun w hs => hF w) ?_
 ·kernel_rfl
 refine gA [] 1 ?_
 refine gR (Value.tuple (Array.mk [Value.slice none 0 0, Value.int IntKind.i64 30])) fun w' hs => ?_
 exact ⟨rfl, hs.kk⟩
theorem rprune_big (T : Tp) (l : List Nod) (bl ol cl : Nat) (hcl : l.length ≤ cl) (hv : VC l 0) (hf : finB T.nod = true) (W : Wk) (hG : Good l W) (Z : List Nod) (hZ : prunedV T l W = Z) (hbig : 2000 < Z.length) (w : World) (hq : Sat w [] [.row bl ol 19 l.length (rowOf l)] w) :
  Calls Try.prog 9 #[.slice (some ⟨bl, ol, none⟩) l.length cl, T.v] w fun e w' => PrE Z e w w' := by
 have hF : ∀ w, Calls Try.prog 28 #[T.v] w fun e w' => e = .returned (.bool true) ∧ Kept w w' := fun w => hf ▸ rtop_any T.nod w
 refine g_enter (args := [.slice (some ⟨bl, ol, none⟩) l.length cl, T.v]) [] [.row bl ol 19 l.length (rowOf l)] Try.func9 rfl Try.ntmps9 kL hq ?_
 refine g0 ?_
 refine gN fun b3 hb3 => ?_
 refine g0 ?_
 refine g_callq _ _ _ ?_ (fun w hs => rvc_any l bl ol cl 0 hv w (hs.read [0] [.row bl ol 19 l.length (rowOf l)] kR)) ?_
 ·kernel_rfl
 refine gA (List.replicate 5 1) 1 ?_
 refine g_callq _ _ _ ?_ (fun w hs => hF w) ?_
 ·kernel_rfl
 refine gA (List.replicate 5 1) 1 ?_
 refine g_call (X := { q : KP // q.y = Z }) _ _ ?_ (fun q => .slice q.1.A q.1.n q.1.c) (fun q => [.row bl ol 19 l.length (rowOf l), .obj true b3 T.cs 24, q.1.e])
  (fun w1 hs => (rpruned_row T l bl ol cl W hG hcl Z hZ w1 (hs.read [0] [.row bl ol 19 l.length (rowOf l)] kR)).mono fun e w2 ⟨q, he, hq, hy⟩ => ⟨⟨q, hy⟩, he, (show Sat w [] ([.row bl ol 19 l.length (rowOf l), .obj true b3 T.cs 24] ++ [q.e]) w2 from (Sat.at hs kR).addK q hq)⟩) (fun q => ?_)
 ·kernel_rfl
 have hqn : q.1.n = Z.length := by rw [← q.1.hn, q.2]
 rw [← hqn] at hbig
 refine g0 ?_
 refine g_dec 21 (decide ((↑q.val.n : Int) > 2000)) kR (fun h21 => ?_) (fun h21 => ?_)
 ·refine gA [] 1 ?_
  refine gR (Value.tuple (Array.mk [Value.slice none 0 0, Value.int IntKind.i64 6])) fun w' hs => ?_
  exact ⟨.none, by rw [errP_big (hqn ▸ hbig)]; rfl, (Sat.pick (hp' := []) hs [] (by decide) kR).dummy, by rw [decide_eq_true (hqn ▸ hbig)]; rfl⟩
 exact absurd h21 (by intro hx; simp at hx; omega)
theorem rprune_small (T : Tp) (l : List Nod) (bl ol cl : Nat) (hcl : l.length ≤ cl) (hv : VC l 0) (hf : finB T.nod = true) (W : Wk) (hG : Good l W) (Z : List Nod) (hZ : prunedV T l W = Z) (hbig : ¬ 2000 < Z.length) (w : World) (hq : Sat w [] [.row bl ol 19 l.length (rowOf l)] w) :
  Calls Try.prog 9 #[.slice (some ⟨bl, ol, none⟩) l.length cl, T.v] w fun e w' => PrE Z e w w' := by
 have hF : ∀ w, Calls Try.prog 28 #[T.v] w fun e w' => e = .returned (.bool true) ∧ Kept w w' := fun w => hf ▸ rtop_any T.nod w
 refine g_enter (args := [.slice (some ⟨bl, ol, none⟩) l.length cl, T.v]) [] [.row bl ol 19 l.length (rowOf l)] Try.func9 rfl Try.ntmps9 kL hq ?_
 refine g0 ?_
 refine gN fun b3 hb3 => ?_
 refine g0 ?_
 refine g_callq _ _ _ ?_ (fun w hs => rvc_any l bl ol cl 0 hv w (hs.read [0] [.row bl ol 19 l.length (rowOf l)] kR)) ?_
 ·kernel_rfl
 refine gA (List.replicate 5 1) 1 ?_
 refine g_callq _ _ _ ?_ (fun w hs => hF w) ?_
 ·kernel_rfl
 refine gA (List.replicate 5 1) 1 ?_
 refine g_call (X := { q : KP // q.y = Z }) _ _ ?_ (fun q => .slice q.1.A q.1.n q.1.c) (fun q => [.row bl ol 19 l.length (rowOf l), .obj true b3 T.cs 24, q.1.e])
  (fun w1 hs => (rpruned_row T l bl ol cl W hG hcl Z hZ w1 (hs.read [0] [.row bl ol 19 l.length (rowOf l)] kR)).mono fun e w2 ⟨q, he, hq, hy⟩ => ⟨⟨q, hy⟩, he, (show Sat w [] ([.row bl ol 19 l.length (rowOf l), .obj true b3 T.cs 24] ++ [q.e]) w2 from (Sat.at hs kR).addK q hq)⟩) (fun q => ?_)
 ·kernel_rfl
 have hqn : q.1.n = Z.length := by rw [← q.1.hn, q.2]
 rw [← hqn] at hbig
 refine g0 ?_
 refine g_dec 21 (decide ((↑q.val.n : Int) > 2000)) kR (fun h21 => ?_) (fun h21 => ?_)
 ·exact absurd h21 (by intro hx; simp at hx; omega)
 refine gA [] 1 ?_
 refine gR (Value.tuple (Array.mk [Value.slice q.val.A q.val.n q.val.c, Value.int IntKind.i64 0])) fun w' hs => ?_
 exact ⟨q.1, by rw [errP_small (hqn ▸ hbig)], hs.pick [2] (by decide) kR, by rw [decide_eq_false (hqn ▸ hbig)]; exact q.2⟩
theorem rprune_ok (T : Tp) (l : List Nod) (bl ol cl : Nat) (hcl : l.length ≤ cl) (hv : VC l 0) (hf : finB T.nod = true) (W : Wk) (hG : Good l W) (Z : List Nod) (hZ : prunedV T l W = Z) (w : World) (hq : Sat w [] [.row bl ol 19 l.length (rowOf l)] w) :
  Calls Try.prog 9 #[.slice (some ⟨bl, ol, none⟩) l.length cl, T.v] w fun e w' => PrE Z e w w' := by
 by_cases hbig : 2000 < Z.length
 ·exact rprune_big T l bl ol cl hcl hv hf W hG Z hZ hbig w hq
 exact rprune_small T l bl ol cl hcl hv hf W hG Z hZ hbig w hq
end Go.Proofs.Ytcncfmjfgdbfeab
namespace Go.Proofs.Ytcncfmjfgdbfeab
open Go.RowKit
structure LentO (w0 : World) (l y : List Nod) where
 b : Nat
 cap : Nat
 cs : List Value
 new : w0.heap.size ≤ b
 le : l.length + 2 ≤ cap
 len : cs.length = cap * 19
 row : cs.take (y.length * 19) = rowsL (rowOf y) 0 y.length
set_option maxRecDepth 100000 in
set_option maxHeartbeats 8000000 in
theorem lent_own (A : Option Addr) (l : List Nod) (c bl ol : Nat) (hl : l.length ≤ 879609302195) (hax : l.length = 0 ∨ A = some ⟨bl, ol, none⟩) (y : List Nod) (hy : roomN l = y) (w : World) (hq : Sat w [] [.row bl ol 19 l.length (rowOf l)] w) :
  Calls Try.prog 6 #[.slice A l.length c] w fun e w' => ∃ x : LentO w l y, e = .returned (.slice (some ⟨x.b, 0, none⟩) l.length x.cap) ∧ Sat w [] [.obj true x.b x.cs 55] w' := by
 refine g_enter (args := [.slice A l.length c]) [] [.row bl ol 19 l.length (rowOf l)] Try.func6 rfl Try.ntmps6 kL hq ?_
 refine g0 ?_
 refine gN fun b1 hb1 => ?_
 refine gU 6 [] 0 ?_
 refine g_appendR 1 0 22 55 b1 0 0 19 l.length c 0 bl ol l.length 160 A [] (rowOf l) kR kR (info_of kR) kR rfl (Nat.le_refl _) kR (fun _ => rfl) (rowOf_one l) (by omega) (by simpa using hax) (by omega) (by omega) fun b4 cap4 cs4 _hb4 hc4 hl4 ht4 => ?_
 refine g0 ?_
 refine g_callq _ _ _ ?_ (fun w hs => marker7 w) ?_
 ·kernel_rfl
 refine g_callq _ _ _ ?_ (fun w hs => marker8 w) ?_
 ·kernel_rfl
 refine gN fun b2 hb2 => ?_
 refine g_append 1 2 22 55 55 (some ⟨b4, 0, none⟩) (0 + l.length) cap4 19 2 2 b2 160 cs4 (nodC (markN (-7)) ++ nodC (markN (-8))) true kR kR kR (info_of kR) (rowAt_own kR hl4 hc4) kR rfl two_marks (by omega) (by omega) (by omega) fun b6 cap6 cs6 hb6 hc6 _hl6 ht6 => ?_
 refine gU 15 [] 0 ?_
 refine g_val _ _ ?_ (fun w _hs => front_run (P := Try.prog) (T := 22) (E := 55) (b := b6) (o := 0) (n := 0 + l.length + 2) (c := cap6) (m := l.length) (sz := 19) (kk := .i64) w kR kR (by omega)) ?_
 ·kernel_rfl
 refine g0 ?_
 refine gR (Value.slice (some (Addr.mk b6 0 none)) l.length cap6) fun w' hs => ?_
 exact ⟨⟨b6, cap6, cs6, hb6.resolve_right (by simp), by omega, _hl6, hy ▸ room_take l ht4 ht6⟩, rfl, hs.pick [1] (by decide) kR⟩
theorem rvc_nil (w : World) : Calls Try.prog 27 #[.slice none 0 0] w fun e w' => e = .returned (.int .i64 0) ∧ Kept w w' :=
 Run.closed (P := Try.prog) kR (args := [.slice none 0 0]) (Run.unpack 4096 0 0x0) 3000 (fun A => by kernel_rfl) w
theorem rvc_void (a : Addr) (c : Nat) (w : World) : Calls Try.prog 27 #[.slice (some a) 0 c] w fun e w' => e = .returned (.int .i64 0) ∧ Kept w w' :=
 Run.closed (P := Try.prog) kR (args := [.slice (some a) 0 c]) (Run.unpack 4096 0 0x0) 3000 (fun A => by kernel_rfl) w
theorem rmarks_nil (w : World) : Calls Try.prog 10 #[.slice none 0 0] w fun e w' => e = .returned (.tuple #[.string ⟨#[]⟩, .string ⟨#[]⟩, .bool false, .int .i64 0]) ∧ Kept w w' :=
 Run.closed (P := Try.prog) kR (args := [.slice none 0 0]) (Run.unpack 4096 0 0x0) 3000 (fun A => by kernel_rfl) w
theorem rmarks_void (a : Addr) (c : Nat) (w : World) : Calls Try.prog 10 #[.slice (some a) 0 c] w fun e w' => e = .returned (.tuple #[.string ⟨#[]⟩, .string ⟨#[]⟩, .bool false, .int .i64 0]) ∧ Kept w w' :=
 Run.closed (P := Try.prog) kR (args := [.slice (some a) 0 c]) (Run.unpack 4096 0 0x0) 3000 (fun A => by kernel_rfl) w
theorem rstarts_nil (w : World) : Calls Try.prog 30 #[.slice none 0 0] w fun e w' => e = .returned (.slice none 0 0) ∧ Kept w w' :=
 Run.closed (P := Try.prog) kR (args := [.slice none 0 0]) (Run.unpack 4096 0 0x0) 3000 (fun A => by kernel_rfl) w
theorem rstarts_void (a : Addr) (c : Nat) (w : World) : Calls Try.prog 30 #[.slice (some a) 0 c] w fun e w' => e = .returned (.slice none 0 0) ∧ Kept w w' :=
 Run.closed (P := Try.prog) kR (args := [.slice (some a) 0 c]) (Run.unpack 4096 0 0x0) 3000 (fun A => by kernel_rfl) w
end Go.Proofs.Ytcncfmjfgdbfeab
namespace Go.Proofs.Ytcncfmjfgdbfeab
open Go.RowKit
noncomputable section
namespace Run
variable {P : Program}
def memB (b : Nat) (cs : List Value) (E : TypeId) (hs : List Nat) : Mem := ⟨.node (some ⟨false, b, .cells (L.ofList cs) E⟩) .nil .nil, 1, 0, hs, [], []⟩
theorem closedB (hmix : P.follows .mixedOrders = true) {f : FuncId} {args : List Value} {v : Value} (hs : List Nat) (n b : Nat) (cs : List Value) (E : TypeId)
  (h : ∀ A : Nat → Nat, (match (recN P false n).fn f args A (memB b cs E hs) with
   | some (u, m) => some (u, m.eqs.map fun (c : List (Nat × Nat)) => c.map Prod.fst)
   | none => none) = (match (recN P false n).fn f args A (memB b cs E hs) with
   | some (_, m) => some (v, m.eqs.map fun (c : List (Nat × Nat)) => c.map Prod.snd)
   | none => some (v, [[0]]))) (w : World) (hb : w.heap[b]? = some (.cells cs.toArray E (0, 0))) :
  Calls P f args.toArray w fun e w' => e = .returned v ∧ Kept w w' := by
 have S := sound P hmix n
 have he : Ends ((recN P false n).fn f args) (fun _ => 0) (memB b cs E hs) fun _ u _ => u = v := fun A _ => by
  have := h A
  split at this
  ·rename_i u m hr
   simp only [Option.some.injEq, Prod.mk.injEq] at this
   refine ⟨u, m, hr, fun c hc => ?_, this.1⟩
   refine AllEq.of_map ?_
   have h2 : ∀ (l : List (List (Nat × Nat))), (l.map fun (c : List (Nat × Nat)) => c.map Prod.fst) = (l.map fun (c : List (Nat × Nat)) => c.map Prod.snd) → ∀ c ∈ l, c.map Prod.fst = c.map Prod.snd := by
    intro l
    induction l with
    | nil => intro _ c hc; cases hc
    | cons d l ih =>
     intro h c hc
     simp only [List.map_cons, List.cons.injEq] at h
     rcases List.mem_cons.1 hc with rfl | hc
     ·exact h.1
     exact ih h.2 c hc
   exact h2 _ this.2 c hc
  cases this
 have hg : ∀ i e, (memB b cs E hs).hp.get i = some e → e = ⟨false, b, .cells (L.ofList cs) E⟩ := fun i e hi => by
  cases i with
  | zero => simp only [memB, T.get_zero, Option.some.injEq] at hi; exact hi.symm
  | succ i => simp only [memB, T.get_succ, T.get_nil] at hi; cases hz : Nat.beq (i % 2) 0 <;> rw [hz] at hi <;> cases hi
 have h0 : SatR ⟨w, []⟩ (memB b cs E hs).hp w := ⟨Kept.refl w, fun i e hi => by rw [hg i e hi]; exact ⟨_, hb, by simp [MK.ok]⟩, fun i e hi ho => by rw [hg i e hi] at ho; (cases ho), fun i j e e' _ hi _ ho => by rw [hg i e hi] at ho; (cases ho), fun p hp => (by cases hp), fun p hp => (by cases hp)⟩
 refine (S.fn h0 he).mono ?_
 rintro e w' ⟨u, A, m', rfl, h5, rfl⟩
 exact ⟨rfl, h5.kept⟩
end Run
end
end Go.Proofs.Ytcncfmjfgdbfeab
namespace Go.Proofs.Ytcncfmjfgdbfeab
set_option maxRecDepth 100000
set_option maxHeartbeats 8000000
open Go.RowKit
theorem rpruned_nil (T : Tp) (w : World) : Calls Try.prog 29 #[.slice none 0 0, T.v] w fun e w' => e = .returned (.slice none 0 0) ∧ Kept w w' := by
 refine g_enter (args := [.slice none 0 0, T.v]) [] [] Try.func29 rfl Try.ntmps29 kL (sat0 w) ?_
 refine g0 ?_
 refine gN fun b0 hb0 => ?_
 refine g0 ?_
 refine g_callq _ _ _ ?_ (fun w hs => rstarts_nil w) ?_
 ·kernel_rfl
 refine g0 ?_
 refine g_unroll 2 kR ?_
 refine gA [] 1 ?_
 refine gR (Value.slice none 0 0) fun w' hs => ?_
 exact ⟨rfl, hs.kk⟩
theorem rprune_nil_true (T : Tp) (hf : finB T.nod = true) (w : World) : Calls Try.prog 9 #[.slice none 0 0, T.v] w fun e w' => e = .returned (.tuple #[.slice none 0 0, .int .i64 0]) ∧ Kept w w' := by
 have hF : ∀ w, Calls Try.prog 28 #[T.v] w fun e w' => e = .returned (.bool true) ∧ Kept w w' := fun w => hf ▸ rtop_any T.nod w
 refine g_enter (args := [.slice none 0 0, T.v]) [] [] Try.func9 rfl Try.ntmps9 kL (sat0 w) ?_
 refine g0 ?_
 refine gN fun b0 hb0 => ?_
 refine g0 ?_
 refine g_callq _ _ _ ?_ (fun w hs => rvc_nil w) ?_
 ·kernel_rfl
 refine gA (List.replicate 5 0) 1 ?_
 refine g_callq _ _ _ ?_ (fun w hs => hF w) ?_
 ·kernel_rfl
 refine gA (List.replicate 5 0) 1 ?_
 refine g_callq _ _ _ ?_ (fun w hs => rpruned_nil T w) ?_
 ·kernel_rfl
 refine gA [] 1 ?_
 refine gR (Value.tuple (Array.mk [Value.slice none 0 0, Value.int IntKind.i64 0])) fun w' hs => ?_
 exact ⟨rfl, hs.kk⟩
theorem rprune_nil_false (T : Tp) (hf : finB T.nod = false) (w : World) : Calls Try.prog 9 #[.slice none 0 0, T.v] w fun e w' => e = .returned (.tuple #[.slice none 0 0, .int .i64 30]) ∧ Kept w w' := by
 have hF : ∀ w, Calls Try.prog 28 #[T.v] w fun e w' => e = .returned (.bool false) ∧ Kept w w' := fun w => hf ▸ rtop_any T.nod w
 refine g_enter (args := [.slice none 0 0, T.v]) [] [] Try.func9 rfl Try.ntmps9 kL (sat0 w) ?_
 refine g0 ?_
 refine gN fun b0 hb0 => ?_
 refine g0 ?_
 refine g_callq _ _ _ ?_ (fun w hs => rvc_nil w) ?_
 ·kernel_rfl
 refine gA (List.replicate 5 0) 1 ?_
 refine g_callq _ _ _ ?_ (fun w hs => hF w) ?_
 ·kernel_rfl
 refine gA [] 1 ?_
 refine gR (Value.tuple (Array.mk [Value.slice none 0 0, Value.int IntKind.i64 30])) fun w' hs => ?_
 exact ⟨rfl, hs.kk⟩
theorem rpruned_void (a : Addr) (c : Nat) (T : Tp) (w : World) : Calls Try.prog 29 #[.slice (some a) 0 c, T.v] w fun e w' => e = .returned (.slice none 0 0) ∧ Kept w w' := by
 refine g_enter (args := [.slice (some a) 0 c, T.v]) [] [] Try.func29 rfl Try.ntmps29 kL (sat0 w) ?_
 refine g0 ?_
 refine gN fun b0 hb0 => ?_
 refine g0 ?_
 refine g_callq _ _ _ ?_ (fun w hs => rstarts_void a c w) ?_
 ·kernel_rfl
 refine g0 ?_
 refine g_unroll 2 kR ?_
 refine gA [] 1 ?_
 refine gR (Value.slice none 0 0) fun w' hs => ?_
 exact ⟨rfl, hs.kk⟩
theorem rprune_void_true (a : Addr) (c : Nat) (T : Tp) (hf : finB T.nod = true) (w : World) : Calls Try.prog 9 #[.slice (some a) 0 c, T.v] w fun e w' => e = .returned (.tuple #[.slice none 0 0, .int .i64 0]) ∧ Kept w w' := by
 have hF : ∀ w, Calls Try.prog 28 #[T.v] w fun e w' => e = .returned (.bool true) ∧ Kept w w' := fun w => hf ▸ rtop_any T.nod w
 refine g_enter (args := [.slice (some a) 0 c, T.v]) [] [] Try.func9 rfl Try.ntmps9 kL (sat0 w) ?_
 refine g0 ?_
 refine gN fun b0 hb0 => ?_
 refine g0 ?_
 refine g_callq _ _ _ ?_ (fun w hs => rvc_void a c w) ?_
 ·kernel_rfl
 refine gA (List.replicate 5 0) 1 ?_
 refine g_callq _ _ _ ?_ (fun w hs => hF w) ?_
 ·kernel_rfl
 refine gA (List.replicate 5 0) 1 ?_
 refine g_callq _ _ _ ?_ (fun w hs => rpruned_void a c T w) ?_
 ·kernel_rfl
 refine gA [] 1 ?_
 refine gR (Value.tuple (Array.mk [Value.slice none 0 0, Value.int IntKind.i64 0])) fun w' hs => ?_
 exact ⟨rfl, hs.kk⟩
theorem rprune_void_false (a : Addr) (c : Nat) (T : Tp) (hf : finB T.nod = false) (w : World) : Calls Try.prog 9 #[.slice (some a) 0 c, T.v] w fun e w' => e = .returned (.tuple #[.slice none 0 0, .int .i64 30]) ∧ Kept w w' := by
 have hF : ∀ w, Calls Try.prog 28 #[T.v] w fun e w' => e = .returned (.bool false) ∧ Kept w w' := fun w => hf ▸ rtop_any T.nod w
 refine g_enter (args := [.slice (some a) 0 c, T.v]) [] [] Try.func9 rfl Try.ntmps9 kL (sat0 w) ?_
 refine g0 ?_
 refine gN fun b0 hb0 => ?_
 refine g0 ?_
 refine g_callq _ _ _ ?_ (fun w hs => rvc_void a c w) ?_
 ·kernel_rfl
 refine gA (List.replicate 5 0) 1 ?_
 refine g_callq _ _ _ ?_ (fun w hs => hF w) ?_
 ·kernel_rfl
 refine gA [] 1 ?_
 refine gR (Value.tuple (Array.mk [Value.slice none 0 0, Value.int IntKind.i64 30])) fun w' hs => ?_
 exact ⟨rfl, hs.kk⟩
theorem apart0 (bS : Nat) (w : World) (hb : w.heap[bS]? = some (.cells ([.slice none 0 0] : List Value).toArray 22 (0, 0))) : Calls Try.prog 16 #[.slice (some ⟨bS, 0, none⟩) 1 1] w fun e w' => e = .returned (.bool true) ∧ Kept w w' :=
 Run.closedB (P := Try.prog) kR (args := [.slice (some ⟨bS, 0, none⟩) 1 1]) (Run.unpack 4096 330 0x2c00302c00100102c00302c00100102c00302c00100102c00302c00100102c00302c00100100002c00302c00100102c00302c00100102c00302c00100102c00302c00100102c00302c00100102c00302c00100102c00302c00100102c00302c00100102c00302c00100102c00302c00100100002c00302c00100102c00302c00100102c00302c00100102c00302c00100102c00302c00100102c00302c00100102c00302c00100102c00302c00100102c00302c00100102c00302c00100100002c00302c00100102c00302c00100102c00302c00100102c00302c00100102c00302c00100102c00302c00100102c00302c00100102c00302c00100102c00302c00100102c00302c00100100002c00302c00100102c00302c00100102c00302c00100102c00302c00100102c00302c00100102c02b00200302a00300302900300302800300302700300302600300302500300302400300300002300300302200300302100300302000300301f00300301e00300301d00300301c00300301b00300301a00300301900300301800300301700300301600300301500300301400300301300300000301200300301100300301000300300f00300300e00300300d00300300c00300300b00300300a003003009003003008003003007003003006003003005003003004003002002001001) 3000 bS [.slice none 0 0] 22 (fun A => by kernel_rfl) w hb
end Go.Proofs.Ytcncfmjfgdbfeab
