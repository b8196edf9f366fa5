/- NodesJoined's walk. -/
import Derived.Test.YtnpccfcplgonkaaNodLst
namespace Go.Proofs.Ytnpccfcplgonkaa
open Go.RowKit

theorem rows_eq {f g : Nat → List Value} {s t m : Nat} (h : ∀ q, q < m → f (s + q) = g (t + q)) : rowsL f s m = rowsL g t m := by
  induction m with
  | zero => simp [rowsL]
  | succ m ih => rw [rowsL_succ, rowsL_succ, ih (fun q hq => h q (by omega)), h m (by omega)]
theorem rows_two (f : Nat → List Value) (s m n : Nat) : rowsL f s (m + n) = rowsL f s m ++ rowsL f (s + m) n := by
  induction n with
  | zero => simp [rowsL]
  | succ n ih => rw [← Nat.add_assoc, rowsL_succ, ih, rowsL_succ, List.append_assoc, Nat.add_assoc]
theorem rows_join (a b : List Nod) : rowsL (rowOf a) 0 a.length ++ rowsL (rowOf b) 0 b.length = rowsL (rowOf (a ++ b)) 0 (a ++ b).length := by
  rw [List.length_append, rows_two]
  congr 1
  · exact rows_eq fun q hq => by simp only [rowOf, Nat.zero_add]; rw [nth_left hq]
  · exact rows_eq fun q _ => by simp only [rowOf, Nat.zero_add]; rw [Nat.add_comm a.length q, nth_right]
theorem join_take {a b : List Nod} {cs3 cs4 : List Value} (h3 : cs3.take ((0 + a.length) * 19) = ([] : List Value).take (0 * 19) ++ rowsL (rowOf a) 0 a.length) (h4 : cs4.take ((0 + a.length + b.length) * 19) = cs3.take ((0 + a.length) * 19) ++ rowsL (rowOf b) 0 b.length) :
    cs4.take ((a ++ b).length * 19) = rowsL (rowOf (a ++ b)) 0 (a ++ b).length := by
  rw [show (a ++ b).length * 19 = (0 + a.length + b.length) * 19 by simp, h4, h3, ← rows_join]
  simp
theorem jb1 {n : Nat} (_h : n ≤ 2000) : 0 + n ≤ n := by omega
theorem jb2 {n : Nat} (h : n ≤ 2000) : 0 + n ≤ 9223372036854775807 := by omega
theorem jb3 {n : Nat} (h : n ≤ 2000) : (0 + n) * 160 ≤ 140737488355328 := by omega
theorem jb4 {n m : Nat} (h : n ≤ 2000) (h' : m ≤ 2000) : 0 + n + m ≤ 9223372036854775807 := by omega
theorem jb5 {n m : Nat} (h : n ≤ 2000) (h' : m ≤ 2000) : (0 + n + m) * 160 ≤ 140737488355328 := by omega
theorem jlen (a b : List Nod) : 0 + a.length + b.length = (a ++ b).length := by simp
theorem zero_of {e : Int} (h : (e != 0) = false) : e = 0 := by simpa using h
theorem nat_eq {r p q : Acc} (h : r = addA p q) : (r.nat == IntKind.i64.wrap (p.nat + q.nat)) = true := by subst h; simp [addA, wr]
theorem no_m0 {r p q : Acc} (h : r = addA p q) : ¬ (r.m0 != IntKind.i64.wrap (p.m0 + q.m0)) = true := by subst h; simp [addA, wr]
theorem no_m1 {r p q : Acc} (h : r = addA p q) : ¬ (r.m1 != IntKind.i64.wrap (p.m1 + q.m1)) = true := by subst h; simp [addA, wr]
theorem no_m2 {r p q : Acc} (h : r = addA p q) : ¬ (r.m2 != IntKind.i64.wrap (p.m2 + q.m2)) = true := by subst h; simp [addA, wr]
theorem no_m3 {r p q : Acc} (h : r = addA p q) : ¬ (r.m3 != IntKind.i64.wrap (p.m3 + q.m3)) = true := by subst h; simp [addA, wr]
theorem no_l0 {r p q : Acc} (h : r = addA p q) : ¬ (r.l0 != IntKind.i64.wrap (p.l0 + q.l0)) = true := by subst h; simp [addA, wr]
theorem no_l1 {r p q : Acc} (h : r = addA p q) : ¬ (r.l1 != IntKind.i64.wrap (p.l1 + q.l1)) = true := by subst h; simp [addA, wr]
theorem no_l2 {r p q : Acc} (h : r = addA p q) : ¬ (r.l2 != IntKind.i64.wrap (p.l2 + q.l2)) = true := by subst h; simp [addA, wr]
theorem no_l3 {r p q : Acc} (h : r = addA p q) : ¬ (r.l3 != IntKind.i64.wrap (p.l3 + q.l3)) = true := by subst h; simp [addA, wr]
set_option maxRecDepth 100000 in
set_option maxHeartbeats 4000000 in
theorem join_bad1 (A B : Option Addr) (a b : List Nod) (ca cb bla ola blb olb : Nat) (d : Bool) (w : World) (hA : Lst w A a ca bla ola) (_hB : Lst w B b cb blb olb) (v : Int) (hv : checkB a = v) (h0 : v ≠ 0) :
    Calls Try.prog 12 #[.slice A a.length ca, .slice B b.length cb, .bool d] w fun e w' => e = .returned (.bool true) ∧ Kept w w' := by
  refine g_enter (args := [.slice A a.length ca, .slice B b.length cb, .bool d]) [] [] Try.func12 rfl Try.ntmps12 (Nat.le_of_ble_eq_true (by kernel_rfl)) (sat0 w) ?_
  refine g_run 9999 [] 0 (by kernel_rfl) ?_
  refine g_callq _ _ _ ?_ (fun w hs => hA.chk w hs.kept.kept v hv) ?_
  · kernel_rfl
  refine g_callq _ _ _ ?_ (fun w hs => num5_any v w) ?_
  · kernel_rfl
  refine g_run 9999 [] 0 (by kernel_rfl) ?_
  refine g_dec 25 (v != 0) (by kernel_rfl) (fun h25 => ?_) (fun h25 => ?_)
  · refine g_run 9999 [] 13 (by kernel_rfl) ?_
    refine g_callq _ _ _ ?_ (fun w hs => knows5_any w) ?_
    · kernel_rfl
    refine g_run 9999 [] 0 (by kernel_rfl) ?_
    refine g_ret [] (Value.bool true) (by kernel_rfl) (by kernel_rfl) (by kernel_rfl) fun w' hs => ?_
    exact ⟨rfl, hs.kept.kept⟩
  · exact absurd h25 (by clear hA _hB; intro hx; first | (simp [h0] at hx; done) | (simp at hx; omega))
set_option maxRecDepth 100000 in
set_option maxHeartbeats 4000000 in
theorem join_bad2 (A B : Option Addr) (a b : List Nod) (ca cb bla ola blb olb : Nat) (d : Bool) (w : World) (hA : Lst w A a ca bla ola) (hB : Lst w B b cb blb olb) (v : Int) (ha : checkB a = 0) (hv : checkB b = v) (h0 : v ≠ 0) :
    Calls Try.prog 12 #[.slice A a.length ca, .slice B b.length cb, .bool d] w fun e w' => e = .returned (.bool true) ∧ Kept w w' := by
  refine g_enter (args := [.slice A a.length ca, .slice B b.length cb, .bool d]) [] [] Try.func12 rfl Try.ntmps12 (Nat.le_of_ble_eq_true (by kernel_rfl)) (sat0 w) ?_
  refine g_run 9999 [] 0 (by kernel_rfl) ?_
  refine g_callq _ _ _ ?_ (fun w hs => hA.chk w hs.kept.kept 0 ha) ?_
  · kernel_rfl
  refine g_callq _ _ _ ?_ (fun w hs => num5_any 0 w) ?_
  · kernel_rfl
  refine g_run 9999 [] 1 (by kernel_rfl) ?_
  refine g_callq _ _ _ ?_ (fun w hs => hB.chk w hs.kept.kept v hv) ?_
  · kernel_rfl
  refine g_callq _ _ _ ?_ (fun w hs => num5_any v w) ?_
  · kernel_rfl
  refine g_run 9999 [] 1 (by kernel_rfl) ?_
  refine g_dec 31 (v != 0) (by kernel_rfl) (fun h31 => ?_) (fun h31 => ?_)
  · refine g_run 9999 [] 9 (by kernel_rfl) ?_
    refine g_callq _ _ _ ?_ (fun w hs => knows5_any w) ?_
    · kernel_rfl
    refine g_run 9999 [] 0 (by kernel_rfl) ?_
    refine g_ret [] (Value.bool true) (by kernel_rfl) (by kernel_rfl) (by kernel_rfl) fun w' hs => ?_
    exact ⟨rfl, hs.kept.kept⟩
  · exact absurd h31 (by clear hA hB; intro hx; first | (simp [h0] at hx; done) | (simp at hx; omega))
set_option maxRecDepth 100000 in
set_option maxHeartbeats 4000000 in
theorem join_bad3 (A B : Option Addr) (a b : List Nod) (ca cb bla ola blb olb : Nat) (d : Bool) (w : World) (hA : Lst w A a ca bla ola) (hB : Lst w B b cb blb olb) (ha : checkB a = 0) (hb : checkB b = 0) (hl : decide (IntKind.i64.wrap ((a.length : Int) + (b.length : Int)) > 2000) = true) :
    Calls Try.prog 12 #[.slice A a.length ca, .slice B b.length cb, .bool d] w fun e w' => e = .returned (.bool true) ∧ Kept w w' := by
  refine g_enter (args := [.slice A a.length ca, .slice B b.length cb, .bool d]) [] [] Try.func12 rfl Try.ntmps12 (Nat.le_of_ble_eq_true (by kernel_rfl)) (sat0 w) ?_
  refine g_run 9999 [] 0 (by kernel_rfl) ?_
  refine g_callq _ _ _ ?_ (fun w hs => hA.chk w hs.kept.kept 0 ha) ?_
  · kernel_rfl
  refine g_callq _ _ _ ?_ (fun w hs => num5_any 0 w) ?_
  · kernel_rfl
  refine g_run 9999 [] 1 (by kernel_rfl) ?_
  refine g_callq _ _ _ ?_ (fun w hs => hB.chk w hs.kept.kept 0 hb) ?_
  · kernel_rfl
  refine g_callq _ _ _ ?_ (fun w hs => num5_any 0 w) ?_
  · kernel_rfl
  refine g_run 9999 [] 7 (by kernel_rfl) ?_
  refine g_dec 39 (decide (IntKind.i64.wrap ((↑a.length : Int) + (↑b.length : Int)) > 2000)) (by kernel_rfl) (fun h39 => ?_) (fun h39 => ?_)
  · refine g_run 9999 [] 3 (by kernel_rfl) ?_
    refine g_callq _ _ _ ?_ (fun w hs => knows5_any w) ?_
    · kernel_rfl
    refine g_run 9999 [] 0 (by kernel_rfl) ?_
    refine g_ret [] (Value.bool true) (by kernel_rfl) (by kernel_rfl) (by kernel_rfl) fun w' hs => ?_
    exact ⟨rfl, hs.kept.kept⟩
  · exact absurd h39 (by clear hA hB; intro hx; rw [hl] at hx; exact Bool.noConfusion hx)
set_option maxRecDepth 100000 in
set_option maxHeartbeats 40000000 in
theorem join_good (A B : Option Addr) (a b : List Nod) (ca cb bla ola blb olb : Nat) (d : Bool) (w : World) (hA : Lst w A a ca bla ola) (hB : Lst w B b cb blb olb) (hAB : Sat w [] [.row bla ola 19 a.length (rowOf a), .row blb olb 19 b.length (rowOf b)] w)
    (ha : checkB a = 0) (hb : checkB b = 0) (hc : checkB (a ++ b) = 0) (hl : decide (IntKind.i64.wrap ((a.length : Int) + (b.length : Int)) > 2000) = false) (hca : a.length ≤ 2000) (hcb : b.length ≤ 2000) (na nb nc : Nat) (hca2 : ∀ w', Kept w w' → Calls Try.prog 47 #[.slice A a.length ca] w' fun e w2 => e = .returned (.tuple #[.int .i64 (na : Int), .int .i64 0]) ∧ Kept w' w2) (hcb2 : ∀ w', Kept w w' → Calls Try.prog 47 #[.slice B b.length cb] w' fun e w2 => e = .returned (.tuple #[.int .i64 (nb : Int), .int .i64 0]) ∧ Kept w' w2) (hcc : ∀ bl cl w', Sat w' [] [.row bl 0 19 (a ++ b).length (rowOf (a ++ b))] w' → Calls Try.prog 47 #[.slice (some ⟨bl, 0, none⟩) (a ++ b).length cl] w' fun e w2 => e = .returned (.tuple #[.int .i64 (nc : Int), .int .i64 0]) ∧ Kept w' w2) (hn : ((nc : Int) != IntKind.i64.wrap ((na : Int) + (nb : Int))) = false)
    (p q r : Acc) (ep eq er : Int) (hta : ∀ w', Kept w w' → Calls Try.prog 41 #[.slice A a.length ca, .bool d] w' fun e w2 => e = .returned (.tuple #[totV p, .int .i64 ep]) ∧ Kept w' w2) (htb : ∀ w', Kept w w' → Calls Try.prog 41 #[.slice B b.length cb, .bool d] w' fun e w2 => e = .returned (.tuple #[totV q, .int .i64 eq]) ∧ Kept w' w2) (htc : ∀ bl cl w', Sat w' [] [.row bl 0 19 (a ++ b).length (rowOf (a ++ b))] w' → Calls Try.prog 41 #[.slice (some ⟨bl, 0, none⟩) (a ++ b).length cl, .bool d] w' fun e w2 => e = .returned (.tuple #[totV r, .int .i64 er]) ∧ Kept w' w2) (hj : ep = 0 → eq = 0 → er = 0 → r = addA p q) :
    Calls Try.prog 12 #[.slice A a.length ca, .slice B b.length cb, .bool d] w fun e w' => e = .returned (.bool true) ∧ Kept w w' := by
  refine g_enter (args := [.slice A a.length ca, .slice B b.length cb, .bool d]) [] [.row bla ola 19 a.length (rowOf a), .row blb olb 19 b.length (rowOf b)] Try.func12 rfl Try.ntmps12 (Nat.le_of_ble_eq_true (by kernel_rfl)) hAB ?_
  refine g_run 9999 [] 0 (by kernel_rfl) ?_
  refine g_callq _ _ _ ?_ (fun w hs => hA.chk w hs.kept.kept 0 ha) ?_
  · kernel_rfl
  refine g_callq _ _ _ ?_ (fun w hs => num5_any 0 w) ?_
  · kernel_rfl
  refine g_run 9999 [] 1 (by kernel_rfl) ?_
  refine g_callq _ _ _ ?_ (fun w hs => hB.chk w hs.kept.kept 0 hb) ?_
  · kernel_rfl
  refine g_callq _ _ _ ?_ (fun w hs => num5_any 0 w) ?_
  · kernel_rfl
  refine g_run 9999 [] 7 (by kernel_rfl) ?_
  refine g_dec 39 (decide (IntKind.i64.wrap ((↑a.length : Int) + (↑b.length : Int)) > 2000)) (by kernel_rfl) (fun h39 => ?_) (fun h39 => ?_)
  · exact absurd h39 (by clear hA hB hAB; intro hx; rw [hl] at hx; exact Bool.noConfusion hx)
  · refine g_callq _ _ _ ?_ (fun w hs => knows5_any w) ?_
    · kernel_rfl
    refine g_run 9999 [] 2 (by kernel_rfl) ?_
    refine g_new (fun b => by kernel_rfl) fun b2 hb2 => ?_
    refine g_run 46 [] 0 (by kernel_rfl) ?_
    refine g_appendR 2 0 59 63 b2 0 0 19 a.length ca 0 bla ola a.length 160 A [] (rowOf a) (by kernel_rfl) (by kernel_rfl) (info_of (by kernel_rfl)) (by kernel_rfl) rfl (Nat.le_refl _) (by kernel_rfl) (fun _ => rfl) (rowOf_one a) (jb1 hca) hA.ax (jb2 hca) (jb3 hca) fun b3 cap3 cs3 _hb3 hc3 hl3 ht3 => ?_
    refine g_run 48 [] 0 (by kernel_rfl) ?_
    refine g_appendR 2 1 59 63 b3 (0 + a.length) cap3 19 b.length cb 0 blb olb b.length 160 B cs3 (rowOf b) (by kernel_rfl) (by kernel_rfl) (info_of (by kernel_rfl)) (by kernel_rfl) hl3 hc3 (by kernel_rfl) (fun _ => rfl) (rowOf_one b) (jb1 hcb) hB.ax (jb4 hca hcb) (jb5 hca hcb) fun b4 cap4 cs4 _hb4 _hc4 _hl4 ht4 => ?_
    refine g_run 7 [] 0 (by kernel_rfl) ?_
    refine g_val _ _ ?_ (fun w _hs => any_run (P := Try.prog) (s := Sem.pure (.value (.slice (some ⟨b4, 0, none⟩) (0 + a.length + b.length) cap4))) (v := .slice (some ⟨b4, 0, none⟩) (0 + a.length + b.length) cap4) (v' := .slice (some ⟨b4, 0, none⟩) (a ++ b).length cap4) (by kernel_rfl) (by rw [jlen])) ?_
    · kernel_rfl
    refine g_run 9999 [] 0 (by kernel_rfl) ?_
    refine g_callq _ _ _ ?_ (fun w hs => hca2 w hs.kept.kept) ?_
    · kernel_rfl
    refine g_run 9999 [] 0 (by kernel_rfl) ?_
    refine g_callq _ _ _ ?_ (fun w hs => hcb2 w hs.kept.kept) ?_
    · kernel_rfl
    refine g_run 9999 [] 0 (by kernel_rfl) ?_
    refine g_callq _ _ _ ?_ (fun w hs => hcc b4 cap4 w (hs.asRow (i := 2) (o := true) (cs := cs4) (E := 63) (by kernel_rfl) (fun _ => rfl) (join_take ht3 ht4))) ?_
    · kernel_rfl
    refine g_run 9999 [] 0 (by kernel_rfl) ?_
    refine g_callq _ _ _ ?_ (fun w hs => num5_any 0 w) ?_
    · kernel_rfl
    refine g_run 9999 [] 0 (by kernel_rfl) ?_
    refine g_callq _ _ _ ?_ (fun w hs => num5_any 0 w) ?_
    · kernel_rfl
    refine g_run 9999 [] 0 (by kernel_rfl) ?_
    refine g_callq _ _ _ ?_ (fun w hs => num5_any 0 w) ?_
    · kernel_rfl
    refine g_run 9999 [] 5 (by kernel_rfl) ?_
    refine g_dec 80 ((nc : Int) != IntKind.i64.wrap ((na : Int) + (nb : Int))) (by kernel_rfl) (fun h80 => ?_) (fun h80 => ?_)
    · exact absurd h80 (by clear hA hB hAB; intro hx; rw [hn] at hx; exact Bool.noConfusion hx)
    refine g_run 9999 [] 1 (by kernel_rfl) ?_
    refine g_callq _ _ _ ?_ (fun w hs => checkv_any (a ++ b) b4 0 cap4 w 0 hc (hs.asRow (i := 2) (o := true) (cs := cs4) (E := 63) (by kernel_rfl) (fun _ => rfl) (join_take ht3 ht4))) ?_
    · kernel_rfl
    refine g_callq _ _ _ ?_ (fun w hs => num5_any 0 w) ?_
    · kernel_rfl
    refine g_run 9999 [] 2 (by kernel_rfl) ?_
    refine g_callq _ _ _ ?_ (fun w hs => hta w hs.kept.kept) ?_
    · kernel_rfl
    refine g_run 9999 [] 0 (by kernel_rfl) ?_
    refine g_new (fun b => by kernel_rfl) fun p3 _hp3 => ?_
    refine g_run 9999 (List.replicate 9 3) 0 (by kernel_rfl) ?_
    refine g_callq _ _ _ ?_ (fun w hs => htb w hs.kept.kept) ?_
    · kernel_rfl
    refine g_run 9999 [] 0 (by kernel_rfl) ?_
    refine g_new (fun b => by kernel_rfl) fun p4 _hp4 => ?_
    refine g_run 9999 (List.replicate 9 4) 0 (by kernel_rfl) ?_
    refine g_callq _ _ _ ?_ (fun w hs => htc b4 cap4 w (hs.asRow (i := 2) (o := true) (cs := cs4) (E := 63) (by kernel_rfl) (fun _ => rfl) (join_take ht3 ht4))) ?_
    · kernel_rfl
    refine g_run 9999 [] 0 (by kernel_rfl) ?_
    refine g_new (fun b => by kernel_rfl) fun p5 _hp5 => ?_
    refine g_run 9999 (List.replicate 9 5) 0 (by kernel_rfl) ?_
    refine g_callq _ _ _ ?_ (fun w hs => num5_any ep w) ?_
    · kernel_rfl
    refine g_run 9999 [] 0 (by kernel_rfl) ?_
    refine g_dec 107 (ep != 0) (by kernel_rfl) (fun h107 => ?_) (fun h107 => ?_)
    · refine g_run 9999 [] 7 (by kernel_rfl) ?_
      refine g_ret [] (Value.bool true) (by kernel_rfl) (by kernel_rfl) (by kernel_rfl) fun w' hs => ?_
      exact ⟨rfl, hs.kept.kept⟩
    refine g_run 9999 [] 1 (by kernel_rfl) ?_
    refine g_callq _ _ _ ?_ (fun w hs => num5_any eq w) ?_
    · kernel_rfl
    refine g_run 9999 [] 1 (by kernel_rfl) ?_
    refine g_dec 112 (eq != 0) (by kernel_rfl) (fun h112 => ?_) (fun h112 => ?_)
    · refine g_run 9999 [] 4 (by kernel_rfl) ?_
      refine g_ret [] (Value.bool true) (by kernel_rfl) (by kernel_rfl) (by kernel_rfl) fun w' hs => ?_
      exact ⟨rfl, hs.kept.kept⟩
    refine g_run 9999 [] 1 (by kernel_rfl) ?_
    refine g_callq _ _ _ ?_ (fun w hs => num5_any er w) ?_
    · kernel_rfl
    refine g_run 9999 [] 1 (by kernel_rfl) ?_
    refine g_dec 116 (er != 0) (by kernel_rfl) (fun h116 => ?_) (fun h116 => ?_)
    · refine g_run 9999 [] 1 (by kernel_rfl) ?_
      refine g_ret [] (Value.bool true) (by kernel_rfl) (by kernel_rfl) (by kernel_rfl) fun w' hs => ?_
      exact ⟨rfl, hs.kept.kept⟩
    have hr : r = addA p q := hj (zero_of h107) (zero_of h112) (zero_of h116)
    refine g_run 9999 [] 1 (by kernel_rfl) ?_
    refine g_unroll 5 (by kernel_rfl) ?_
    refine g_run 9999 [] 1 (by kernel_rfl) ?_
    refine g_draw 30 (by kernel_rfl) (by kernel_rfl) ?_
    refine l_run 9999 ([5] ++ [3] ++ [4]) 0 (by kernel_rfl) ?_
    refine l_dec 135 (r.m0 != IntKind.i64.wrap (p.m0 + q.m0)) (by kernel_rfl) (fun h135 => ?_) (fun h135 => ?_)
    · exact absurd h135 (no_m0 hr)
    refine l_run 9999 ([5] ++ [3] ++ [4]) 14 (by kernel_rfl) ?_
    refine l_end (by kernel_rfl) ?_
    refine g_dec 150 (r.l0 != IntKind.i64.wrap (p.l0 + q.l0)) (by kernel_rfl) (fun h150 => ?_) (fun h150 => ?_)
    · exact absurd h150 (no_l0 hr)
    refine g_run 9999 [] 2 (by kernel_rfl) ?_
    refine g_draw 30 (by kernel_rfl) (by kernel_rfl) ?_
    refine l_run 9999 ([5] ++ [3] ++ [4]) 0 (by kernel_rfl) ?_
    refine l_dec 135 (r.m1 != IntKind.i64.wrap (p.m1 + q.m1)) (by kernel_rfl) (fun h135 => ?_) (fun h135 => ?_)
    · exact absurd h135 (no_m1 hr)
    refine l_run 9999 ([5] ++ [3] ++ [4]) 14 (by kernel_rfl) ?_
    refine l_end (by kernel_rfl) ?_
    refine g_dec 150 (r.l1 != IntKind.i64.wrap (p.l1 + q.l1)) (by kernel_rfl) (fun h150 => ?_) (fun h150 => ?_)
    · exact absurd h150 (no_l1 hr)
    refine g_run 9999 [] 2 (by kernel_rfl) ?_
    refine g_draw 30 (by kernel_rfl) (by kernel_rfl) ?_
    refine l_run 9999 ([5] ++ [3] ++ [4]) 0 (by kernel_rfl) ?_
    refine l_dec 135 (r.m2 != IntKind.i64.wrap (p.m2 + q.m2)) (by kernel_rfl) (fun h135 => ?_) (fun h135 => ?_)
    · exact absurd h135 (no_m2 hr)
    refine l_run 9999 ([5] ++ [3] ++ [4]) 14 (by kernel_rfl) ?_
    refine l_end (by kernel_rfl) ?_
    refine g_dec 150 (r.l2 != IntKind.i64.wrap (p.l2 + q.l2)) (by kernel_rfl) (fun h150 => ?_) (fun h150 => ?_)
    · exact absurd h150 (no_l2 hr)
    refine g_run 9999 [] 2 (by kernel_rfl) ?_
    refine g_draw 30 (by kernel_rfl) (by kernel_rfl) ?_
    refine l_run 9999 ([5] ++ [3] ++ [4]) 0 (by kernel_rfl) ?_
    refine l_dec 135 (r.m3 != IntKind.i64.wrap (p.m3 + q.m3)) (by kernel_rfl) (fun h135 => ?_) (fun h135 => ?_)
    · exact absurd h135 (no_m3 hr)
    refine l_run 9999 ([5] ++ [3] ++ [4]) 14 (by kernel_rfl) ?_
    refine l_end (by kernel_rfl) ?_
    refine g_dec 150 (r.l3 != IntKind.i64.wrap (p.l3 + q.l3)) (by kernel_rfl) (fun h150 => ?_) (fun h150 => ?_)
    · exact absurd h150 (no_l3 hr)
    refine g_run 9999 ([5] ++ [3] ++ [4]) 2 (by kernel_rfl) ?_
    refine g_ret [] (Value.bool (r.nat == IntKind.i64.wrap (p.nat + q.nat))) (by kernel_rfl) (by kernel_rfl) (by kernel_rfl) fun w' hs => ?_
    exact ⟨congrArg (fun b => Ending.returned (Value.bool b)) (nat_eq hr), hs.kept.kept⟩
theorem two_rows {w : World} {b o n b' o' n' : Nat} {f f' : Nat → List Value} (h : Sat w [] [.row b o 19 n f] w) (h' : Sat w [] [.row b' o' 19 n' f'] w) : Sat w [] [.row b o 19 n f, .row b' o' 19 n' f'] w := by
  refine ⟨.refl _ _, fun e he => ?_, fun i j e e' _ hi _ ho => ?_⟩
  · rcases List.mem_cons.1 he with rfl | he
    · exact h.holds _ (List.mem_singleton.2 rfl)
    · rw [List.mem_singleton.1 he]
      exact h'.holds _ (List.mem_singleton.2 rfl)
  · have he := List.mem_of_getElem? hi
    rcases List.mem_cons.1 he with rfl | he
    · cases ho
    · rw [List.mem_singleton.1 he] at ho
      cases ho
theorem count_le (l : List Nod) (W : Wk) : countN l W ≤ l.length := items_le
theorem nodesJoined_walk (w : World) (A : Option Addr) (a : List Nod) (ca : Nat) (_hle : a.length ≤ ca) (_hcm : ca ≤ maxLen) (hnil : A = none → a = [] ∧ ca = 0)
    (hrow : ∀ p, A = some p → 0 < a.length → p.spot = none ∧ p.block < w.heap.size ∧ ∀ k, k < a.length → ∀ j v, (rowOf a k)[j]? = some v → w.cell? ⟨p.block, p.off + k * 19 + j, none⟩ = some v)
    (B : Option Addr) (b : List Nod) (cb : Nat) (_hle2 : b.length ≤ cb) (_hcm2 : cb ≤ maxLen) (hnil2 : B = none → b = [] ∧ cb = 0)
    (hrow2 : ∀ p, B = some p → 0 < b.length → p.spot = none ∧ p.block < w.heap.size ∧ ∀ k, k < b.length → ∀ j v, (rowOf b k)[j]? = some v → w.cell? ⟨p.block, p.off + k * 19 + j, none⟩ = some v) (d : Bool) :
    Calls Try.prog 12 #[.slice A a.length ca, .slice B b.length cb, .bool d] w fun e w' => e = .returned (.bool true) ∧ Kept w w' := by
  obtain ⟨bla, ola, hA⟩ := lst_of w A a ca hnil hrow
  obtain ⟨blb, olb, hB⟩ := lst_of w B b cb hnil2 hrow2
  by_cases ha : checkB a = 0
  case neg => exact join_bad1 A B a b ca cb bla ola blb olb d w hA hB (checkB a) rfl ha
  by_cases hb : checkB b = 0
  case neg => exact join_bad2 A B a b ca cb bla ola blb olb d w hA hB (checkB b) ha rfl hb
  have la := (check_zero ha).1
  have lb := (check_zero hb).1
  have hw : IntKind.i64.wrap ((a.length : Int) + (b.length : Int)) = (a.length : Int) + (b.length : Int) := wrap_i64 (by omega) (by omega)
  by_cases hl : a.length + b.length ≤ 2000
  case neg => exact join_bad3 A B a b ca cb bla ola blb olb d w hA hB ha hb (by rw [hw]; exact decide_eq_true (by omega))
  obtain ⟨Wa, ga⟩ := good_of ha
  obtain ⟨Wb, gb⟩ := good_of hb
  have gc := ga.join gb hl
  have hn := ga.count gb
  have na := count_le a Wa
  have nb := count_le b Wb
  refine join_good A B a b ca cb bla ola blb olb d w hA hB (two_rows (hA.sat w (.refl _)) (hB.sat w (.refl _))) ha hb gc.check (by rw [hw]; exact decide_eq_false (by omega)) la lb (countN a Wa) (countN b Wb) (countN (a ++ b) (mvW Wa a.length Wb))
    (fun w' k => hA.cnt w' k Wa ga) (fun w' k => hB.cnt w' k Wb gb) (fun bl cl w' hs => goodCount_any (a ++ b) bl 0 cl _ gc w' hs) ?_ (totsA d a Wa) (totsA d b Wb) (totsA d (a ++ b) (mvW Wa a.length Wb)) (totsE d a Wa) (totsE d b Wb) (totsE d (a ++ b) (mvW Wa a.length Wb))
    (fun w' k => hA.tot w' k Wa d ga) (fun w' k => hB.tot w' k Wb d gb) (fun bl cl w' hs => tots_down (a ++ b) bl 0 cl _ gc d w' hs) (fun h1 h2 h3 => tots_join ga gb h1 h2 h3)
  rw [hn, wrap_i64 (by omega) (by omega)]
  simp
end Go.Proofs.Ytnpccfcplgonkaa
