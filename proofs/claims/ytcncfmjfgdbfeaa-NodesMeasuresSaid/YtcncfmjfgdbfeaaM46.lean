/- NodNi NodRa NodRc. -/
import Derived.Test.YtcncfmjfgdbfeaaM44
import Derived.Test.YtcncfmjfgdbfeaaNodSu
import Derived.Test.YtcncfmjfgdbfeaaM34
import Derived.Test.YtcncfmjfgdbfeaaM26
namespace Go.Proofs.Ytcncfmjfgdbfeaa
open Go.RowKit
theorem rrow_nil (w : World) : Calls Try.prog 90 #[.slice none 0 0] w fun e w' => e = .returned (.tuple #[.int .i64 0, .int .i64 0]) ∧ Kept w w' :=
 Run.closed (P := Try.prog) kR (args := [.slice none 0 0]) (Run.unpack 4096 0 0x0) 3000 (fun A => by kernel_rfl) w
theorem rrow_void (a : Addr) (c : Nat) (w : World) : Calls Try.prog 90 #[.slice (some a) 0 c] w fun e w' => e = .returned (.tuple #[.int .i64 0, .int .i64 0]) ∧ Kept w w' :=
 Run.closed (P := Try.prog) kR (args := [.slice (some a) 0 c]) (Run.unpack 4096 0 0x0) 3000 (fun A => by kernel_rfl) w
theorem rsumz_nil (w : World) : Calls Try.prog 88 #[.slice none 0 0, .bool false] w fun e w' => e = .returned (totV acc0) ∧ Kept w w' :=
 Run.closed (P := Try.prog) kR (args := [.slice none 0 0, .bool false]) (Run.unpack 4096 11 0x1001001001001001001001001001002) 3000 (fun A => by kernel_rfl) w
theorem rsumz_void (a : Addr) (c : Nat) (w : World) : Calls Try.prog 88 #[.slice (some a) 0 c, .bool false] w fun e w' => e = .returned (totV acc0) ∧ Kept w w' :=
 Run.closed (P := Try.prog) kR (args := [.slice (some a) 0 c, .bool false]) (Run.unpack 4096 11 0x1001001001001001001001001001002) 3000 (fun A => by kernel_rfl) w
theorem rext_true_nil (w : World) : Calls Try.prog 44 #[.slice none 0 0, .bool true] w fun e w' => e = .returned (.tuple #[.int .i64 0, .int .i64 0, .int .i64 0]) ∧ Kept w w' :=
 Run.closed (P := Try.prog) kR (args := [.slice none 0 0, .bool true]) (Run.unpack 4096 0 0x0) 3000 (fun A => by kernel_rfl) w
theorem rext_true_void (a : Addr) (c : Nat) (w : World) : Calls Try.prog 44 #[.slice (some a) 0 c, .bool true] w fun e w' => e = .returned (.tuple #[.int .i64 0, .int .i64 0, .int .i64 0]) ∧ Kept w w' :=
 Run.closed (P := Try.prog) kR (args := [.slice (some a) 0 c, .bool true]) (Run.unpack 4096 0 0x0) 3000 (fun A => by kernel_rfl) w
theorem rtot_true_nil (w : World) : Calls Try.prog 43 #[.slice none 0 0, .bool true] w fun e w' => e = .returned (.tuple #[totV acc0, .int .i64 0]) ∧ Kept w w' :=
 Run.closed (P := Try.prog) kR (args := [.slice none 0 0, .bool true]) (Run.unpack 4096 24 0x1001001001001001001001001001004004004002002002002002002002002002002003) 3000 (fun A => by kernel_rfl) w
theorem rtot_true_void (a : Addr) (c : Nat) (w : World) : Calls Try.prog 43 #[.slice (some a) 0 c, .bool true] w fun e w' => e = .returned (.tuple #[totV acc0, .int .i64 0]) ∧ Kept w w' :=
 Run.closed (P := Try.prog) kR (args := [.slice (some a) 0 c, .bool true]) (Run.unpack 4096 24 0x1001001001001001001001001001004004004002002002002002002002002002002003) 3000 (fun A => by kernel_rfl) w
theorem rext_false_nil (w : World) : Calls Try.prog 44 #[.slice none 0 0, .bool false] w fun e w' => e = .returned (.tuple #[.int .i64 0, .int .i64 0, .int .i64 0]) ∧ Kept w w' :=
 Run.closed (P := Try.prog) kR (args := [.slice none 0 0, .bool false]) (Run.unpack 4096 0 0x0) 3000 (fun A => by kernel_rfl) w
theorem rext_false_void (a : Addr) (c : Nat) (w : World) : Calls Try.prog 44 #[.slice (some a) 0 c, .bool false] w fun e w' => e = .returned (.tuple #[.int .i64 0, .int .i64 0, .int .i64 0]) ∧ Kept w w' :=
 Run.closed (P := Try.prog) kR (args := [.slice (some a) 0 c, .bool false]) (Run.unpack 4096 0 0x0) 3000 (fun A => by kernel_rfl) w
theorem rtot_false_nil (w : World) : Calls Try.prog 43 #[.slice none 0 0, .bool false] w fun e w' => e = .returned (.tuple #[totV acc0, .int .i64 0]) ∧ Kept w w' :=
 Run.closed (P := Try.prog) kR (args := [.slice none 0 0, .bool false]) (Run.unpack 4096 24 0x1001001001001001001001001001004004004002002002002002002002002002002003) 3000 (fun A => by kernel_rfl) w
theorem rtot_false_void (a : Addr) (c : Nat) (w : World) : Calls Try.prog 43 #[.slice (some a) 0 c, .bool false] w fun e w' => e = .returned (.tuple #[totV acc0, .int .i64 0]) ∧ Kept w w' :=
 Run.closed (P := Try.prog) kR (args := [.slice (some a) 0 c, .bool false]) (Run.unpack 4096 24 0x1001001001001001001001001001004004004002002002002002002002002002002003) 3000 (fun A => by kernel_rfl) w
end Go.Proofs.Ytcncfmjfgdbfeaa
namespace Go.Proofs.Ytcncfmjfgdbfeaa
open Go.RowKit
section
variable {l : List Nod} {W : Wk} {p s1 s2 e : Nat}
theorem map_kinds {y : List Nod} {V : Wk} {ns : List Nod} (h : (startsN y V).map (nth y) = ns) (hb : ∀ n ∈ ns, brokenB n = true) : ∀ q ∈ startsN y V, (nth y q).kind ≠ 7 ∧ (nth y q).kind ≠ 10 := fun q hq =>
 brok_kind (hb _ (by rw [← h]; exact List.mem_map.2 ⟨q, hq, rfl⟩))
end
theorem rrow_flat (y : List Nod) (b c : Nat) (V : Wk) (hV : Good y V) (ns : List Nod) (hns : (startsN y V).map (nth y) = ns) (hb : ∀ n ∈ ns, brokenB n = true) (w : World) (hq : Sat w [] [.row b 0 19 y.length (rowOf y)] w) :
  Calls Try.prog 90 #[.slice (some ⟨b, 0, none⟩) y.length c] w fun e w' => e = .returned (.tuple #[.int .i64 (ns.foldl (mxS aboveV) 0), .int .i64 (ns.foldl (mxS belowV) 0)]) ∧ Kept w w' := by
 have hk := map_kinds hns hb
 refine rrow_gen y b 0 c V hV (fun p hp h10 => absurd h10 (hk p hp).2) (fun _ => 0) (fun _ => 0) (fun p hp s1 s2 e d => absurd d.kind (hk p hp).2) _ _ ?_ ?_ w hq
 ·rw [fold_row fun q hq => (hk q hq).2, hns]
 rw [fold_row fun q hq => (hk q hq).2, hns]
theorem empty_part {l : List Nod} {W : Wk} {p s1 s2 e : Nat} (d : Dsc l W p s1 s2 e) (h0 : (seg l (s2 + 1) e).length = 0) : partN l W.beh p = [] := by
 obtain ⟨V, hV, hm⟩ := d.sub
 rw [List.length_eq_zero_iff.1 h0] at hm
 rw [← hm]
 rfl
theorem rrow_rec {l : List Nod} {W : Wk} : RowRec Try.prog 90 l W (fun p => (partN l W.beh p).foldl (mxS aboveV) 0) (fun p => (partN l W.beh p).foldl (mxS belowV) 0) := by
 intro p _ s1 s2 e d y hy w1 A c b hax hnil hq
 subst hy
 rcases Nat.eq_zero_or_pos (seg l (s2 + 1) e).length with h0 | h0
 ·simp only [empty_part d h0, List.foldl_nil]
  rw [h0]
  cases A with
  | none =>
   obtain ⟨_, rfl⟩ := hnil rfl
   exact rrow_nil w1
  | some a => exact rrow_void a c w1
 obtain rfl := hax.resolve_left (by omega)
 obtain ⟨V, hV, hm⟩ := d.sub
 exact rrow_flat _ b c V hV _ hm d.parts w1 hq
theorem rrow_any (l : List Nod) (bl ol cl : Nat) (W : Wk) (hG : Good l W) (hcl : l.length ≤ cl) (w : World) (hq : Sat w [] [.row bl ol 19 l.length (rowOf l)] w) :
  Calls Try.prog 90 #[.slice (some ⟨bl, ol, none⟩) l.length cl] w fun e w' => e = .returned (.tuple #[.int .i64 (exA false l W), .int .i64 (exB false l W)]) ∧ Kept w w' :=
 rrow_gen l bl ol cl W hG (fun _ _ _ => hcl) _ _ rrow_rec _ _ (exA_row hG) (exB_row hG) w hq
/-! ### Sum -/
def accP (ns : List Nod) : Acc := { acc0 with nat := natF alongV ns 0 }
theorem brok_across {n : Nod} (h : brokenB n = true) : rAcrossV n = alongV n := by
 have h7 := (brok_kind h).1
 simp [rAcrossV, alongV, h7]
theorem fold_sum {y : List Nod} {sa : Nat → Acc} : ∀ {ss : List Nat} {a : Acc}, (∀ q ∈ ss, brokenB (nth y q) = true) → ss.foldl (sumS y (besideV y sa)) a = { a with nat := natF alongV (ss.map (nth y)) a.nat }
 | [], _, _ => rfl
 | q :: r, a, h => by
  have hq := h q (List.mem_cons_self ..)
  have hk := brok_kind hq
  rw [List.foldl_cons, List.map_cons, fold_sum fun q hq => h q (List.mem_cons_of_mem _ hq)]
  have e : sumS y (besideV y sa) a q = { a with nat := wr a.nat (alongV (nth y q)) } := sumS_no hk.1 (by unfold besideV; rw [if_neg hk.2, brok_across hq])
  rw [e]
  rfl
theorem rsum_flat (y : List Nod) (b c : Nat) (V : Wk) (hV : Good y V) (ns : List Nod) (hns : (startsN y V).map (nth y) = ns) (hb : ∀ n ∈ ns, brokenB n = true) (w : World) (hq : Sat w [] [.row b 0 19 y.length (rowOf y)] w) :
  Calls Try.prog 88 #[.slice (some ⟨b, 0, none⟩) y.length c, .bool false] w fun e w' => e = .returned (totV (accP ns)) ∧ Kept w w' := by
 have hk := map_kinds hns hb
 refine rsum_gen y b 0 c V hV (fun p hp h10 => absurd h10 (hk p hp).2) (fun _ => acc0) (fun p hp s1 s2 e d => absurd d.kind (hk p hp).2) _ ?_ w hq
 rw [fold_sum fun q hq => hb _ (by rw [← hns]; exact List.mem_map.2 ⟨q, hq, rfl⟩), hns]
 rfl
theorem rsum_rec {l : List Nod} {W : Wk} : SumRec Try.prog 88 l W (fun p => accP (partN l W.beh p)) := by
 intro p _ s1 s2 e d y hy w1 A c b hax hnil hq
 subst hy
 rcases Nat.eq_zero_or_pos (seg l (s2 + 1) e).length with h0 | h0
 ·simp only [empty_part d h0]
  rw [h0]
  cases A with
  | none =>
   obtain ⟨_, rfl⟩ := hnil rfl
   exact rsumz_nil w1
  | some a => exact rsumz_void a c w1
 obtain rfl := hax.resolve_left (by omega)
 obtain ⟨V, hV, hm⟩ := d.sub
 exact rsum_flat _ b c V hV _ hm d.parts w1 hq
end Go.Proofs.Ytcncfmjfgdbfeaa
namespace Go.Proofs.Ytcncfmjfgdbfeaa
open Go.RowKit
structure RCX (l : List Nod) where
 at_ : Nat
 W : Wk
 base : Option Addr
 cap : Nat
 e : HE
 n : Nat
 fl : Bool
 hn : W.os.length = n
 sk : ROpen l W.os base cap e
 hf : fl = decide (40 < W.d)
 os : ∀ p ∈ W.os, p.2 ≤ 2
 len : n ≤ at_
 le : at_ ≤ l.length
 run : walkW l (l.length - at_) at_ W = walkW l l.length 0 (walk0 l)
def RCX.start (l : List Nod) : RCX l :=
 ⟨0, walk0 l, none, 0, noneE, 0, false, rfl, .inl ⟨rfl, rfl, rfl⟩, by simp [walk0], fun p hp => by simp [walk0] at hp, Nat.le_refl _, Nat.zero_le _, rfl⟩
theorem RCX.unroll {l : List Nod} (x : RCX l) (h : x.at_ < l.length) : walkW l l.length 0 (walk0 l) = bif rightB (nth l x.at_) then (match stepW l x.at_ x.W with | some W' => walkW l (l.length - (x.at_ + 1)) (x.at_ + 1) W' | none => none) else none := by
 rw [← x.run, show l.length - x.at_ = (l.length - (x.at_ + 1)) + 1 by omega]
 rfl
theorem check_50 {l : List Nod} (hl : l.length ≤ 2000) (h : walkW l l.length 0 (walk0 l) = none) : checkB l = 50 := by
 unfold checkB
 rw [decide_eq_false (by omega), cond_false, h]
theorem RCX.wrong {l : List Nod} (x : RCX l) (h : x.at_ < l.length) (hl : l.length ≤ 2000) (hr : rightB (nth l x.at_) = false) : checkB l = 50 := check_50 hl (by rw [x.unroll h, hr]; rfl)
theorem RCX.stops {l : List Nod} (x : RCX l) (h : x.at_ < l.length) (hl : l.length ≤ 2000) (hr : rightB (nth l x.at_) = true) (hs : stepW l x.at_ x.W = none) : checkB l = 50 := check_50 hl (by rw [x.unroll h, hr, hs]; rfl)
def RCX.next {l : List Nod} (x : RCX l) (h : x.at_ < l.length) (hr : rightB (nth l x.at_) = true) (W' : Wk) (hs : stepW l x.at_ x.W = some W') (base : Option Addr) (cap : Nat) (e : HE) (n : Nat) (fl : Bool) (hn : W'.os.length = n) (sk : ROpen l W'.os base cap e)
  (hf : fl = decide (40 < W'.d)) (os : ∀ p ∈ W'.os, p.2 ≤ 2) (len : n ≤ x.at_ + 1) : RCX l :=
 ⟨x.at_ + 1, W', base, cap, e, n, fl, hn, sk, hf, os, len, h, by
  have := x.unroll h
  rw [hr, hs] at this
  exact this.symm⟩
theorem RCX.done {l : List Nod} (x : RCX l) (h : ¬ x.at_ < l.length) : walkW l l.length 0 (walk0 l) = some x.W := by
 rw [← x.run, show l.length - x.at_ = 0 by omega]
 rfl
theorem RCX.end_ {l : List Nod} (x : RCX l) (h : ¬ x.at_ < l.length) (hl : l.length ≤ 2000) : checkB l = if x.n = 0 then (if x.fl = true then 51 else 0) else 50 := by
 have h1 := x.hf
 have h2 := x.hn
 unfold checkB
 rw [decide_eq_false (by omega), cond_false, x.done h]
 dsimp only
 rw [h2]
 by_cases h0 : x.n = 0
 ·rw [if_pos h0, decide_eq_true h0, cond_true, h1]
  by_cases hd : 40 < x.W.d
  ·simp [hd]
  simp [hd]
 rw [if_neg h0, decide_eq_false h0, cond_false]
structure Top (l : List Nod) (x : RCX l) (k : Nat) (os : List (Nat × Nat)) (p : Nat × Nat) (bo : Nat) (oc : List Value) : Prop where
 n : x.n = k + 1
 len : os.length = k
 is : x.W.os = os ++ [p]
 base : x.base = some ⟨bo, 0, none⟩
 e : x.e = .obj true bo oc 169
 size : oc.length = x.cap * 2
 room : k + 1 ≤ x.cap
 cells : oc.take ((k + 1) * 2) = rC l (os ++ [p])
 disc : oc[0 + k * 2]? = some (.bool (decide ((nth l p.1).kind = 10)))
 seps : oc[0 + k * 2 + 1]? = some (.int .i64 (p.2 : Int))
 two : p.2 ≤ 2
theorem RCX.top {l : List Nod} (x : RCX l) (h : x.n ≠ 0) : ∃ k os p bo oc, Top l x k os p bo oc := by
 have h1 := x.hn
 have h2 : x.W.os ≠ [] := fun e => by rw [e] at h1; exact h h1.symm
 have h3 := (List.dropLast_concat_getLast h2).symm
 have h4 := x.sk
 have h5 := x.os _ (List.getLast_mem h2)
 rw [h3] at h4
 obtain ⟨bo, oc, q1, q2, q3, q4, q5, q6, q7⟩ := h4.last
 have h6 : x.W.os.length = x.W.os.dropLast.length + 1 := by
  have := congrArg List.length h3
  simpa using this
 exact ⟨x.W.os.dropLast.length, x.W.os.dropLast, x.W.os.getLast h2, bo, oc, by omega, rfl, h3, q1, q2, q3, q4, q5, q6, q7, h5⟩
theorem Top.inDisc {l : List Nod} {x : RCX l} {k bo : Nat} {os : List (Nat × Nat)} {p : Nat × Nat} {oc : List Value} (t : Top l x k os p bo oc) : inDiscB l x.W.os = decide ((nth l p.1).kind = 10) := by
 unfold inDiscB
 rw [t.is]
 simp
theorem RCX.inDisc0 {l : List Nod} (x : RCX l) (h : x.n = 0) : inDiscB l x.W.os = false ∧ x.W.os = [] := by
 have h1 := x.hn
 have h2 : x.W.os = [] := List.length_eq_zero_iff.1 (by omega)
 exact ⟨by unfold inDiscB; rw [h2]; rfl, h2⟩
end Go.Proofs.Ytcncfmjfgdbfeaa
