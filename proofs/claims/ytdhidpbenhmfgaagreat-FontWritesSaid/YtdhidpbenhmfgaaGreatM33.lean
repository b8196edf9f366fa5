/- CRead8 CRead0 CRead9. -/
import Derived.Test.YtdhidpbenhmfgaaGreatCFont
import Derived.Test.YtdhidpbenhmfgaaGreatCRead2
import Derived.Defers
import Derived.Recover
import Derived.Laws.Pointers
namespace Go.Proofs.YtdhidpbenhmfgaaGreat
open Go.RowKit

theorem counts_facts {bs : List Int} (hb : BytesOk bs) (h : countsB bs = true) : (∀ i < 12, 0 ≤ hv bs (2 * i) ∧ hv bs (2 * i) ≤ 32767) ∧ (bs.length : Int) = 4 * (cntB bs).lf ∧ (cntB bs).lf = wordsC (cntB bs) ∧ 2 ≤ (cntB bs).lh ∧ (cntB bs).bc ≤ (cntB bs).ec + 1 ∧ (cntB bs).ec < 256 := by
  unfold countsB at h
  rw [Bool.and_eq_true, List.all_eq_true, decide_eq_true_eq] at h
  exact ⟨fun i hi => by
    have q := h.1 i (List.mem_range.2 hi)
    unfold halfOk at q
    rw [decide_eq_true_eq] at q
    exact ⟨hv_bd hb _, q.2⟩, h.2⟩
theorem rfont_no (w : World) (R b o d : Nat) (bs : List Int) (h : Rd w R b o d 0 bs) (hb : BytesOk bs) (hlen : bs.length ≤ 1048576) (hcy : countsB bs = false) :
    Calls Tryz.prog 65 #[.pointer (some ⟨R, 0, none⟩)] w fun e w' => e = .panicked giveUp ∧ w.grownBy w' (some R) := by
  obtain ⟨W, hW⟩ : ∃ W, W = w.alloc (.cells #[.int .u32 0, .int .i64 0, .int .i64 0, .slice none 0 0, .slice none 0 0, .slice none 0 0, .slice none 0 0, .slice none 0 0] 28) := ⟨_, rfl⟩
  have hk0 : Kept w W := by rw [hW]; exact walloc _ _
  have hc := Lib.hid (counts_any W R b o d bs (h.grown (row := none) (grown_kept hk0) (by simp) (by simp)) hb hlen)
  rw [hcy] at hc
  have HW := Lib.hid hW
  clear hW h hb
  go_enter Tryz.func65, Tryz.ntmps65
  go_wp2_with (fail)
  rw [← HW.out]
  refine hc.out.mono ?_
  rintro e w1 (⟨hx, _⟩ | ⟨_, rfl, g1⟩)
  case inl => cases hx
  exact ⟨rfl, rfl, grown_trans (grown_kept hk0) g1⟩
theorem rfont_any (w : World) (R b o d : Nat) (bs : List Int) (h : Rd w R b o d 0 bs) (hb : BytesOk bs) (hlen : bs.length ≤ 1048576) :
    Calls Tryz.prog 65 #[.pointer (some ⟨R, 0, none⟩)] w fun e w' => (readB bs = true ∧ ∃ a, e = .returned (fontV (readF bs) a) ∧ FRead w' w.heap.size (readF bs) a ∧ w.grownBy w' (some R)) ∨ (readB bs = false ∧ e = .panicked giveUp ∧ w.grownBy w' (some R)) := by
  by_cases hcy : countsB bs = true
  · obtain ⟨hh, hL, hw, hlh, hbe, hec⟩ := counts_facts hb hcy
    have z0 := hh 0 (by omega)
    have z1 := hh 1 (by omega)
    have z2 := hh 2 (by omega)
    have z3 := hh 3 (by omega)
    have z4 := hh 4 (by omega)
    have z5 := hh 5 (by omega)
    have z6 := hh 6 (by omega)
    have z7 := hh 7 (by omega)
    have z8 := hh 8 (by omega)
    have z9 := hh 9 (by omega)
    have z10 := hh 10 (by omega)
    have z11 := hh 11 (by omega)
    simp only [Nat.mul_zero, Nat.reduceMul] at z0 z1 z2 z3 z4 z5 z6 z7 z8 z9 z10 z11
    unfold wordsC charsC at hw
    unfold cntB at hL hw hlh hbe hec
    dsimp only at hL hw hlh hbe hec
    have q := rfont_core w R b o d (hv bs 2).toNat (nC bs) (hv bs 8).toNat (hv bs 10).toNat (hv bs 12).toNat (hv bs 14).toNat (hv bs 16).toNat (hv bs 18).toNat (hv bs 20).toNat (hv bs 22).toNat (oC bs) (oW bs) (oS bs) (oK bs) (oP bs) (oQ bs)
      (hv bs 0) (hv bs 4) (hv bs 6) (unsV (wordS bs 24)) (unsV (wordS bs 28)) bs (rW bs) (rH bs) (rD bs) (rI bs) (sigs bs (oK bs) (hv bs 18).toNat) (sigs bs (oQ bs) (hv bs 22).toNat) (chW bs) (wordsAt bs (oS bs) (hv bs 16).toNat) (wordsAt bs (oP bs) (hv bs 20).toNat) (rMets bs)
      (zeroFirst (rW bs) && zeroFirst (rH bs) && zeroFirst (rD bs) && zeroFirst (rI bs)) (metsB bs)
      h hb hlen hcy (by unfold cntB; rw [Int.toNat_of_nonneg z1.1, Int.toNat_of_nonneg z4.1, Int.toNat_of_nonneg z5.1, Int.toNat_of_nonneg z6.1, Int.toNat_of_nonneg z7.1, Int.toNat_of_nonneg z8.1, Int.toNat_of_nonneg z9.1, Int.toNat_of_nonneg z10.1, Int.toNat_of_nonneg z11.1])
      (by unfold charsC cntB nC; dsimp only; omega) (by unfold cntB; constructor <;> (dsimp only; omega)) (by omega) rfl rfl rfl rfl rfl rfl (by unfold oQ oP oK oS oI oD oH oW oC nC; omega) (by omega) (by omega) (by omega) (by omega) (by omega) (by unfold nC; omega)
      rfl rfl rfl rfl rfl rfl rfl rfl rfl rfl rfl rfl rfl rfl
    have e1 : readB bs = (zeroFirst (rW bs) && zeroFirst (rH bs) && zeroFirst (rD bs) && zeroFirst (rI bs) && (metsB bs && fontB (readF bs))) := by
      unfold readB zerosB
      rw [hcy, Bool.true_and]
      simp only [Bool.and_assoc]
    rw [e1]
    exact q
  · rw [Bool.not_eq_true] at hcy
    have e1 : readB bs = false := by unfold readB; rw [hcy]; rfl
    rw [e1]
    exact (rfont_no w R b o d bs h hb hlen hcy).mono fun e w' q => .inr ⟨rfl, q.1, q.2⟩
end Go.Proofs.YtdhidpbenhmfgaaGreat
namespace Go.Proofs.YtdhidpbenhmfgaaGreat
open Go.RowKit

/-- a reader of nothing -/
def Rd0 (w : World) (R : Nat) : Prop := ∃ A c, w.cell? ⟨R, 0, none⟩ = some (.slice A 0 c)
theorem Rd0.kept {w w' : World} {R : Nat} (h : Rd0 w R) (hR : R < w.heap.size) (hk : Kept w w') : Rd0 w' R := by
  obtain ⟨A, c, h⟩ := h
  exact ⟨A, c, (hk.cell (p := ⟨R, 0, none⟩) hR).trans h⟩

set_option maxHeartbeats 1000000 in
theorem take_0 (w : World) (R : Nat) (h : Rd0 w R) :
    Calls Tryz.prog 95 #[.pointer (some ⟨R, 0, none⟩), .int .i64 2] w fun e w' => e = .panicked giveUp ∧ w' = w := by
  obtain ⟨A, c, h⟩ := h
  go_enter Tryz.func95, Tryz.ntmps95
  go_wp2_with (fail)
  refine (need_no _).mono ?_
  rintro e w1 ⟨rfl, rfl⟩
  go_wp2_with (fail)
  exact ⟨rfl, rfl, rfl⟩
set_option maxHeartbeats 1000000 in
theorem half_0 (w : World) (R : Nat) (h : Rd0 w R) :
    Calls Tryz.prog 94 #[.pointer (some ⟨R, 0, none⟩)] w fun e w' => e = .panicked giveUp ∧ w' = w := by
  have ht := Lib.hid (take_0 w R h)
  clear h
  go_enter Tryz.func94, Tryz.ntmps94
  go_wp2_with (fail)
  refine ht.out.mono ?_
  rintro e w1 ⟨rfl, rfl⟩
  go_wp2_with (fail)
  exact ⟨rfl, rfl, rfl⟩
set_option maxRecDepth 100000 in
set_option maxHeartbeats 4000000 in
theorem counts_0 (w : World) (R : Nat) (h : Rd0 w R) (hR : R < w.heap.size) :
    Calls Tryz.prog 74 #[.pointer (some ⟨R, 0, none⟩)] w fun e w' => e = .panicked giveUp ∧ Kept w w' := by
  have hh := fun w' (hk : Kept w w') => Lib.hid (half_0 w' R (h.kept hR hk))
  obtain ⟨A, c, h⟩ := h
  obtain ⟨W, hW⟩ : ∃ W, W = w.alloc (.cells #[.int .i64 0, .int .i64 0, .int .i64 0, .int .i64 0, .int .i64 0, .int .i64 0, .int .i64 0, .int .i64 0, .int .i64 0, .int .i64 0, .int .i64 0, .int .i64 0] 61) := ⟨_, rfl⟩
  have hk0 : Kept w W := by rw [hW]; exact walloc _ _
  have HW := Lib.hid hW
  clear hW
  go_enter Tryz.func74, Tryz.ntmps74
  go_wp2_with (fail)
  rw [← HW.out]
  refine (hh _ hk0).out.mono ?_
  rintro e w1 ⟨rfl, rfl⟩
  exact ⟨rfl, rfl, hk0⟩
set_option maxRecDepth 100000 in
set_option maxHeartbeats 4000000 in
theorem rfont_0 (w : World) (R : Nat) (h : Rd0 w R) (hR : R < w.heap.size) :
    Calls Tryz.prog 65 #[.pointer (some ⟨R, 0, none⟩)] w fun e w' => e = .panicked giveUp ∧ Kept w w' := by
  obtain ⟨W, hW⟩ : ∃ W, W = w.alloc (.cells #[.int .u32 0, .int .i64 0, .int .i64 0, .slice none 0 0, .slice none 0 0, .slice none 0 0, .slice none 0 0, .slice none 0 0] 28) := ⟨_, rfl⟩
  have hk0 : Kept w W := by rw [hW]; exact walloc _ _
  have hc := Lib.hid (counts_0 W R (h.kept hR hk0) (Nat.lt_of_lt_of_le hR hk0.size))
  have HW := Lib.hid hW
  clear hW h
  go_enter Tryz.func65, Tryz.ntmps65
  go_wp2_with (fail)
  rw [← HW.out]
  refine hc.out.mono ?_
  rintro e w1 ⟨rfl, k1⟩
  exact ⟨rfl, rfl, hk0.trans k1⟩
end Go.Proofs.YtdhidpbenhmfgaaGreat
namespace Go.Proofs.YtdhidpbenhmfgaaGreat
open Go.RowKit

abbrev nilT : Value := .slice none 0 0
theorem cells8 {w : World} {B : Nat} {T : TypeId} {v0 v1 v2 v3 v4 v5 v6 v7 : Value} (h : w.heap[B]? = some (.cells #[v0, v1, v2, v3, v4, v5, v6, v7] T (0, 0))) :
    w.cell? ⟨B, 0, none⟩ = some v0 ∧ w.cell? ⟨B, 1, none⟩ = some v1 ∧ w.cell? ⟨B, 2, none⟩ = some v2 ∧ w.cell? ⟨B, 3, none⟩ = some v3 ∧ w.cell? ⟨B, 4, none⟩ = some v4 ∧ w.cell? ⟨B, 5, none⟩ = some v5 ∧ w.cell? ⟨B, 6, none⟩ = some v6 ∧ w.cell? ⟨B, 7, none⟩ = some v7 ∧ (∀ o, w.frozen? ⟨B, o, none⟩ = false) ∧ B < w.heap.size := by
  refine ⟨?_, ?_, ?_, ?_, ?_, ?_, ?_, ?_, fun o => ?_, ?_⟩
  case refine_10 =>
    rcases Nat.lt_or_ge B w.heap.size with h' | h'
    · exact h'
    · simp [Array.getElem?_eq_none h'] at h
  all_goals first | simp [World.cell?, h] | simp [World.frozen?, h]
theorem set_one {w : World} {N i : Nat} {T : TypeId} {c : Array Value} {u : Value} (h : w.heap[N]? = some (.cells c T (0, 0))) : (w.setCell ⟨N, i, none⟩ u).heap[N]? = some (.cells (c.setIfInBounds i u) T (0, 0)) := by
  simp only [World.setCell, Array.getElem?_modify, h, if_true, Option.map_some]
  rfl
theorem set8 {w : World} {N : Nat} {T : TypeId} {v0 v1 v2 v3 v4 v5 v6 v7 : Value} (u0 u1 u2 u3 u4 u5 u6 u7 : Value) (h : w.heap[N]? = some (.cells #[v0, v1, v2, v3, v4, v5, v6, v7] T (0, 0))) :
    ((((((((w.setCell ⟨N, 0, none⟩ u0).setCell ⟨N, 1, none⟩ u1).setCell ⟨N, 2, none⟩ u2).setCell ⟨N, 3, none⟩ u3).setCell ⟨N, 4, none⟩ u4).setCell ⟨N, 5, none⟩ u5).setCell ⟨N, 6, none⟩ u6).setCell ⟨N, 7, none⟩ u7).heap[N]? = some (.cells #[u0, u1, u2, u3, u4, u5, u6, u7] T (0, 0)) := by
  have h1 := set_one (i := 0) (u := u0) h
  rw [show (#[v0, v1, v2, v3, v4, v5, v6, v7] : Array Value).setIfInBounds 0 u0 = #[u0, v1, v2, v3, v4, v5, v6, v7] from rfl] at h1
  have h2 := set_one (i := 1) (u := u1) h1
  rw [show (#[u0, v1, v2, v3, v4, v5, v6, v7] : Array Value).setIfInBounds 1 u1 = #[u0, u1, v2, v3, v4, v5, v6, v7] from rfl] at h2
  have h3 := set_one (i := 2) (u := u2) h2
  rw [show (#[u0, u1, v2, v3, v4, v5, v6, v7] : Array Value).setIfInBounds 2 u2 = #[u0, u1, u2, v3, v4, v5, v6, v7] from rfl] at h3
  have h4 := set_one (i := 3) (u := u3) h3
  rw [show (#[u0, u1, u2, v3, v4, v5, v6, v7] : Array Value).setIfInBounds 3 u3 = #[u0, u1, u2, u3, v4, v5, v6, v7] from rfl] at h4
  have h5 := set_one (i := 4) (u := u4) h4
  rw [show (#[u0, u1, u2, u3, v4, v5, v6, v7] : Array Value).setIfInBounds 4 u4 = #[u0, u1, u2, u3, u4, v5, v6, v7] from rfl] at h5
  have h6 := set_one (i := 5) (u := u5) h5
  rw [show (#[u0, u1, u2, u3, u4, v5, v6, v7] : Array Value).setIfInBounds 5 u5 = #[u0, u1, u2, u3, u4, u5, v6, v7] from rfl] at h6
  have h7 := set_one (i := 6) (u := u6) h6
  rw [show (#[u0, u1, u2, u3, u4, u5, v6, v7] : Array Value).setIfInBounds 6 u6 = #[u0, u1, u2, u3, u4, u5, u6, v7] from rfl] at h7
  have h8 := set_one (i := 7) (u := u7) h7
  rw [show (#[u0, u1, u2, u3, u4, u5, u6, v7] : Array Value).setIfInBounds 7 u7 = #[u0, u1, u2, u3, u4, u5, u6, u7] from rfl] at h8
  exact h8
theorem set_far {w : World} {N M i : Nat} {u : Value} {o : Option Obj} (h : w.heap[M]? = o) (hne : N ≠ M) : (w.setCell ⟨N, i, none⟩ u).heap[M]? = o := by
  simp [World.setCell, Array.getElem?_modify, hne, h]
def emptyF : Fnt := ⟨0, 0, 0, [], [], [], [], []⟩
def nilA : FAddr := ⟨none, 0, none, 0, none, 0, none, 0, none, 0⟩

set_option maxRecDepth 100000 in
set_option maxHeartbeats 4000000 in
theorem catch_panics (N : Nat) (v0 v1 v2 v3 v4 v5 v6 v7 : Value) (x : Int) (u : TypeId) (pv : Value) (older : List PanicEntry) (w : World) (h : w.heap[N]? = some (.cells #[v0, v1, v2, v3, v4, v5, v6, v7] 28 (0, 0))) (h1 : w.heap[N + 1]? = some (.cells #[.int .i64 x] 31 (0, 0))) :
    CallsD Tryz.prog 64 #[.pointer (some ⟨N, 0, none⟩), .pointer (some ⟨N + 1, 0, none⟩)] (.panicking ({ v := .iface u pv, recovered := false } :: older)) w fun e u' w' =>
      e = .returned (.tuple #[]) ∧ u' = .panicking ({ v := .iface u pv, recovered := true } :: older) ∧ w'.heap[N]? = some (.cells #[.int .u32 0, .int .i64 0, .int .i64 0, .slice none 0 0, .slice none 0 0, .slice none 0 0, .slice none 0 0, .slice none 0 0] 28 (0, 0)) ∧ w'.heap[N + 1]? = some (.cells #[.int .i64 40] 31 (0, 0)) ∧ Below N w w' := by
  obtain ⟨c0, c1, c2, c3, c4, c5, c6, c7, cf, cl⟩ := cells8 h
  have d0 : w.cell? ⟨N + 1, 0, none⟩ = some (.int .i64 x) := by simp [World.cell?, h1]
  have df : w.frozen? ⟨N + 1, 0, none⟩ = false := by simp [World.frozen?, h1]
  refine callsD_of_wpS Tryz.func64 rfl fun c₀ cs hu => ?_
  apply wpS_seq
  apply wpS_region
  simp [wpOpsS, go_sem, recoverD, hu, Tryz.ntmps64, Exit.thenS]
  refine wpS_cond (t := true) (by simp [Act.eval, Array.replicate]) ?_
  simp only [if_true]
  refine wpS_of_wp ?_
  go_wp2_with (fail)
  have hN := set_far (N := N + 1) (i := 0) (u := .int .i64 40) (set8 (.int .u32 0) (.int .i64 0) (.int .i64 0) nilT nilT nilT nilT nilT h) (by omega)
  have hE := set_one (i := 0) (u := .int .i64 40) (set_far (i := 7) (u := nilT) (N := N) (set_far (i := 6) (u := nilT) (N := N) (set_far (i := 5) (u := nilT) (N := N) (set_far (i := 4) (u := nilT) (N := N) (set_far (i := 3) (u := nilT) (N := N) (set_far (i := 2) (u := .int .i64 0) (N := N) (set_far (i := 1) (u := .int .i64 0) (N := N) (set_far (i := 0) (u := .int .u32 0) (N := N) h1 (by omega)) (by omega)) (by omega)) (by omega)) (by omega)) (by omega)) (by omega)) (by omega))
  have hB : Below N w (((((((((w.setCell ⟨N, 0, none⟩ (.int .u32 0)).setCell ⟨N, 1, none⟩ (.int .i64 0)).setCell ⟨N, 2, none⟩ (.int .i64 0)).setCell ⟨N, 3, none⟩ nilT).setCell ⟨N, 4, none⟩ nilT).setCell ⟨N, 5, none⟩ nilT).setCell ⟨N, 6, none⟩ nilT).setCell ⟨N, 7, none⟩ nilT).setCell ⟨N + 1, 0, none⟩ (.int .i64 40)) := by
    iterate 9 refine Below.setCell ?_ (by simp) _
    exact Below.refl _ _
  generalize ((((((((w.setCell ⟨N, 0, none⟩ (.int .u32 0)).setCell ⟨N, 1, none⟩ (.int .i64 0)).setCell ⟨N, 2, none⟩ (.int .i64 0)).setCell ⟨N, 3, none⟩ nilT).setCell ⟨N, 4, none⟩ nilT).setCell ⟨N, 5, none⟩ nilT).setCell ⟨N, 6, none⟩ nilT).setCell ⟨N, 7, none⟩ nilT).setCell ⟨N + 1, 0, none⟩ (.int .i64 40) = w9 at hN hE hB ⊢
  simp [bodyPostS, results, Tryz.results64]
  exact ⟨hN, hE, hB⟩

theorem catch_quiet (N : Nat) (w : World) :
    CallsD Tryz.prog 64 #[.pointer (some ⟨N, 0, none⟩), .pointer (some ⟨N + 1, 0, none⟩)] .returning w fun e u' w' => e = .returned (.tuple #[]) ∧ u' = .returning ∧ w' = w := by
  refine callsD_of_wpS Tryz.func64 rfl fun c₀ cs hu => ?_
  apply wpS_seq
  apply wpS_region
  simp [wpOpsS, go_sem, recoverD, hu, Tryz.ntmps64, Exit.thenS]
  refine wpS_cond (t := false) (by simp [Act.eval, Array.replicate]) ?_
  simp only [Bool.false_eq_true, if_false]
  refine wpS_of_wp (wp_skip ?_)
  cases c₀
  simp_all [bodyPostS, results, Tryz.results64]
end Go.Proofs.YtdhidpbenhmfgaaGreat
