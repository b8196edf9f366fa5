/- font.counts: chars, words, bytes; countsOf. -/
import Derived.Test.YtdhidpbenhmfgaaGreatM14
import Derived.Maps.AppendAt
import Derived.Deep.RegionHeld3
import Derived.IntWalk
namespace Go.Proofs.YtdhidpbenhmfgaaGreat
open Go.RowKit

structure Cnt where
  lf : Int
  lh : Int
  bc : Int
  ec : Int
  nw : Int
  nh : Int
  nd : Int
  ni : Int
  nl : Int
  nk : Int
  ne : Int
  np : Int
deriving DecidableEq
abbrev cntA (c : Cnt) : Value := .agg #[.int .i64 c.lf, .int .i64 c.lh, .int .i64 c.bc, .int .i64 c.ec, .int .i64 c.nw, .int .i64 c.nh, .int .i64 c.nd, .int .i64 c.ni, .int .i64 c.nl, .int .i64 c.nk, .int .i64 c.ne, .int .i64 c.np]
structure CBox (w : World) (B : Nat) (c : Cnt) : Prop where
  c0 : w.cell? ⟨B, 0, none⟩ = some (.int .i64 c.lf)
  c1 : w.cell? ⟨B, 1, none⟩ = some (.int .i64 c.lh)
  c2 : w.cell? ⟨B, 2, none⟩ = some (.int .i64 c.bc)
  c3 : w.cell? ⟨B, 3, none⟩ = some (.int .i64 c.ec)
  c4 : w.cell? ⟨B, 4, none⟩ = some (.int .i64 c.nw)
  c5 : w.cell? ⟨B, 5, none⟩ = some (.int .i64 c.nh)
  c6 : w.cell? ⟨B, 6, none⟩ = some (.int .i64 c.nd)
  c7 : w.cell? ⟨B, 7, none⟩ = some (.int .i64 c.ni)
  c8 : w.cell? ⟨B, 8, none⟩ = some (.int .i64 c.nl)
  c9 : w.cell? ⟨B, 9, none⟩ = some (.int .i64 c.nk)
  c10 : w.cell? ⟨B, 10, none⟩ = some (.int .i64 c.ne)
  c11 : w.cell? ⟨B, 11, none⟩ = some (.int .i64 c.np)
  free : ∀ o, w.frozen? ⟨B, o, none⟩ = false
  lt : B < w.heap.size
theorem CBox.of_obj {w : World} {B : Nat} {c : Cnt} {T : TypeId} (h : w.heap[B]? = some (.cells #[.int .i64 c.lf, .int .i64 c.lh, .int .i64 c.bc, .int .i64 c.ec, .int .i64 c.nw, .int .i64 c.nh, .int .i64 c.nd, .int .i64 c.ni, .int .i64 c.nl, .int .i64 c.nk, .int .i64 c.ne, .int .i64 c.np] T (0, 0))) : CBox w B c := by
  refine ⟨?_, ?_, ?_, ?_, ?_, ?_, ?_, ?_, ?_, ?_, ?_, ?_, fun o => ?_, ?_⟩
  case refine_14 =>
    rcases Nat.lt_or_ge B w.heap.size with h' | h'
    · exact h'
    · simp [Array.getElem?_eq_none h'] at h
  all_goals first | simp [World.cell?, h] | simp [World.frozen?, h]
theorem CBox.kept {w w' : World} {B : Nat} {c : Cnt} (h : CBox w B c) (hk : Kept w w') : CBox w' B c :=
  ⟨(hk.cell (p := ⟨B, 0, none⟩) h.lt).trans h.c0, (hk.cell (p := ⟨B, 1, none⟩) h.lt).trans h.c1, (hk.cell (p := ⟨B, 2, none⟩) h.lt).trans h.c2, (hk.cell (p := ⟨B, 3, none⟩) h.lt).trans h.c3, (hk.cell (p := ⟨B, 4, none⟩) h.lt).trans h.c4, (hk.cell (p := ⟨B, 5, none⟩) h.lt).trans h.c5, (hk.cell (p := ⟨B, 6, none⟩) h.lt).trans h.c6, (hk.cell (p := ⟨B, 7, none⟩) h.lt).trans h.c7, (hk.cell (p := ⟨B, 8, none⟩) h.lt).trans h.c8, (hk.cell (p := ⟨B, 9, none⟩) h.lt).trans h.c9, (hk.cell (p := ⟨B, 10, none⟩) h.lt).trans h.c10, (hk.cell (p := ⟨B, 11, none⟩) h.lt).trans h.c11, fun o => (hk.frozen (p := ⟨B, o, none⟩) h.lt).trans (h.free o), Nat.lt_of_lt_of_le h.lt hk.size⟩
/-- no sum of these wraps round -/
structure CntB (c : Cnt) : Prop where
  lh : -1 ≤ c.lh ∧ c.lh ≤ 16777216
  bc : -1 ≤ c.bc ∧ c.bc ≤ 16777216
  ec : -1 ≤ c.ec ∧ c.ec ≤ 16777216
  nw : -1 ≤ c.nw ∧ c.nw ≤ 16777216
  nh : -1 ≤ c.nh ∧ c.nh ≤ 16777216
  nd : -1 ≤ c.nd ∧ c.nd ≤ 16777216
  ni : -1 ≤ c.ni ∧ c.ni ≤ 16777216
  nl : -1 ≤ c.nl ∧ c.nl ≤ 16777216
  nk : -1 ≤ c.nk ∧ c.nk ≤ 16777216
  ne : -1 ≤ c.ne ∧ c.ne ≤ 16777216
  np : -1 ≤ c.np ∧ c.np ≤ 16777216

def charsC (c : Cnt) : Int := c.ec - c.bc + 1
def wordsC (c : Cnt) : Int := 6 + c.lh + charsC c + c.nw + c.nh + c.nd + c.ni + c.nl + c.nk + c.ne + c.np

set_option maxHeartbeats 1000000 in
theorem chars_any (c : Cnt) (w : World) (hb : CntB c) :
    Calls Tryz.prog 70 #[cntA c] w fun e w' => e = .returned (.int .i64 (charsC c)) ∧ Kept w w' := by
  obtain ⟨b0, b0'⟩ := hb.bc
  obtain ⟨b1, b1'⟩ := hb.ec
  clear hb
  obtain ⟨c0, c1, c2, c3, c4, c5, c6, c7, c8, c9, c10, c11⟩ := c
  dsimp only [charsC] at *
  go_enter Tryz.func70, Tryz.ntmps70
  go_wp2_with (fail)
  go_ret
  exact ⟨rfl, walloc _ _⟩

set_option maxRecDepth 100000 in
set_option maxHeartbeats 4000000 in
theorem words_any (c : Cnt) (w : World) (hb : CntB c) :
    Calls Tryz.prog 56 #[cntA c] w fun e w' => e = .returned (.int .i64 (wordsC c)) ∧ Kept w w' := by
  have hch := fun w => Lib.hid (chars_any c w hb)
  obtain ⟨l1, u1⟩ := hb.lh
  obtain ⟨l2, u2⟩ := hb.bc
  obtain ⟨l3, u3⟩ := hb.ec
  obtain ⟨l4, u4⟩ := hb.nw
  obtain ⟨l5, u5⟩ := hb.nh
  obtain ⟨l6, u6⟩ := hb.nd
  obtain ⟨l7, u7⟩ := hb.ni
  obtain ⟨l8, u8⟩ := hb.nl
  obtain ⟨l9, u9⟩ := hb.nk
  obtain ⟨l10, u10⟩ := hb.ne
  obtain ⟨l11, u11⟩ := hb.np
  clear hb
  have hq : -16777217 ≤ charsC c ∧ charsC c ≤ 16777218 := by unfold charsC; omega
  obtain ⟨W, hW⟩ : ∃ W, W = w.alloc (.cells #[.int .i64 c.lf, .int .i64 c.lh, .int .i64 c.bc, .int .i64 c.ec, .int .i64 c.nw, .int .i64 c.nh, .int .i64 c.nd, .int .i64 c.ni, .int .i64 c.nl, .int .i64 c.nk, .int .i64 c.ne, .int .i64 c.np] 61) := ⟨_, rfl⟩
  have hB : CBox W w.heap.size c := CBox.of_obj (by rw [hW]; exact mkobj _ _)
  have hk0 : Kept w W := by rw [hW]; exact walloc _ _
  have HW := Lib.hid hW
  clear hW
  have hwd : wordsC c = 6 + c.lh + charsC c + c.nw + c.nh + c.nd + c.ni + c.nl + c.nk + c.ne + c.np := rfl
  rw [hwd]
  clear hwd
  generalize charsC c = q at *
  have hS : ∀ w', Kept W w' → Hid (w'.cell? ⟨w.heap.size, 0, none⟩ = some (.int .i64 c.lf) ∧ w'.cell? ⟨w.heap.size, 1, none⟩ = some (.int .i64 c.lh) ∧ w'.cell? ⟨w.heap.size, 2, none⟩ = some (.int .i64 c.bc) ∧ w'.cell? ⟨w.heap.size, 3, none⟩ = some (.int .i64 c.ec) ∧ w'.cell? ⟨w.heap.size, 4, none⟩ = some (.int .i64 c.nw) ∧ w'.cell? ⟨w.heap.size, 5, none⟩ = some (.int .i64 c.nh) ∧ w'.cell? ⟨w.heap.size, 6, none⟩ = some (.int .i64 c.nd) ∧ w'.cell? ⟨w.heap.size, 7, none⟩ = some (.int .i64 c.ni) ∧ w'.cell? ⟨w.heap.size, 8, none⟩ = some (.int .i64 c.nl) ∧ w'.cell? ⟨w.heap.size, 9, none⟩ = some (.int .i64 c.nk) ∧ w'.cell? ⟨w.heap.size, 10, none⟩ = some (.int .i64 c.ne) ∧ w'.cell? ⟨w.heap.size, 11, none⟩ = some (.int .i64 c.np) ∧ Kept W w') := fun w' hk => by
    obtain ⟨y0, y1, y2, y3, y4, y5, y6, y7, y8, y9, y10, y11, _, _⟩ := hB.kept hk
    exact Lib.hid ⟨y0, y1, y2, y3, y4, y5, y6, y7, y8, y9, y10, y11, hk⟩
  have kb : Kept W W.drew := (Kept.refl W).drew
  obtain ⟨q0, q1⟩ := hq
  obtain ⟨c0, c1, c2, c3, c4, c5, c6, c7, c8, c9, c10, c11⟩ := c
  dsimp only at *
  clear hB
  go_enter Tryz.func56, Tryz.ntmps56
  go_wp2_with (fail)
  rw [← HW.out]
  go_region_held3 (fun w' => w'.cell? ⟨w.heap.size, 0, none⟩ = some (.int .i64 c0) ∧ w'.cell? ⟨w.heap.size, 1, none⟩ = some (.int .i64 c1) ∧ w'.cell? ⟨w.heap.size, 2, none⟩ = some (.int .i64 c2) ∧ w'.cell? ⟨w.heap.size, 3, none⟩ = some (.int .i64 c3) ∧ w'.cell? ⟨w.heap.size, 4, none⟩ = some (.int .i64 c4) ∧ w'.cell? ⟨w.heap.size, 5, none⟩ = some (.int .i64 c5) ∧ w'.cell? ⟨w.heap.size, 6, none⟩ = some (.int .i64 c6) ∧ w'.cell? ⟨w.heap.size, 7, none⟩ = some (.int .i64 c7) ∧ w'.cell? ⟨w.heap.size, 8, none⟩ = some (.int .i64 c8) ∧ w'.cell? ⟨w.heap.size, 9, none⟩ = some (.int .i64 c9) ∧ w'.cell? ⟨w.heap.size, 10, none⟩ = some (.int .i64 c10) ∧ w'.cell? ⟨w.heap.size, 11, none⟩ = some (.int .i64 c11) ∧ Kept W w') (exact (hS _ (by first | assumption | exact Below.drew (by assumption))).out) (first | (go_at_call 70; refine (hch _).out.mono ?_; rintro e z1 ⟨rfl, k1⟩; have kc := kb.trans k1; clear kb))
  all_goals go_wp2_with (fail)
  all_goals go_ret
  all_goals exact ⟨congrArg (fun z => Ending.returned (.int .i64 z)) (by rw [IntWalk.i64_in (6 + c1) (by omega), IntWalk.i64_in (6 + c1 + q) (by omega), IntWalk.i64_in (6 + c1 + q + c4) (by omega), IntWalk.i64_in (6 + c1 + q + c4 + c5) (by omega), IntWalk.i64_in (6 + c1 + q + c4 + c5 + c6) (by omega), IntWalk.i64_in (6 + c1 + q + c4 + c5 + c6 + c7) (by omega), IntWalk.i64_in (6 + c1 + q + c4 + c5 + c6 + c7 + c8) (by omega), IntWalk.i64_in (6 + c1 + q + c4 + c5 + c6 + c7 + c8 + c9) (by omega), IntWalk.i64_in (6 + c1 + q + c4 + c5 + c6 + c7 + c8 + c9 + c10) (by omega), IntWalk.i64_in (6 + c1 + q + c4 + c5 + c6 + c7 + c8 + c9 + c10 + c11) (by omega)]), hk0.trans kc⟩

abbrev BRow (w : World) (B : Nat) (v : Value) (l : List Int) : Prop := w.ownsRow B 5 1 v l.length (l.map (Value.int .u8))
def halfL (h : Int) : List Int := [h / 256 % 256, h % 256]
def cget (c : Cnt) (k : Nat) : Int := match k with
  | 0 => c.lf
  | 1 => c.lh
  | 2 => c.bc
  | 3 => c.ec
  | 4 => c.nw
  | 5 => c.nh
  | 6 => c.nd
  | 7 => c.ni
  | 8 => c.nl
  | 9 => c.nk
  | 10 => c.ne
  | _ => c.np
def cntL (c : Cnt) (k : Nat) : List Int := (List.range k).flatMap fun i => halfL (cget c i)
theorem cntL_next (c : Cnt) (k : Nat) : cntL c (k + 1) = cntL c k ++ halfL (cget c k) := by
  unfold cntL; rw [List.range_succ, List.flatMap_append]; simp
theorem cntL_len (c : Cnt) (k : Nat) : (cntL c k).length = 2 * k := by
  induction k with
  | zero => rfl
  | succ k ih => rw [cntL_next, List.length_append, ih]; simp [halfL]; omega
theorem infoU8 : (Tryz.prog.info? 5).map (fun i => (i.zero, i.size, i.bytes)) = some (some (.int .u8 0), 1, 1) := by kernel_rfl
theorem cells_new (w : World) (l : List Value) (t : TypeId) : ∀ j u, l[j]? = some u → (w.alloc (.cells l.toArray t)).cell? ((⟨w.heap.size, 0, none⟩ : Addr).add j) = some u := fun j u h => by
  have hm := mkobj w (.cells l.toArray t)
  by_cases hj : j = 0
  · subst hj
    simp only [World.cell?, Addr.add, if_true, hm]
    simp [h]
  · simp only [World.cell?, Addr.add, if_neg hj, hm]
    simp [h]
theorem wrap_u8_id {x : Int} (h0 : 0 ≤ x) (h1 : x < 256) : IntKind.u8.wrap x = x := by rw [IntKind.wrap_u8]; omega

def CntLoop (c : Cnt) (W : World) (s4 s33 : Value) (wr : World) : Prop := ∃ (k : Nat) (v : Value), k ≤ 12 ∧ s33 = .int .i64 k ∧ s4 = v ∧ BRow wr W.heap.size v (cntL c k) ∧ Kept W wr

set_option maxRecDepth 100000 in
set_option maxHeartbeats 4000000 in
theorem cbytes_any (c : Cnt) (w : World) (hb : ∀ k < 12, 0 ≤ cget c k ∧ cget c k ≤ 32767) :
    Calls Tryz.prog 23 #[cntA c] w fun e w' => ∃ v, e = .returned v ∧ BRow w' w.heap.size v (cntL c 12) ∧ Kept w w' := by
  obtain ⟨i0, hi, hz0, hz1, hz2⟩ := info_parts infoU8
  obtain ⟨W, hW⟩ : ∃ W, W = (w.alloc (.cells #[.int .i64 c.lf, .int .i64 c.lh, .int .i64 c.bc, .int .i64 c.ec, .int .i64 c.nw, .int .i64 c.nh, .int .i64 c.nd, .int .i64 c.ni, .int .i64 c.nl, .int .i64 c.nk, .int .i64 c.ne, .int .i64 c.np] 61)).alloc (.cells #[.int .i64 c.lf, .int .i64 c.lh, .int .i64 c.bc, .int .i64 c.ec, .int .i64 c.nw, .int .i64 c.nh, .int .i64 c.nd, .int .i64 c.ni, .int .i64 c.nl, .int .i64 c.nk, .int .i64 c.ne, .int .i64 c.np] 93) := ⟨_, rfl⟩
  have hk0 : Kept w W := by rw [hW]; exact (walloc _ _).trans (walloc _ _)
  have HW := Lib.hid hW
  clear hW
  have hidx : ∀ k < 12, ∀ w, (Instr.index 93 (.agg #[.int .i64 c.lf, .int .i64 c.lh, .int .i64 c.bc, .int .i64 c.ec, .int .i64 c.nw, .int .i64 c.nh, .int .i64 c.nd, .int .i64 c.ni, .int .i64 c.nl, .int .i64 c.nk, .int .i64 c.ne, .int .i64 c.np]) (.int .i64 (k : Nat))).run Tryz.prog w = .ok (.int .i64 (cget c k)) w := by
    intro k hk w
    match k, hk with
    | 0, _ => first | rfl | (show _ = _; kernel_rfl)
    | 1, _ => first | rfl | (show _ = _; kernel_rfl)
    | 2, _ => first | rfl | (show _ = _; kernel_rfl)
    | 3, _ => first | rfl | (show _ = _; kernel_rfl)
    | 4, _ => first | rfl | (show _ = _; kernel_rfl)
    | 5, _ => first | rfl | (show _ = _; kernel_rfl)
    | 6, _ => first | rfl | (show _ = _; kernel_rfl)
    | 7, _ => first | rfl | (show _ = _; kernel_rfl)
    | 8, _ => first | rfl | (show _ = _; kernel_rfl)
    | 9, _ => first | rfl | (show _ = _; kernel_rfl)
    | 10, _ => first | rfl | (show _ = _; kernel_rfl)
    | 11, _ => first | rfl | (show _ = _; kernel_rfl)

  obtain ⟨c0, c1, c2, c3, c4, c5, c6, c7, c8, c9, c10, c11⟩ := c
  dsimp only at hidx HW
  go_enter Tryz.func23, Tryz.ntmps23
  go_wp2_with (fail)
  rw [← HW.out]
  go_loopw [4, 33] (fun s4 s33 wr => CntLoop ⟨c0, c1, c2, c3, c4, c5, c6, c7, c8, c9, c10, c11⟩ W s4 s33 wr) (fun _ s33 _ => 12 - (intOf s33).toNat)
  case atStart => exact ⟨0, _, by omega, rfl, rfl, World.ownsRow_nil _ _ _ _, Kept.refl _⟩
  case round =>
    obtain ⟨k, v, hk, rfl, rfl, hrow, hkept⟩ := hrel
    by_cases hlt : k < 12
    · have hx := hidx k hlt
      obtain ⟨h0, h1⟩ := hb k hlt
      have hnx := cntL_next ⟨c0, c1, c2, c3, c4, c5, c6, c7, c8, c9, c10, c11⟩ k
      have hcl := cntL_len ⟨c0, c1, c2, c3, c4, c5, c6, c7, c8, c9, c10, c11⟩ k
      generalize cget ⟨c0, c1, c2, c3, c4, c5, c6, c7, c8, c9, c10, c11⟩ k = h at *
      have e1 : IntKind.u8.wrap (h / 256) = h / 256 % 256 := by rw [IntKind.wrap_u8]
      have e2 : IntKind.u8.wrap h = h % 256 := by rw [IntKind.wrap_u8]
      unfold halfL at hnx
      generalize h / 256 % 256 = x0 at *
      generalize h % 256 = x1 at *
      have d0 : decide ((k : Int) < 12) = true := decide_eq_true (by omega)
      have HN := Lib.hid hnx
      have HR := Lib.hid hrow
      clear hnx hrow hidx hb
      go_wp2_with (at_builtin; refine wpList_append_own_at _ rfl _ _ 30 rfl W.heap.size 5 i0 (.int .u8 0) 1 1 Tryz.underlying30 hi hz0 hz1 hz2 rfl (by decide) _ _ _ rfl (World.ownsRow.alloc HR.out _) ⟨wr.heap.size, 0, none⟩ 2 2 [.int .u8 x0, .int .u8 x1] rfl rfl (cells_new wr _ _) ?c1 ?c2 ?c3 ?c4 ?_)
      case c1 => first | rfl | (intro q hq; simp at hq; rcases hq with rfl | rfl <;> rfl) | simp
      case c2 => unfold maxLen; omega
      case c3 => omega
      case c4 => first | (have := hkept.size; omega) | (have := hkept.size; simp; omega)
      intro q y hown hgr _ _
      have hrow : BRow y W.heap.size q (cntL ⟨c0, c1, c2, c3, c4, c5, c6, c7, c8, c9, c10, c11⟩ (k + 1)) := by
        rw [HN.out]; unfold BRow; rw [List.map_append, List.length_append]; first | exact hown | (rw [hcl]; exact hown)
      have hky : Kept W y := Below.grown (kalloc hkept _) hgr (by simp; have := hkept.size; omega) (fun j e => (World.ownsRow.lt HR.out j e).1)
      clear hown hgr
      go_wp2_with (fail)
      go_roundw
      case rel => exact ⟨k + 1, q, by omega, by go_num, rfl, hrow, hky⟩
      case measure => simp [intOf]; omega
    · obtain rfl : k = 12 := by omega
      have HR := Lib.hid hrow
      clear hidx hb hrow
      go_wp2_with (fail)
      go_ret
      exact ⟨_, rfl, ⟨HR.out.1, HR.out.2.imp id fun ⟨g, cap, cur, e, hb, q⟩ => ⟨g, cap, cur, e, Nat.le_trans hk0.size hb, q⟩⟩, hk0.trans hkept⟩
end Go.Proofs.YtdhidpbenhmfgaaGreat
