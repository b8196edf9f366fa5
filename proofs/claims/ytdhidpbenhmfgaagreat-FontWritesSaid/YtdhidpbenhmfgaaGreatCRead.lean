/- font.Read, at any bytes. -/
import Derived.Test.YtdhidpbenhmfgaaGreatM33
import Derived.Test.YtdhidpbenhmfgaaGreatM14
import Derived.OneCell
namespace Go.Proofs.YtdhidpbenhmfgaaGreat
open Go.RowKit

def readE (bs : List Int) : Int := if 1048576 < bs.length then 6 else if readB bs then 0 else 40
def readV (bs : List Int) : Fnt := if 1048576 < bs.length then emptyF else if readB bs then readF bs else emptyF
theorem empty_at (w : World) (B : Nat) : FontAt w emptyF nilA B := ⟨fun h => by simp [emptyF] at h, fun h => by simp [emptyF] at h, fun h => by simp [emptyF] at h, fun h => by simp [emptyF] at h, fun h => by simp [emptyF] at h, by simp [emptyF, nilA]⟩
def ReadPost (bs : List Int) (w : World) (e : Ending) (w' : World) : Prop := ∃ a, e = .returned (.tuple #[fontV (readV bs) a, .int .i64 (readE bs)]) ∧ FontAt w' (readV bs) a w'.heap.size ∧ Kept w w'
theorem leaves_ret {P : Program} {fn : Func} {tmps : Array Value} {R : Ending → World → Prop} {w : World} {v : Value} {u : FrameMode} (hu : u = .returning) (h : (results fn tmps).run P w = .ok v w) (hr : R (.returned v) w) : Leaves P fn tmps R [] u w := by
  subst hu
  exact ⟨v, h, hr⟩
theorem own_ne_T {w : World} {B n s X : Nat} {e T : TypeId} {v : Value} {c : Array Value} {xs : List Value} (h : w.ownsRow B e s v n xs) (hX : w.heap[X]? = some (.cells c T (0, 0))) (hT : e ≠ T) : v.ownBlock = none ∨ v.ownBlock ≠ some X := by
  rcases h.2 with ⟨rfl, _⟩ | ⟨g, cap, cur, rfl, _, hg, _⟩
  · exact .inl rfl
  · refine .inr fun e => ?_
    simp [Value.ownBlock] at e
    subst e
    have q := Option.some.inj (hg.symm.trans hX)
    injection q with _ q2 _
    exact hT q2
theorem Rows5.one {w w' : World} {N X nc nl ne : Nat} {v0 v1 v2 v3 v4 : Value} {c : Array Value} {M : List Met} {S P : List St} {K Q : List Int} (h : Rows5 w N v0 v1 v2 v3 v4 nc nl ne M S P K Q) (hX : w.heap[X]? = some (.cells c 31 (0, 0))) (g : w.grownBy w' (some X)) : Rows5 w' N v0 v1 v2 v3 v4 nc nl ne M S P K Q :=
  ⟨h.r0.kept g (own_ne_T h.r0 hX (by decide)), h.r1.kept g (own_ne_T h.r1 hX (by decide)), World.ownsRow.kept h.r2 g (own_ne_T h.r2 hX (by decide)), h.r3.kept g (own_ne_T h.r3 hX (by decide)), World.ownsRow.kept h.r4 g (own_ne_T h.r4 hX (by decide))⟩
theorem mets_one {w w' : World} {A : Option Addr} {l : List Met} {B X : Nat} {v : Value} {T : TypeId} (h : MetsAt w A l B) (hB : B ≤ w.heap.size) (hX : w.heap[X]? = some (.cells #[v] T (0, 0))) (g : w.grownBy w' (some X)) : MetsAt w' A l B := by
  intro hn
  obtain ⟨bb, o, rfl, hb, hc⟩ := h hn
  have hne : bb ≠ X := by
    rintro rfl
    obtain ⟨q0, q1, _⟩ := hc 0 hn
    simp only [World.cell?, hX] at q0 q1
    rcases o with _ | o <;> simp at q0 q1
  refine ⟨bb, o, rfl, hb, fun i hi => ?_⟩
  have e : ∀ j, w'.cell? ⟨bb, j, none⟩ = w.cell? ⟨bb, j, none⟩ := fun j => World.cell?_of_block (a := ⟨bb, j, none⟩) (g.block bb (by omega) (by intro e; cases e; exact hne rfl))
  rw [e, e, e, e, e, e]
  exact hc i hi
theorem FRead.box {w w' : World} {N X : Nat} {F : Fnt} {a : FAddr} {c0 c1 c2 : Int} {v4 v5 v6 v7 : Value} {A3 : Option Addr} {n3 c3 : Nat} (h : FRead w N F a) (hX : FObj w X (.int .u32 c0) (.int .i64 c1) (.int .i64 c2) (.slice A3 n3 c3) v4 v5 v6 v7) (g : w.grownBy w' (some X)) : FRead w' N F a := by
  obtain ⟨v0, nc, M, hm, hc, q⟩ := h
  exact ⟨v0, nc, M, (mets_box hm (Nat.le_refl _) hX rfl g).more g.size, hc, q.box hX g⟩
theorem FRead.one {w w' : World} {N X : Nat} {F : Fnt} {a : FAddr} {v : Value} (h : FRead w N F a) (hX : w.heap[X]? = some (.cells #[v] 31 (0, 0))) (g : w.grownBy w' (some X)) : FRead w' N F a := by
  obtain ⟨v0, nc, M, hm, hc, q⟩ := h
  exact ⟨v0, nc, M, (mets_one hm (Nat.le_refl _) hX g).more g.size, hc, q.one hX g⟩
theorem box95 (w : World) (b o n c : Nat) (bs : List Int) (hn : bs.length = n) (hbytes : ∀ i, ∀ h : i < bs.length, w.cell? ⟨b, o + i, none⟩ = some (.int .u8 bs[i])) (hbl : b < w.heap.size) (hcap : n ≤ c) (hbig : c ≤ 9223372036854775807) :
    Rd (w.alloc (.cells #[.slice (some ⟨b, o, none⟩) n c] 101)) w.heap.size b o c 0 bs := by
  subst hn
  refine ⟨⟨o, by rw [Nat.sub_zero, Nat.sub_zero]; exact mkobj _ _, fun _ => rfl⟩, fun i hi => ?_, by omega, Nat.zero_le _, hcap, hbig, by simp; omega⟩
  have k := walloc w (.cells #[.slice (some ⟨b, o, none⟩) bs.length c] 101)
  exact (k.cell (p := ⟨b, o + i, none⟩) hbl).trans (hbytes i hi)

set_option maxRecDepth 100000 in
set_option maxHeartbeats 4000000 in
theorem cread_long (A : Option Addr) (n c : Nat) (bs : List Int) (w : World) (hn : bs.length = n) (hl : 1048576 < n) :
    Calls Tryz.prog 47 #[.slice A n c] w fun e w' => ReadPost bs w e w' := by
  have e1 : readV bs = emptyF := by unfold readV; rw [hn, if_pos hl]
  have e2 : readE bs = 6 := by unfold readE; rw [hn, if_pos hl]
  have d0 : decide ((1048576 : Int) < n) = true := decide_eq_true (by omega)
  refine Calls.mono (?_ : Calls _ _ _ _ fun e w' => e = .returned (.tuple #[fontV emptyF nilA, .int .i64 6]) ∧ Kept w w') fun e w' q => ⟨nilA, by rw [e1, e2]; exact q.1, by rw [e1]; exact empty_at _ _, q.2⟩
  clear e1 e2 hn
  have hz : (((w.alloc (.cells #[.int .u32 0, .int .i64 0, .int .i64 0, .slice none 0 0, .slice none 0 0, .slice none 0 0, .slice none 0 0, .slice none 0 0] 28)).alloc (.cells #[.int .i64 6] 31))).heap[w.heap.size]? = some (.cells #[.int .u32 0, .int .i64 0, .int .i64 0, .slice none 0 0, .slice none 0 0, .slice none 0 0, .slice none 0 0, .slice none 0 0] 28 (0, 0)) := (walloc _ _).block w.heap.size (by simp) |>.trans (mkobj _ _)
  have hy : (((w.alloc (.cells #[.int .u32 0, .int .i64 0, .int .i64 0, .slice none 0 0, .slice none 0 0, .slice none 0 0, .slice none 0 0, .slice none 0 0] 28)).alloc (.cells #[.int .i64 6] 31))).heap[w.heap.size + 1]? = some (.cells #[.int .i64 6] 31 (0, 0)) := by
    have q := mkobj (w.alloc (.cells #[.int .u32 0, .int .i64 0, .int .i64 0, .slice none 0 0, .slice none 0 0, .slice none 0 0, .slice none 0 0, .slice none 0 0] 28)) (.cells #[.int .i64 6] 31)
    simpa using q
  have HZ := Lib.hid (And.intro hz hy)
  clear hz hy
  go_enter_defers Tryz.func47, Tryz.ntmps47
  go_wp2_with (fail)
  obtain ⟨x0, x1, x2, x3, x4, x5, x6, x7, _, _⟩ := cells8 HZ.out.1
  have y0 : (((w.alloc (.cells #[.int .u32 0, .int .i64 0, .int .i64 0, .slice none 0 0, .slice none 0 0, .slice none 0 0, .slice none 0 0, .slice none 0 0] 28)).alloc (.cells #[.int .i64 6] 31))).cell? ⟨w.heap.size + 1, 0, none⟩ = some (.int .i64 6) := by simp only [World.cell?, HZ.out.2]; rfl
  refine leaves_ret (v := .tuple #[.agg #[.int .u32 0, .int .i64 0, .int .i64 0, .slice none 0 0, .slice none 0 0, .slice none 0 0, .slice none 0 0, .slice none 0 0], .int .i64 6]) rfl (by simp [results, Tryz.results47, go_sem]) ⟨rfl, (walloc _ _).trans (walloc _ _)⟩
set_option maxRecDepth 100000 in
set_option maxHeartbeats 4000000 in
theorem cread_some (w : World) (b o n c : Nat) (bs : List Int) (hn : bs.length = n) (hbytes : ∀ i, ∀ h : i < bs.length, w.cell? ⟨b, o + i, none⟩ = some (.int .u8 bs[i])) (hbl : b < w.heap.size) (hcap : n ≤ c) (hbig : c ≤ 9223372036854775807) (hb : BytesOk bs) (hl : n ≤ 1048576) :
    Calls Tryz.prog 47 #[.slice (some ⟨b, o, none⟩) n c] w fun e w' => ReadPost bs w e w' := by
  have hmf : ∀ (fn : Fn) (first cap : Array Value) (w : World), (Instr.makeFunc fn first cap).run Tryz.prog w = .ok (.func fn first cap) w := fun _ _ _ _ => rfl
  have d0 : decide ((1048576 : Int) < n) = false := decide_eq_false (by omega)
  obtain ⟨W0, hW0⟩ : ∃ W0, W0 = (w.alloc (.cells #[.int .u32 0, .int .i64 0, .int .i64 0, .slice none 0 0, .slice none 0 0, .slice none 0 0, .slice none 0 0, .slice none 0 0] 28)).alloc (.cells #[.int .i64 0] 31) := ⟨_, rfl⟩
  have k0 : Kept w W0 := by rw [hW0]; exact (walloc _ _).trans (walloc _ _)
  have sW : W0.heap.size = w.heap.size + 2 := by rw [hW0]; simp
  have hR := box95 W0 b o n c bs hn (fun i hi => (k0.cell (p := ⟨b, o + i, none⟩) hbl).trans (hbytes i hi)) (Nat.lt_of_lt_of_le hbl k0.size) hcap hbig
  have HF := Lib.hid (rfont_any _ _ _ _ _ bs hR hb (by omega))
  have o0 : W0.heap[w.heap.size]? = some (.cells #[.int .u32 0, .int .i64 0, .int .i64 0, .slice none 0 0, .slice none 0 0, .slice none 0 0, .slice none 0 0, .slice none 0 0] 28 (0, 0)) := by rw [hW0]; exact (walloc _ _).block w.heap.size (by simp) |>.trans (mkobj _ _)
  have o1 : W0.heap[w.heap.size + 1]? = some (.cells #[.int .i64 0] 31 (0, 0)) := by
    rw [hW0]
    have q := mkobj (w.alloc (.cells #[.int .u32 0, .int .i64 0, .int .i64 0, .slice none 0 0, .slice none 0 0, .slice none 0 0, .slice none 0 0, .slice none 0 0] 28)) (.cells #[.int .i64 0] 31)
    simpa using q
  have HO := Lib.hid (And.intro o0 o1)
  have HW0 := Lib.hid hW0
  have Hbl := hbl
  clear hW0 hR hbytes o0 o1 hb hbl
  rw [sW] at HF
  go_enter_defers Tryz.func47, Tryz.ntmps47
  go_wp2_with (fail)
  rw [← HW0.out]
  refine HF.out.mono ?_
  rintro e w1 (⟨hr, a, rfl, hF, hg⟩ | ⟨hr, rfl, hg⟩)
  · have k1 : Kept w w1 := Below.grown (k0.trans (walloc W0 _)) hg (k0.trans (walloc W0 _)).size (fun g e => by cases e; omega)
    have b0 : FObj w1 w.heap.size (.int .u32 0) (.int .i64 0) (.int .i64 0) nilS nilS nilS nilS nilS := FObj.grown (w := W0.alloc _) ((walloc W0 _).block w.heap.size (by omega) |>.trans HO.out.1) hg (by intro e; injection e with e; omega)
    have b1 : w1.heap[w.heap.size + 1]? = some (.cells #[.int .i64 0] 31 (0, 0)) := (hg.block (w.heap.size + 1) (by simp; omega) (by intro e; injection e with e; omega)).trans ((walloc W0 _).block (w.heap.size + 1) (by omega) |>.trans HO.out.2)
    obtain ⟨x0, x1, x2, x3, x4, x5, x6, x7, xf, xl⟩ := b0.cells
    have y0 : w1.cell? ⟨w.heap.size + 1, 0, none⟩ = some (.int .i64 0) := by simp [World.cell?, b1]
    have yf : w1.frozen? ⟨w.heap.size + 1, 0, none⟩ = false := by simp [World.frozen?, b1]
    have HF2 := Lib.hid hF
    have HX := Lib.hid (And.intro b0 b1)
    clear hF b0 b1 hg HF HO
    generalize hq : readF bs = F at HF2
    obtain ⟨F0, F1, F2, F3, F4, F5, F6, F7⟩ := F
    obtain ⟨a0, a1, a2, a3, a4, a5, a6, a7, a8, a9⟩ := a
    dsimp only [fontV]
    have e1 : readV bs = ⟨F0, F1, F2, F3, F4, F5, F6, F7⟩ := by unfold readV; rw [hn, if_neg (by omega), if_pos hr, hq]
    have e2 : readE bs = 0 := by unfold readE; rw [hn, if_neg (by omega), if_pos hr]
    have HE := Lib.hid (And.intro e1 e2)
    clear e1 e2 hr hq hn
    go_wp2_with (fail)
    refine leaves_cons (f := 64) (args := #[.pointer (some ⟨w.heap.size, 0, none⟩), .pointer (some ⟨w.heap.size + 1, 0, none⟩)]) (by simp) (by simp [go_sem]) ?_
    refine (catch_quiet w.heap.size _).mono ?_
    rintro e u' w'' ⟨rfl, rfl, rfl⟩
    have g1 := grown_set8 w1 w.heap.size (.int .u32 F0) (.int .i64 F1) (.int .i64 F2) (.slice a0 F3.length a1) (.slice a2 F4.length a3) (.slice a4 F5.length a5) (.slice a6 F6.length a7) (.slice a8 F7.length a9)
    have b1' : (set8w w1 w.heap.size (.int .u32 F0) (.int .i64 F1) (.int .i64 F2) (.slice a0 F3.length a1) (.slice a2 F4.length a3) (.slice a4 F5.length a5) (.slice a6 F6.length a7) (.slice a8 F7.length a9)).heap[w.heap.size + 1]? = some (.cells #[.int .i64 0] 31 (0, 0)) :=
      (g1.block (w.heap.size + 1) (Array.getElem?_eq_some_iff.1 HX.out.2).1 (by intro e; injection e with e; omega)).trans HX.out.2
    have g2 := grown_set1 (set8w w1 w.heap.size (.int .u32 F0) (.int .i64 F1) (.int .i64 F2) (.slice a0 F3.length a1) (.slice a2 F4.length a3) (.slice a4 F5.length a5) (.slice a6 F6.length a7) (.slice a8 F7.length a9)) (w.heap.size + 1) 0 (.int .i64 0)
    have hF := (HF2.out.box HX.out.1 g1).one b1' g2
    have kf : Kept w _ := Below.grown (Below.grown k1 g1 k1.size (fun g e => by cases e; exact Nat.le_refl _)) g2 (Nat.le_trans k1.size g1.size) (fun g e => by cases e; omega)
    obtain ⟨t0, t1, t2, t3, t4, t5, t6, t7, _, _⟩ := ((HX.out.1.set8 (u0 := .int .u32 F0) (u1 := .int .i64 F1) (u2 := .int .i64 F2) (u3 := .slice a0 F3.length a1) (u4 := .slice a2 F4.length a3) (u5 := .slice a4 F5.length a5) (u6 := .slice a6 F6.length a7) (u7 := .slice a8 F7.length a9)).grown g2 (by intro e; injection e with e; omega)).cells
    have t8 := cell_of_one (block_set1 (i := 0) (u := .int .i64 0) b1')
    refine leaves_ret (v := .tuple #[.agg #[.int .u32 F0, .int .i64 F1, .int .i64 F2, .slice a0 F3.length a1, .slice a2 F4.length a3, .slice a4 F5.length a5, .slice a6 F6.length a7, .slice a8 F7.length a9], .int .i64 0]) rfl (by simp [results, Tryz.results47, go_sem, t0, t1, t2, t3, t4, t5, t6, t7, t8]) ⟨⟨a0, a1, a2, a3, a4, a5, a6, a7, a8, a9⟩, by rw [HE.out.1, HE.out.2], by rw [HE.out.1]; exact hF.font, kf⟩
  · have k1 : Kept w w1 := Below.grown (k0.trans (walloc W0 _)) hg (k0.trans (walloc W0 _)).size (fun g e => by cases e; omega)
    have b0 : w1.heap[w.heap.size]? = some (.cells #[.int .u32 0, .int .i64 0, .int .i64 0, .slice none 0 0, .slice none 0 0, .slice none 0 0, .slice none 0 0, .slice none 0 0] 28 (0, 0)) := (hg.block w.heap.size (by simp; omega) (by intro e; injection e with e; omega)).trans ((walloc W0 _).block w.heap.size (by omega) |>.trans HO.out.1)
    have b1 : w1.heap[w.heap.size + 1]? = some (.cells #[.int .i64 0] 31 (0, 0)) := (hg.block (w.heap.size + 1) (by simp; omega) (by intro e; injection e with e; omega)).trans ((walloc W0 _).block (w.heap.size + 1) (by omega) |>.trans HO.out.2)
    have e1 : readV bs = emptyF := by unfold readV; rw [hn, if_neg (by omega), hr]; rfl
    have e2 : readE bs = 40 := by unfold readE; rw [hn, if_neg (by omega), hr]; rfl
    refine leaves_cons (f := 64) (args := #[.pointer (some ⟨w.heap.size, 0, none⟩), .pointer (some ⟨w.heap.size + 1, 0, none⟩)]) (by simp) (by simp [go_sem]) ?_
    refine (catch_panics w.heap.size _ _ _ _ _ _ _ _ 0 _ _ [] w1 b0 b1).mono ?_
    rintro e u' w'' ⟨rfl, rfl, hN, hE, hB⟩
    obtain ⟨t0, t1, t2, t3, t4, t5, t6, t7, _, _⟩ := cells8 hN
    have t8 := cell_of_one hE
    refine leaves_ret (v := .tuple #[.agg #[.int .u32 0, .int .i64 0, .int .i64 0, .slice none 0 0, .slice none 0 0, .slice none 0 0, .slice none 0 0, .slice none 0 0], .int .i64 40]) rfl (by simp [results, Tryz.results47, go_sem, t0, t1, t2, t3, t4, t5, t6, t7, t8]) ⟨nilA, by rw [e1, e2]; rfl, by rw [e1]; exact empty_at _ _, Below.trans k1 hB⟩
theorem cread_nil (w : World) : Calls Tryz.prog 47 #[.slice none 0 0] w fun e w' => ReadPost [] w e w' := by
  have hmf : ∀ (fn : Fn) (first cap : Array Value) (w : World), (Instr.makeFunc fn first cap).run Tryz.prog w = .ok (.func fn first cap) w := fun _ _ _ _ => rfl
  obtain ⟨W0, hW0⟩ : ∃ W0, W0 = (w.alloc (.cells #[.int .u32 0, .int .i64 0, .int .i64 0, .slice none 0 0, .slice none 0 0, .slice none 0 0, .slice none 0 0, .slice none 0 0] 28)).alloc (.cells #[.int .i64 0] 31) := ⟨_, rfl⟩
  have k0 : Kept w W0 := by rw [hW0]; exact (walloc _ _).trans (walloc _ _)
  have sW : W0.heap.size = w.heap.size + 2 := by rw [hW0]; simp
  have hR : Rd0 (W0.alloc (.cells #[.slice none 0 0] 101)) W0.heap.size := ⟨none, 0, by have q := mkobj W0 (.cells #[.slice none 0 0] 101); simp only [World.cell?, q]; rfl⟩
  have HF := Lib.hid (rfont_0 _ _ hR (by simp))
  have o0 : W0.heap[w.heap.size]? = some (.cells #[.int .u32 0, .int .i64 0, .int .i64 0, .slice none 0 0, .slice none 0 0, .slice none 0 0, .slice none 0 0, .slice none 0 0] 28 (0, 0)) := by rw [hW0]; exact (walloc _ _).block w.heap.size (by simp) |>.trans (mkobj _ _)
  have o1 : W0.heap[w.heap.size + 1]? = some (.cells #[.int .i64 0] 31 (0, 0)) := by
    rw [hW0]
    have q := mkobj (w.alloc (.cells #[.int .u32 0, .int .i64 0, .int .i64 0, .slice none 0 0, .slice none 0 0, .slice none 0 0, .slice none 0 0, .slice none 0 0] 28)) (.cells #[.int .i64 0] 31)
    simpa using q
  have HO := Lib.hid (And.intro o0 o1)
  have HW0 := Lib.hid hW0
  have hr : readB [] = false := by
    unfold readB
    rw [countsB_no (i := 0) (by omega) (by unfold halfOk; simp)]
    rfl
  have HR := Lib.hid hr
  clear hW0 hR o0 o1 hr
  rw [sW] at HF
  go_enter_defers Tryz.func47, Tryz.ntmps47
  go_wp2_with (fail)
  rw [← HW0.out]
  refine HF.out.mono ?_
  rintro e w1 ⟨rfl, hg⟩
  have k1 : Kept w w1 := (k0.trans (walloc W0 _)).trans hg
  have b0 : w1.heap[w.heap.size]? = some (.cells #[.int .u32 0, .int .i64 0, .int .i64 0, .slice none 0 0, .slice none 0 0, .slice none 0 0, .slice none 0 0, .slice none 0 0] 28 (0, 0)) := (hg.block w.heap.size (by simp; omega)).trans ((walloc W0 _).block w.heap.size (by omega) |>.trans HO.out.1)
  have b1 : w1.heap[w.heap.size + 1]? = some (.cells #[.int .i64 0] 31 (0, 0)) := (hg.block (w.heap.size + 1) (by simp; omega)).trans ((walloc W0 _).block (w.heap.size + 1) (by omega) |>.trans HO.out.2)
  have e1 : readV [] = emptyF := by unfold readV; rw [if_neg (by simp), HR.out]; rfl
  have e2 : readE [] = 40 := by unfold readE; rw [if_neg (by simp), HR.out]; rfl
  refine leaves_cons (f := 64) (args := #[.pointer (some ⟨w.heap.size, 0, none⟩), .pointer (some ⟨w.heap.size + 1, 0, none⟩)]) (by simp) (by simp [go_sem]) ?_
  refine (catch_panics w.heap.size _ _ _ _ _ _ _ _ 0 _ _ [] w1 b0 b1).mono ?_
  rintro e u' w'' ⟨rfl, rfl, hN, hE, hB⟩
  obtain ⟨t0, t1, t2, t3, t4, t5, t6, t7, _, _⟩ := cells8 hN
  have t8 := cell_of_one hE
  refine leaves_ret (v := .tuple #[.agg #[.int .u32 0, .int .i64 0, .int .i64 0, .slice none 0 0, .slice none 0 0, .slice none 0 0, .slice none 0 0, .slice none 0 0], .int .i64 40]) rfl (by simp [results, Tryz.results47, go_sem, t0, t1, t2, t3, t4, t5, t6, t7, t8]) ⟨nilA, by rw [e1, e2]; rfl, by rw [e1]; exact empty_at _ _, Below.trans k1 hB⟩
/-- font.Read of any bytes -/
theorem cread_any (A : Option Addr) (n c : Nat) (bs : List Int) (w : World) (hn : bs.length = n) (hA : BytesAt w A bs w.heap.size) (hcap : n ≤ c) (hbig : c ≤ maxLen) (hb : BytesOk bs) (h0 : A = none → c = 0) (hs : ∀ a, A = some a → ∃ b o, a = ⟨b, o, none⟩ ∧ b < w.heap.size) :
    Calls Tryz.prog 47 #[.slice A n c] w fun e w' => ReadPost bs w e w' := by
  unfold maxLen at hbig
  by_cases hl : 1048576 < n
  · exact cread_long A n c bs w hn hl
  · cases A with
    | none =>
      obtain rfl := h0 rfl
      obtain rfl : n = 0 := by omega
      obtain rfl := List.length_eq_zero_iff.1 hn
      exact cread_nil w
    | some a =>
      obtain ⟨b, o, rfl, hbl⟩ := hs a rfl
      refine cread_some w b o n c bs hn (fun i hi => ?_) hbl hcap (by omega) hb (by omega)
      obtain ⟨b', o', e, _, q⟩ := hA (by omega)
      cases e
      exact q i hi
end Go.Proofs.YtdhidpbenhmfgaaGreat
