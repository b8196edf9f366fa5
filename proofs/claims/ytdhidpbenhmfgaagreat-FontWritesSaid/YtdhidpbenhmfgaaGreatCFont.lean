/- font's reader: the font, at any bytes. -/
import Derived.Test.YtdhidpbenhmfgaaGreatCFon0
namespace Go.Proofs.YtdhidpbenhmfgaaGreat
open Go.RowKit

theorem fontAt_of {z : World} {N nc nl nk ne np c0 c1 c2 c3 c4 : Nat} {A0 A1 A2 A3 A4 : Option Addr} {v0 : Value} {chk des fi : Int} {M T : List Met} {S P : List St} {K Q : List Int} (hm : MetsAt z A0 T z.heap.size) (hmc : T.length ≤ c0) (q : Rows5 z N v0 (.slice A1 nl c1) (.slice A2 nk c2) (.slice A3 ne c3) (.slice A4 np c4) nc nl ne M S P K Q) (hS : S.length = nl) (hP : P.length = ne) :
    FontAt z ⟨chk, des, fi, T, S, K, P, Q⟩ ⟨A0, c0, A1, c1, A2, c2, A3, c3, A4, c4⟩ z.heap.size := by
  obtain ⟨s1, s2, _⟩ := own_sts' q.r1 hS
  obtain ⟨k1, k2, _⟩ := own_nums' q.r2
  obtain ⟨p1, p2, _⟩ := own_sts' q.r3 hP
  obtain ⟨q1, q2, _⟩ := own_nums' q.r4
  exact ⟨hm, s1, k1, p1, q1, hmc, by rw [← hS] at s2; exact s2, k2, by rw [← hP] at p2; exact p2, q2⟩
/-- a font in rows of the call's own -/
def FRead (w : World) (N : Nat) (F : Fnt) (a : FAddr) : Prop := ∃ v0 nc M, MetsAt w a.A0 F.chars w.heap.size ∧ F.chars.length ≤ a.c0 ∧ Rows5 w N v0 (.slice a.A1 F.steps.length a.c1) (.slice a.A2 F.kerns.length a.c2) (.slice a.A3 F.pieces.length a.c3) (.slice a.A4 F.params.length a.c4) nc F.steps.length F.pieces.length M F.steps F.pieces F.kerns F.params
theorem FRead.font {w : World} {N : Nat} {F : Fnt} {a : FAddr} (h : FRead w N F a) : FontAt w F a w.heap.size := by
  obtain ⟨v0, nc, M, hm, hc, q⟩ := h
  exact fontAt_of hm hc q rfl rfl
theorem hdr_cells {w : World} {B lh : Nat} {v : Value} {bs : List Int} (h : w.ownsRow B 22 1 v lh ((wordsAt bs 24 lh).flatMap (fun s => [Value.int .u32 (unsV s)]))) (hl : 2 ≤ lh) :
    ∃ g c, v = .slice (some ⟨g, 0, none⟩) lh c ∧ B ≤ g ∧ g < w.heap.size ∧ w.cell? ⟨g, 0, none⟩ = some (.int .u32 (unsV (wordS bs 24))) ∧ w.cell? ⟨g, 1, none⟩ = some (.int .u32 (unsV (wordS bs 28))) := by
  rcases h.2 with ⟨rfl, h0⟩ | ⟨g, cap, cur, rfl, hb, hg, hn, hc, hs, ht⟩
  · omega
  · refine ⟨g, cap, rfl, hb, (Array.getElem?_eq_some_iff.1 hg).1, ?_, ?_⟩
    · have q := World.ownsRow.cells h (g := g) rfl 0 (.int .u32 (unsV (wordS bs 24))) (by
        obtain ⟨m, rfl⟩ : ∃ m, lh = m + 2 := ⟨lh - 2, by omega⟩
        rw [wordsAt_cons]; rfl)
      rw [Go.Addr.add_mid] at q
      simpa using q
    · have q := World.ownsRow.cells h (g := g) rfl 1 (.int .u32 (unsV (wordS bs 28))) (by
        obtain ⟨m, rfl⟩ : ∃ m, lh = m + 1 + 1 := ⟨lh - 2, by omega⟩
        rw [wordsAt_cons, wordsAt_cons]; rfl)
      rw [Go.Addr.add_mid] at q
      simpa using q
theorem row_keepG {z z' : World} {B R n s : Nat} {e : TypeId} {v : Value} {xs : List Value} (h : z.ownsRow B e s v n xs) (g : z.grownBy z' (some R)) (hR : R < B) : z'.ownsRow B e s v n xs := h.kept g (own_ne h hR)
theorem nums_at {W z : World} {B R n c : Nat} {A : Option Addr} {xs : List Int} (h : IRow W B (.slice A n c) xs) (g : W.grownBy z (some R)) (hR : R < B) : NumsAt z A xs z.heap.size := (own_nums' (row_keep h g hR)).1
theorem bools_no {a b c : Bool} (h : a = false ∨ b = false ∨ c = false) : (a && (b && c)) = false := by
  rcases h with rfl | rfl | rfl <;> simp
theorem cell_grown {a b : World} {R B : Nat} (g : a.grownBy b (some R)) (hB : B < a.heap.size) (hR : R < B) (o : Nat) : b.cell? ⟨B, o, none⟩ = a.cell? ⟨B, o, none⟩ :=
  World.cell?_of_block (a := ⟨B, o, none⟩) (g.block B hB (by intro e; cases e; omega))
theorem cbox_grown {a b : World} {R B : Nat} {c : Cnt} (h : CBox a B c) (g : a.grownBy b (some R)) (hR : R < B) : CBox b B c := by
  have e := cell_grown g h.lt hR
  have ef : ∀ o, b.frozen? ⟨B, o, none⟩ = a.frozen? ⟨B, o, none⟩ := fun o => World.frozen?_of_block (a := ⟨B, o, none⟩) (g.block B h.lt (by intro e; cases e; omega))
  exact ⟨by rw [e]; exact h.c0, by rw [e]; exact h.c1, by rw [e]; exact h.c2, by rw [e]; exact h.c3, by rw [e]; exact h.c4, by rw [e]; exact h.c5, by rw [e]; exact h.c6, by rw [e]; exact h.c7, by rw [e]; exact h.c8, by rw [e]; exact h.c9, by rw [e]; exact h.c10, by rw [e]; exact h.c11, fun o => by rw [ef]; exact h.free o, Nat.lt_of_lt_of_le h.lt g.size⟩
theorem oper_enter {P : Program} {o : Oper} {a : Act} {w : World} {next : Act → World → Prop} {Q : Exit → Act → World → Prop} {f : FuncId} {args : Array Value} (h : (execOp a.eval o).run P w = .ok (.enter f args) w)
    (hc : Calls P f args w fun
      | .returned v, w'' => next (a.put o.dst v) w''
      | .panicked chain, w'' => Q (.panic chain) a w''
      | .outgrown, _ => LetsOut Q) : Oper.wp P o a w next Q := by
  unfold Oper.wp
  rw [h]
  exact hc
theorem maxLen_ge {n : Nat} (h : n ≤ 1048576) : n ≤ maxLen := by unfold maxLen; omega

set_option maxRecDepth 100000 in
set_option maxHeartbeats 16000000 in
theorem rfont_core (w : World) (R b o d lh nc n0 n1 n2 n3 nl nk ne np k1 k2 k3 k4 k5 k6 : Nat) (lf bc ec chk des : Int) (bs X0 X1 X2 X3 K Q : List Int) (WS S P : List St) (M : List Met) (zB mB : Bool)
    (h : Rd w R b o d 0 bs) (hb : BytesOk bs) (hlen : bs.length ≤ 1048576) (hcy : countsB bs = true) (hcnt : cntB bs = ⟨lf, lh, bc, ec, n0, n1, n2, n3, nl, nk, ne, np⟩) (hnc : charsC (cntB bs) = nc) (hcb : CntB (cntB bs)) (hlh : 2 ≤ lh)
    (hk1 : k1 = 24 + 4 * lh) (hk2 : k2 = k1 + 4 * nc) (hk3 : k3 = k2 + 4 * n0 + 4 * n1 + 4 * n2 + 4 * n3) (hk4 : k4 = k3 + 4 * nl) (hk5 : k5 = k4 + 4 * nk) (hk6 : k6 = k5 + 4 * ne) (hfit : k6 + 4 * np ≤ bs.length)
    (hbc : 0 ≤ bc ∧ bc ≤ 256) (hn0 : n0 ≤ 32767) (hn1 : n1 ≤ 32767) (hn2 : n2 ≤ 32767) (hn3 : n3 ≤ 32767) (hnc2 : nc ≤ 257)
    (hchk : chk = unsV (wordS bs 24)) (hdes : des = unsV (wordS bs 28)) (hX0 : X0 = sigs bs k2 n0) (hX1 : X1 = sigs bs (k2 + 4 * n0) n1) (hX2 : X2 = sigs bs (k2 + 4 * n0 + 4 * n1) n2) (hX3 : X3 = sigs bs (k2 + 4 * n0 + 4 * n1 + 4 * n2) n3)
    (hWS : WS = wordsAt bs k1 nc) (hS : S = wordsAt bs k3 nl) (hK : K = sigs bs k4 nk) (hP : P = wordsAt bs k5 ne) (hQ : Q = sigs bs k6 np) (hM : M = WS.map (metR X0 X1 X2 X3))
    (hzB : zB = (zeroFirst X0 && zeroFirst X1 && zeroFirst X2 && zeroFirst X3)) (hmB : mB = WS.all (metOk n0 n1 n2 n3)) :
    Calls Tryz.prog 65 #[.pointer (some ⟨R, 0, none⟩)] w fun e w' => (((zB && (mB && fontB ⟨chk, des, trimF bc M, trimL M, S, K, P, Q⟩)) = true ∧ ∃ a, e = .returned (fontV ⟨chk, des, trimF bc M, trimL M, S, K, P, Q⟩ a) ∧ FRead w' w.heap.size ⟨chk, des, trimF bc M, trimL M, S, K, P, Q⟩ a ∧ w.grownBy w' (some R)) ∨ ((zB && (mB && fontB ⟨chk, des, trimF bc M, trimL M, S, K, P, Q⟩)) = false ∧ e = .panicked giveUp ∧ w.grownBy w' (some R))) := by
  have hRl : R < w.heap.size := by obtain ⟨p, q, _⟩ := h.box; exact (Array.getElem?_eq_some_iff.1 q).1
  have hblt := h.blt
  obtain ⟨W0, hW0⟩ : ∃ W0, W0 = w.alloc (.cells #[.int .u32 0, .int .i64 0, .int .i64 0, .slice none 0 0, .slice none 0 0, .slice none 0 0, .slice none 0 0, .slice none 0 0] 28) := ⟨_, rfl⟩
  have kW0 : Kept w W0 := by rw [hW0]; exact walloc _ _
  have rW0 : Rd W0 R b o d 0 bs := h.grown (row := none) (grown_kept kW0) (by simp) (by simp)
  have hres0 : FZ W0 w.heap.size := by rw [hW0]; exact mkobj _ _
  have hN0 : w.heap.size < W0.heap.size := by rw [hW0]; simp
  have HW0 := Lib.hid hW0
  clear hW0
  -- the calls' contracts
  have Hcounts := Lib.hid (counts_any W0 R b o d bs rW0 hb hlen)
  rw [hcy, hcnt] at Hcounts
  rw [hcnt] at hnc hcb
  have Hhdr := fun z (hr : Rd z R b o d 24 bs) => Lib.hid (table_u32 z R b o d 24 lh bs hr hb (by omega) hlen)
  have Hchars := fun z => Lib.hid (chars_any ⟨lf, lh, bc, ec, n0, n1, n2, n3, nl, nk, ne, np⟩ z hcb)
  rw [hnc] at Hchars
  have Hwords := fun z (hr : Rd z R b o d k1 bs) => Lib.hid (table_word z R b o d k1 nc bs hr hb (by omega) hlen)
  have Hdim := fun z (hr : Rd z R b o d k2 bs) => Lib.hid (rdimens_any z R b o d k2 n0 n1 n2 n3 ⟨lf, lh, bc, ec, n0, n1, n2, n3, nl, nk, ne, np⟩ bs hr hb rfl rfl rfl rfl (by omega) hlen)
  have Hst := fun z (hr : Rd z R b o d k3 bs) => Lib.hid (table_step z R b o d k3 nl bs hr hb (by omega) hlen)
  have Hke := fun z (hr : Rd z R b o d k4 bs) => Lib.hid (table_int z R b o d k4 nk bs hr hb (by omega) hlen)
  have Hpc := fun z (hr : Rd z R b o d k5 bs) => Lib.hid (table_pc z R b o d k5 ne bs hr hb (by omega) hlen)
  have Hpa := fun z (hr : Rd z R b o d k6 bs) => Lib.hid (table_int z R b o d k6 np bs hr hb (by omega) hlen)
  have lX0 : X0.length = n0 := by rw [hX0, sigs_len]
  have lX1 : X1.length = n1 := by rw [hX1, sigs_len]
  have lX2 : X2.length = n2 := by rw [hX2, sigs_len]
  have lX3 : X3.length = n3 := by rw [hX3, sigs_len]
  have lWS : WS.length = nc := by rw [hWS, wordsAt_len]
  have lS : S.length = nl := by rw [hS, wordsAt_len]
  have lP : P.length = ne := by rw [hP, wordsAt_len]
  have lK : K.length = nk := by rw [hK, sigs_len]
  have lQ : Q.length = np := by rw [hQ, sigs_len]
  have lM : M.length = nc := by rw [hM, List.length_map, lWS]
  have okWS : ∀ s ∈ WS, s.ok := by rw [hWS]; exact words_ok hb
  have bck : 0 ≤ chk ∧ chk ≤ 4294967295 := by rw [hchk]; exact unsV_bd (wordS_ok hb _)
  have bde : 0 ≤ des ∧ des ≤ 4294967295 := by rw [hdes]; exact unsV_bd (wordS_ok hb _)
  have hwf : Fnt.wf ⟨chk, des, trimF bc M, trimL M, S, K, P, Q⟩ := by
    have t := trimF_bd (l := M) hbc.1
    have tl := trim_len M
    have s0 : ∀ z ∈ X0, i64B z := by rw [hX0]; exact sigs_bd hb
    have s1 : ∀ z ∈ X1, i64B z := by rw [hX1]; exact sigs_bd hb
    have s2 : ∀ z ∈ X2, i64B z := by rw [hX2]; exact sigs_bd hb
    have s3 : ∀ z ∈ X3, i64B z := by rw [hX3]; exact sigs_bd hb
    refine ⟨bck, by unfold i64B; dsimp only; omega, by unfold i64B; dsimp only; omega, fun m hm => ?_, ?_, ?_, ?_, ?_, maxLen_ge ?_, maxLen_ge ?_, maxLen_ge ?_, maxLen_ge ?_, maxLen_ge ?_⟩
    · have hm2 := mem_trim hm
      rw [hM] at hm2
      obtain ⟨s, hs, rfl⟩ := List.mem_map.1 hm2
      exact metR_wf s0 s1 s2 s3 (okWS s hs)
    · intro s hs; dsimp only at hs; rw [hS] at hs; exact ok_wf (words_ok hb s hs)
    · intro z hz; dsimp only at hz; rw [hK] at hz; exact sigs_bd hb z hz
    · intro s hs; dsimp only at hs; rw [hP] at hs; exact ok_wf (words_ok hb s hs)
    · intro z hz; dsimp only at hz; rw [hQ] at hz; exact sigs_bd hb z hz
    all_goals (dsimp only; omega)
  rw [← hX0, ← hX1, ← hX2, ← hX3, ← hzB, ← hk3] at Hdim
  rw [← hWS, ← hk2] at Hwords
  rw [← hk1] at Hhdr
  rw [← hS, ← hk4] at Hst
  rw [← hP, ← hk6] at Hpc
  have Hke' := fun z (hr : Rd z R b o d k4 bs) => Lib.hid ((Hke z hr).out.mono fun (e : Ending) (z' : World) ⟨v, e1, row, r2, g⟩ => (⟨v, e1, hK ▸ irow_sigs row, hk5 ▸ r2, g⟩ : ∃ v, e = Ending.returned v ∧ IRow z' z.heap.size v K ∧ Rd z' R b o d k5 bs ∧ z.grownBy z' (some R)))
  have Hpa' := fun z (hr : Rd z R b o d k6 bs) => Lib.hid ((Hpa z hr).out.mono fun (e : Ending) (z' : World) ⟨v, e1, row, r2, g⟩ => (⟨v, e1, hQ ▸ irow_sigs row, g⟩ : ∃ v, e = Ending.returned v ∧ IRow z' z.heap.size v Q ∧ z.grownBy z' (some R)))
  have HMet := fun (A0 A1 A2 A3 : Option Addr) (c0 c1 c2 c3 : Nat) (Ac : Option Addr) (cc : Nat) z (hw : StsAt z Ac WS z.heap.size) (y0 : NumsAt z A0 X0 z.heap.size) (y1 : NumsAt z A1 X1 z.heap.size) (y2 : NumsAt z A2 X2 z.heap.size) (y3 : NumsAt z A3 X3 z.heap.size) =>
    Lib.hid (rmetrics_any A0 A1 A2 A3 n0 n1 n2 n3 c0 c1 c2 c3 X0 X1 X2 X3 Ac cc nc WS z okWS hw lWS (by omega) y0 y1 y2 y3 lX0 lX1 lX2 lX3 (by omega) (by omega) (by omega) (by omega))
  rw [← hM, ← hmB] at HMet
  have Hdr := fun (z : World) B v (q : z.ownsRow B 22 1 v lh ((wordsAt bs 24 lh).flatMap (fun s => [Value.int .u32 (unsV s)]))) => Lib.hid (hdr_cells q hlh)
  rw [← hchk, ← hdes] at Hdr
  obtain ⟨E, hE⟩ : ∃ E, E = fontE ⟨chk, des, trimF bc M, trimL M, S, K, P, Q⟩ := ⟨_, rfl⟩
  obtain ⟨fb, hfb⟩ : ∃ fb, fb = fontB ⟨chk, des, trimF bc M, trimL M, S, K, P, Q⟩ := ⟨_, rfl⟩
  have zE : (E == 0) = fb := by
    rw [hE, hfb]; unfold fontE
    by_cases q : fontB ⟨chk, des, trimF bc M, trimL M, S, K, P, Q⟩ = true
    · rw [q]; rfl
    · rw [Bool.not_eq_true] at q; rw [q]; rfl
  have HC := fun (z : World) (A0 A1 A2 A3 A4 : Option Addr) (c0 c1 c2 c3 c4 : Nat) (hF : FontAt z ⟨chk, des, trimF bc M, trimL M, S, K, P, Q⟩ ⟨A0, c0, A1, c1, A2, c2, A3, c3, A4, c4⟩ z.heap.size) => Lib.hid (ccheck_any ⟨chk, des, trimF bc M, trimL M, S, K, P, Q⟩ ⟨A0, c0, A1, c1, A2, c2, A3, c3, A4, c4⟩ z hF hwf)
  dsimp only [fontV] at HC
  rw [lS, lK, lP, lQ, ← hE] at HC
  dsimp only [fontV]
  rw [lS, lK, lP, lQ, ← hfb]
  have HT := fun (A : Option Addr) (c : Nat) (z : World) (hm : MetsAt z A M z.heap.size) (h1 : nc ≤ c) (h2 : c ≤ 9223372036854775807) => Lib.hid (trimmed_any bc A nc c M z z.heap.size hm lM h1 h2 (by omega) (by omega))
  have LL := Lib.hid (And.intro lS (And.intro lP (And.intro lM (And.intro lWS (And.intro lX0 (And.intro lX1 (And.intro lX2 lX3)))))))
  have LK := Lib.hid (And.intro lK lQ)
  clear hE hfb hchk hdes hX0 hX1 hX2 hX3 hWS hS hK hP hQ hM hzB hmB hcnt hnc hcb hcy Hke Hpa lS lP lM lWS lX0 lX1 lX2 lX3 lK lQ okWS hwf hk1 hk2 hk3 hk4 hk5 hk6 hfit h hb hlen
  go_enter Tryz.func65, Tryz.ntmps65
  go_wp2_with (fail)
  rw [← HW0.out]
  refine Hcounts.out.mono ?_
  rintro e w1 (⟨_, rfl, r1, g1⟩ | ⟨hx, _⟩)
  case inr => cases hx
  go_wp2_with (fail)
  obtain ⟨w2, hw2⟩ : ∃ w2, w2 = w1.alloc (.cells #[.int .i64 lf, .int .i64 lh, .int .i64 bc, .int .i64 ec, .int .i64 n0, .int .i64 n1, .int .i64 n2, .int .i64 n3, .int .i64 nl, .int .i64 nk, .int .i64 ne, .int .i64 np] 61) := ⟨_, rfl⟩
  have cb2 : CBox w2 w1.heap.size ⟨lf, lh, bc, ec, n0, n1, n2, n3, nl, nk, ne, np⟩ := by rw [hw2]; exact CBox.of_obj (mkobj w1 _)
  have kw2 : Kept w1 w2 := by rw [hw2]; exact walloc _ _
  have rd2 : Rd w2 R b o d 24 bs := r1.grown (row := none) (grown_kept kw2) (by simp) (by simp)
  have hR1 : R < w1.heap.size := Nat.lt_of_lt_of_le hRl (Nat.le_trans kW0.size g1.size)
  rw [← hw2]
  clear hw2
  refine (Hhdr w2 rd2).out.mono ?_
  rintro e w3 ⟨vh, rfl, hrow, r3, g3⟩
  obtain ⟨hg, hcap, rfl, hgb, hgl, x0, x1⟩ := (Hdr _ _ _ hrow).out
  have cb3 := cbox_grown cb2 g3 hR1
  obtain ⟨a0, a1, a2, a3, a4, a5, a6, a7, a8, a9, a10, a11, af, al⟩ := cb3
  dsimp only at a0 a1 a2 a3 a4 a5 a6 a7 a8 a9 a10 a11
  go_wp2_with (fail)
  refine (Hchars w3).out.mono ?_
  rintro e w4 ⟨rfl, kw4⟩
  have rd4 : Rd w4 R b o d k1 bs := r3.grown (row := none) (grown_kept kw4) (by simp) (by simp)
  clear a0 a1 a2 a3 a4 a5 a6 a7 a8 a9 a10 a11 af al
  go_wp2_with (fail)
  refine (Hwords w4 rd4).out.mono ?_
  rintro e w5 ⟨vc, rfl, crow, r5, g5⟩
  obtain ⟨Ac, cc, rfl, _, _⟩ := own_sts crow LL.out.2.2.2.1
  have g35 : w3.grownBy w5 (some R) := grown_trans (grown_kept kw4) g5
  have cb5 := cbox_grown (cbox_grown cb2 g3 hR1) g35 hR1
  obtain ⟨a0, a1, a2, a3, a4, a5, a6, a7, a8, a9, a10, a11, af, al⟩ := cb5
  dsimp only at a0 a1 a2 a3 a4 a5 a6 a7 a8 a9 a10 a11
  have HCr := Lib.hid crow
  clear crow
  go_wp2_with (fail)
  refine (Hdim w5 r5).out.mono ?_
  rintro e w6 (⟨hz, u0, u1, u2, u3, rfl, h4, r6, g6⟩ | ⟨hz, rfl, g6⟩)
  case inr => exact ⟨rfl, .inr ⟨bools_no (.inl hz), rfl, grown_trans (grown_trans (grown_trans (grown_trans (grown_kept kW0) g1) (grown_kept kw2)) (grown_trans g3 g35)) g6⟩⟩
  obtain ⟨A0, c0, rfl, y0, _⟩ := irow_numsD h4.r0 LL.out.2.2.2.2.1
  obtain ⟨A1, c1, rfl, y1, _⟩ := irow_numsD h4.r1 LL.out.2.2.2.2.2.1
  obtain ⟨A2, c2, rfl, y2, _⟩ := irow_numsD h4.r2 LL.out.2.2.2.2.2.2.1
  obtain ⟨A3, c3, rfl, y3, _⟩ := irow_numsD h4.r3 LL.out.2.2.2.2.2.2.2
  clear a0 a1 a2 a3 a4 a5 a6 a7 a8 a9 a10 a11 af al y0 y1 y2 y3
  go_wp2_with (fail)
  obtain ⟨W5, hW5⟩ : ∃ W5, W5 = w6.alloc (.cells #[.slice A0 n0 c0, .slice A1 n1 c1, .slice A2 n2 c2, .slice A3 n3 c3] 58) := ⟨_, rfl⟩
  rw [← hW5]
  have k65 : Kept w6 W5 := by rw [hW5]; exact walloc _ _
  have dW5 : DObj W5 w6.heap.size (.slice A0 n0 c0) (.slice A1 n1 c1) (.slice A2 n2 c2) (.slice A3 n3 c3) := by rw [hW5]; exact mkobj _ _
  clear hW5
  have r5' : Rd W5 R b o d k3 bs := r6.grown (row := none) (grown_kept k65) (by simp) (by simp)
  have s65 : w6.heap.size < W5.heap.size := dW5.cells.2.2.2.2.2
  have g56 : w5.grownBy W5 (some R) := grown_trans g6 (grown_kept k65)
  have g36 : w3.grownBy W5 (some R) := grown_trans g35 g56
  have g26 : w2.grownBy W5 (some R) := grown_trans g3 g36
  have g06 : W0.grownBy W5 (some R) := grown_trans (grown_trans g1 (grown_kept kw2)) g26
  have gw6 : w.grownBy W5 (some R) := grown_trans (grown_kept kW0) g06
  have sz0 : w.heap.size < W0.heap.size := hN0
  have sz1 : W0.heap.size ≤ w1.heap.size := g1.size
  have sz2 : w1.heap.size < w2.heap.size := cb2.lt
  have sz3 : w2.heap.size ≤ w3.heap.size := g3.size
  have sz5 : w3.heap.size ≤ w5.heap.size := g35.size
  have sz6 : w5.heap.size ≤ w6.heap.size := g6.size
  have crow5 := row_keepG (own_base HCr.out (Nat.le_trans (Nat.le_of_lt sz0) (Nat.le_trans sz1 (Nat.le_trans (Nat.le_of_lt sz2) (Nat.le_trans sz3 kw4.size)))) : w5.ownsRow w.heap.size _ 4 _ nc _) g56 hRl
  have hmet : ∀ z, W5.grownBy z (some R) → Hid (Calls Tryz.prog 80 #[.agg #[.slice A0 n0 c0, .slice A1 n1 c1, .slice A2 n2 c2, .slice A3 n3 c3], .slice Ac nc cc] z fun e w' => (mB = true ∧ (∃ v, e = .returned v ∧ w'.ownsRow z.heap.size 43 6 v nc (M.flatMap metC)) ∧ Kept z w') ∨ (mB = false ∧ e = .panicked giveUp ∧ Kept z w')) := fun z gz => by
    have hb5 : ∀ {v : Value} {xs : List Int}, IRow w6 w5.heap.size v xs → IRow W5 w5.heap.size v xs := fun q => irow_kept q k65
    have hR5' : R < w5.heap.size := by omega
    exact HMet A0 A1 A2 A3 c0 c1 c2 c3 Ac cc z ((own_sts' (row_keepG crow5 gz hRl) LL.out.2.2.2.1).1) (nums_at (hb5 h4.r0) gz hR5') (nums_at (hb5 h4.r1) gz hR5') (nums_at (hb5 h4.r2) gz hR5') (nums_at (hb5 h4.r3) gz hR5')
  have hS : ∀ w', W5.grownBy w' (some R) → Hid (w'.cell? ⟨hg, 0, none⟩ = some (.int .u32 chk) ∧ w'.cell? ⟨hg, 1, none⟩ = some (.int .u32 des) ∧ w'.cell? ⟨w1.heap.size, 2, none⟩ = some (.int .i64 bc) ∧ w'.cell? ⟨w1.heap.size, 8, none⟩ = some (.int .i64 nl) ∧ w'.cell? ⟨w1.heap.size, 9, none⟩ = some (.int .i64 nk) ∧ w'.cell? ⟨w1.heap.size, 10, none⟩ = some (.int .i64 ne) ∧ w'.cell? ⟨w1.heap.size, 11, none⟩ = some (.int .i64 np) ∧ w'.cell? ⟨w6.heap.size, 0, none⟩ = some (.slice A0 n0 c0) ∧ w'.cell? ⟨w6.heap.size, 1, none⟩ = some (.slice A1 n1 c1) ∧ w'.cell? ⟨w6.heap.size, 2, none⟩ = some (.slice A2 n2 c2) ∧ w'.cell? ⟨w6.heap.size, 3, none⟩ = some (.slice A3 n3 c3)) := fun w' gz => by
    have e1 := cell_grown (grown_trans g36 gz) hgl (by omega : R < hg)
    have cb := cbox_grown cb2 (grown_trans g26 gz) hR1
    have dd := DObj.grown dW5 gz (ne_some (by omega))
    obtain ⟨q0, q1, q2, q3, _, _⟩ := dd.cells
    exact Lib.hid ⟨by rw [e1]; exact x0, by rw [e1]; exact x1, cb.c2, cb.c8, cb.c9, cb.c10, cb.c11, q0, q1, q2, q3⟩
  have hFZ5 : FZ W5 w.heap.size := FObj.grown hres0 g06 (ne_some hRl)
  have HFZ := Lib.hid hFZ5
  have hb0 : decide (0 < lh) = true := decide_eq_true (by omega)
  have hb1 : decide (1 < lh) = true := decide_eq_true (by omega)
  have lh0 : 0 < lh := by omega
  have lh1 : 1 < lh := by omega
  have li1 : (1 : Int) < lh := by omega
  have hdw : IntKind.i64.wrap des = des := IntWalk.i64_in des (by omega)
  have hg0 : W5.grownBy W5.drew (some R) := ⟨rfl, rfl, rfl, Nat.le_refl _, fun _ _ _ => rfl⟩
  have hr0 : Rd W5.drew R b o d k3 bs := r5'.grown (row := none) (grown_kept (Kept.refl W5).drew) (by simp) (by simp)
  have hgB : W5.grownBy (W5.alloc (.cells #[.int .u32 0, .int .i64 0, .int .i64 0, nilS, nilS, nilS, nilS, nilS] 28)).drew (some R) := grown_alloc hg0 _
  have hrB : Rd (W5.alloc (.cells #[.int .u32 0, .int .i64 0, .int .i64 0, nilS, nilS, nilS, nilS, nilS] 28)).drew R b o d k3 bs := rd_alloc hr0 _
  have HNO := fun (q : mB = false) => Lib.hid (bools_no (a := zB) (c := fb) (.inr (.inl q)))
  have tk0 : True := trivial
  have sw5 : w.heap.size < W5.heap.size := by omega
  have hR5 : R < W5.heap.size := by omega
  clear rW0 hres0 Hcounts Hhdr Hchars Hwords Hdim HMet Hdr r1 g1 cb2 kw2 rd2 hrow r3 g3 x0 x1 kw4 rd4 r5 g5 g35 h4 r6 g6 k65 dW5 r5' g56 g36 g26 g06 crow5 hFZ5 HCr kW0 hlh hbc hn0 hn1 hn2 hn3 hnc2 bck sz0 sz1 sz2 sz3 sz5 sz6 s65 hgb hgl hR1 hN0 hblt
  go_upto_region 5 with (fail)
  go_cut [7] (fun s7 wx => FonT mB W5 w.heap.size R nc nl ne chk des bc M S P K Q s7 wx)
  case first =>
    go_region_held2 (fun w' => w'.cell? ⟨hg, 0, none⟩ = some (.int .u32 chk) ∧ w'.cell? ⟨hg, 1, none⟩ = some (.int .u32 des) ∧ w'.cell? ⟨w1.heap.size, 2, none⟩ = some (.int .i64 bc) ∧ w'.cell? ⟨w1.heap.size, 8, none⟩ = some (.int .i64 nl) ∧ w'.cell? ⟨w1.heap.size, 9, none⟩ = some (.int .i64 nk) ∧ w'.cell? ⟨w1.heap.size, 10, none⟩ = some (.int .i64 ne) ∧ w'.cell? ⟨w1.heap.size, 11, none⟩ = some (.int .i64 np) ∧ w'.cell? ⟨w6.heap.size, 0, none⟩ = some (.slice A0 n0 c0) ∧ w'.cell? ⟨w6.heap.size, 1, none⟩ = some (.slice A1 n1 c1) ∧ w'.cell? ⟨w6.heap.size, 2, none⟩ = some (.slice A2 n2 c2) ∧ w'.cell? ⟨w6.heap.size, 3, none⟩ = some (.slice A3 n3 c3)) (first | with_reducible exact (hS _ (by with_reducible assumption)).out | with_reducible exact (hS _ (grown_alloc (by with_reducible assumption) _)).out | with_reducible exact (hS _ (grown_new hg5 (grown_set8 _ _ _ _ _ _ _ _ _ _) (Nat.le_refl _))).out | with_reducible exact (hS _ (grown_new hg5 (grown_set8 _ _ _ _ _ _ _ _ _ _) m1)).out | with_reducible exact (hS _ (grown_new hg5 (grown_set8 _ _ _ _ _ _ _ _ _ _) m2)).out | with_reducible exact (hS _ (grown_new hg5 (grown_set8 _ _ _ _ _ _ _ _ _ _) m3)).out | with_reducible exact (hS _ (grown_new hg5 (grown_set8 _ _ _ _ _ _ _ _ _ _) m4)).out) (first
      | (have _t := tk0; rw [if_pos (by rfl)]; refine oper_enter (f := 80) (args := #[.agg #[.slice A0 n0 c0, .slice A1 n1 c1, .slice A2 n2 c2, .slice A3 n3 c3], .slice Ac nc cc]) (by kernel_rfl) ?_; (with_reducible refine (hmet _ (by first | with_reducible assumption | with_reducible exact grown_alloc (by with_reducible assumption) _)).out.mono ?_); rintro e z1 (⟨hm, ⟨v1, rfl, row⟩, kz⟩ | ⟨hm, rfl, kz⟩); rotate_left; exact ⟨rfl, .inr ⟨(HNO hm).out, rfl, grown_trans (grown_trans gw6 (by first | with_reducible assumption | with_reducible exact grown_alloc (by with_reducible assumption) _)) (grown_kept kz)⟩⟩; obtain ⟨_, _, _, rfl⟩ := own_slice row; have gg := grown_kept (row := some R) kz; have hg1 := grown_trans (by first | with_reducible assumption | with_reducible exact grown_alloc (by with_reducible assumption) _) gg; have hr1 := Rd.grown (row := none) (by first | with_reducible assumption | with_reducible exact rd_alloc (by with_reducible assumption) _) (grown_kept kz) (by simp) (by simp); have hmb := hm; have q0 := own_base row (Nat.le_trans (Nat.le_of_lt sw5) (by first | with_reducible exact hg0.size | with_reducible exact (grown_alloc hg0 _).size | with_reducible exact hgB.size)); (first | with_reducible have hbx := fz_new gg (Nat.lt_of_lt_of_le hRl (Nat.le_trans (Nat.le_of_lt sw5) hg0.size)) | with_reducible have hbx := fz_newD gg (Nat.lt_of_lt_of_le hRl (Nat.le_of_lt sw5)) | with_reducible have hbx := FObj.grown hbx gg (ne_some hR5) | with_reducible have hbx := FObj.grown hbx gg (ne_some (Nat.lt_of_lt_of_le hR5 m1)) | with_reducible have hbx := FObj.grown hbx gg (ne_some (Nat.lt_of_lt_of_le hR5 m2)) | with_reducible have hbx := FObj.grown hbx gg (ne_some (Nat.lt_of_lt_of_le hR5 m3)) | with_reducible have hbx := FObj.grown hbx gg (ne_some (Nat.lt_of_lt_of_le hR5 m4)) | skip); have m1 : W5.heap.size ≤ z1.heap.size := (hg1.size); have tk1 : True := trivial; clear tk0 _t row; dsimp only)
      | (have _t := tk1; rw [if_pos (by rfl)]; refine oper_enter (f := 81) (args := #[.pointer (some ⟨R, 0, none⟩), .int .i64 nl, .func (.func 82) #[] #[]]) (by kernel_rfl) ?_; (with_reducible refine (Hst _ (by first | with_reducible assumption | with_reducible exact rd_alloc (by with_reducible assumption) _)).out.mono ?_); rintro e z2 ⟨v2, rfl, row, hr2, gg⟩; obtain ⟨_, _, _, rfl⟩ := own_slice row; have hg2 := grown_trans (by first | with_reducible assumption | with_reducible exact grown_alloc (by with_reducible assumption) _) gg; have q0 := row_keepG (by first | with_reducible exact q0 | with_reducible exact World.ownsRow.alloc q0 _) gg hRl; have q1 := own_base row (Nat.le_trans (Nat.le_of_lt sw5) (by first | with_reducible exact hg1.size | with_reducible exact (grown_alloc hg1 _).size | with_reducible exact hgB.size)); (first | with_reducible have hbx := fz_new gg (Nat.lt_of_lt_of_le hRl (Nat.le_trans (Nat.le_of_lt sw5) hg1.size)) | with_reducible have hbx := fz_newD gg (Nat.lt_of_lt_of_le hRl (Nat.le_of_lt sw5)) | with_reducible have hbx := FObj.grown hbx gg (ne_some hR5) | with_reducible have hbx := FObj.grown hbx gg (ne_some (Nat.lt_of_lt_of_le hR5 m1)) | with_reducible have hbx := FObj.grown hbx gg (ne_some (Nat.lt_of_lt_of_le hR5 m2)) | with_reducible have hbx := FObj.grown hbx gg (ne_some (Nat.lt_of_lt_of_le hR5 m3)) | with_reducible have hbx := FObj.grown hbx gg (ne_some (Nat.lt_of_lt_of_le hR5 m4)) | skip); have m2 : W5.heap.size ≤ z2.heap.size := (hg2.size); have tk2 : True := trivial; clear tk1 _t row; dsimp only)
      | (have _t := tk2; rw [if_pos (by rfl)]; refine oper_enter (f := 83) (args := #[.pointer (some ⟨R, 0, none⟩), .int .i64 nk, .func (.func 84) #[] #[]]) (by kernel_rfl) ?_; (with_reducible refine (Hke' _ (by first | with_reducible assumption | with_reducible exact rd_alloc (by with_reducible assumption) _)).out.mono ?_); rintro e z3 ⟨v3, rfl, row, hr3, gg⟩; obtain ⟨_, _, _, rfl⟩ := own_slice row; have hg3 := grown_trans (by first | with_reducible assumption | with_reducible exact grown_alloc (by with_reducible assumption) _) gg; have q0 := row_keepG (by first | with_reducible exact q0 | with_reducible exact World.ownsRow.alloc q0 _) gg hRl; have q1 := row_keepG (by first | with_reducible exact q1 | with_reducible exact World.ownsRow.alloc q1 _) gg hRl; have q2 := own_base row (Nat.le_trans (Nat.le_of_lt sw5) (by first | with_reducible exact hg2.size | with_reducible exact (grown_alloc hg2 _).size | with_reducible exact hgB.size)); (first | with_reducible have hbx := fz_new gg (Nat.lt_of_lt_of_le hRl (Nat.le_trans (Nat.le_of_lt sw5) hg2.size)) | with_reducible have hbx := fz_newD gg (Nat.lt_of_lt_of_le hRl (Nat.le_of_lt sw5)) | with_reducible have hbx := FObj.grown hbx gg (ne_some hR5) | with_reducible have hbx := FObj.grown hbx gg (ne_some (Nat.lt_of_lt_of_le hR5 m1)) | with_reducible have hbx := FObj.grown hbx gg (ne_some (Nat.lt_of_lt_of_le hR5 m2)) | with_reducible have hbx := FObj.grown hbx gg (ne_some (Nat.lt_of_lt_of_le hR5 m3)) | with_reducible have hbx := FObj.grown hbx gg (ne_some (Nat.lt_of_lt_of_le hR5 m4)) | skip); have m3 : W5.heap.size ≤ z3.heap.size := (hg3.size); have tk3 : True := trivial; clear tk2 _t row; dsimp only)
      | (have _t := tk3; rw [if_pos (by rfl)]; refine oper_enter (f := 85) (args := #[.pointer (some ⟨R, 0, none⟩), .int .i64 ne, .func (.func 86) #[] #[]]) (by kernel_rfl) ?_; (with_reducible refine (Hpc _ (by first | with_reducible assumption | with_reducible exact rd_alloc (by with_reducible assumption) _)).out.mono ?_); rintro e z4 ⟨v4, rfl, row, hr4, gg⟩; obtain ⟨_, _, _, rfl⟩ := own_slice row; have hg4 := grown_trans (by first | with_reducible assumption | with_reducible exact grown_alloc (by with_reducible assumption) _) gg; have q0 := row_keepG (by first | with_reducible exact q0 | with_reducible exact World.ownsRow.alloc q0 _) gg hRl; have q1 := row_keepG (by first | with_reducible exact q1 | with_reducible exact World.ownsRow.alloc q1 _) gg hRl; have q2 := row_keepG (by first | with_reducible exact q2 | with_reducible exact World.ownsRow.alloc q2 _) gg hRl; have q3 := own_base row (Nat.le_trans (Nat.le_of_lt sw5) (by first | with_reducible exact hg3.size | with_reducible exact (grown_alloc hg3 _).size | with_reducible exact hgB.size)); (first | with_reducible have hbx := fz_new gg (Nat.lt_of_lt_of_le hRl (Nat.le_trans (Nat.le_of_lt sw5) hg3.size)) | with_reducible have hbx := fz_newD gg (Nat.lt_of_lt_of_le hRl (Nat.le_of_lt sw5)) | with_reducible have hbx := FObj.grown hbx gg (ne_some hR5) | with_reducible have hbx := FObj.grown hbx gg (ne_some (Nat.lt_of_lt_of_le hR5 m1)) | with_reducible have hbx := FObj.grown hbx gg (ne_some (Nat.lt_of_lt_of_le hR5 m2)) | with_reducible have hbx := FObj.grown hbx gg (ne_some (Nat.lt_of_lt_of_le hR5 m3)) | with_reducible have hbx := FObj.grown hbx gg (ne_some (Nat.lt_of_lt_of_le hR5 m4)) | skip); have m4 : W5.heap.size ≤ z4.heap.size := (hg4.size); have tk4 : True := trivial; clear tk3 _t row; dsimp only)
      | (have _t := tk4; rw [if_pos (by rfl)]; refine oper_enter (f := 83) (args := #[.pointer (some ⟨R, 0, none⟩), .int .i64 np, .func (.func 84) #[] #[]]) (by kernel_rfl) ?_; (with_reducible refine (Hpa' _ (by first | with_reducible assumption | with_reducible exact rd_alloc (by with_reducible assumption) _)).out.mono ?_); rintro e z5 ⟨v5, rfl, row, gg⟩; obtain ⟨_, _, _, rfl⟩ := own_slice row; have hg5 := grown_trans (by first | with_reducible assumption | with_reducible exact grown_alloc (by with_reducible assumption) _) gg; have q0 := row_keepG (by first | with_reducible exact q0 | with_reducible exact World.ownsRow.alloc q0 _) gg hRl; have q1 := row_keepG (by first | with_reducible exact q1 | with_reducible exact World.ownsRow.alloc q1 _) gg hRl; have q2 := row_keepG (by first | with_reducible exact q2 | with_reducible exact World.ownsRow.alloc q2 _) gg hRl; have q3 := row_keepG (by first | with_reducible exact q3 | with_reducible exact World.ownsRow.alloc q3 _) gg hRl; have q4 := own_base row (Nat.le_trans (Nat.le_of_lt sw5) (by first | with_reducible exact hg4.size | with_reducible exact (grown_alloc hg4 _).size | with_reducible exact hgB.size)); (first | with_reducible have hbx := fz_new gg (Nat.lt_of_lt_of_le hRl (Nat.le_trans (Nat.le_of_lt sw5) hg4.size)) | with_reducible have hbx := fz_newD gg (Nat.lt_of_lt_of_le hRl (Nat.le_of_lt sw5)) | with_reducible have hbx := FObj.grown hbx gg (ne_some hR5) | with_reducible have hbx := FObj.grown hbx gg (ne_some (Nat.lt_of_lt_of_le hR5 m1)) | with_reducible have hbx := FObj.grown hbx gg (ne_some (Nat.lt_of_lt_of_le hR5 m2)) | with_reducible have hbx := FObj.grown hbx gg (ne_some (Nat.lt_of_lt_of_le hR5 m3)) | with_reducible have hbx := FObj.grown hbx gg (ne_some (Nat.lt_of_lt_of_le hR5 m4)) | skip); have m5 : W5.heap.size ≤ z5.heap.size := (hg5.size); (first | obtain ⟨x0, x1, x2, x3, x4, x5, x6, x7, xf, xl⟩ := hbx.cells | skip); have tk5 : True := trivial; clear tk4 _t row; dsimp only))
    all_goals first | (dsimp only [Exit.then]; go_meet) | (go_wp2_with (fail); go_meet)
    all_goals first
      | with_reducible exact fon_end0 ⟨q0, q1, q2, q3, q4⟩ hg5 (Nat.lt_of_lt_of_le sw5 m5) hmb
      | with_reducible exact fon_end hbx ⟨q0, q1, q2, q3, q4⟩ hg5 sw5 (Nat.le_refl _) hmb
      | with_reducible exact fon_end hbx ⟨q0, q1, q2, q3, q4⟩ hg5 (Nat.lt_of_lt_of_le sw5 m1) m1 hmb
      | with_reducible exact fon_end hbx ⟨q0, q1, q2, q3, q4⟩ hg5 (Nat.lt_of_lt_of_le sw5 m2) m2 hmb
      | with_reducible exact fon_end hbx ⟨q0, q1, q2, q3, q4⟩ hg5 (Nat.lt_of_lt_of_le sw5 m3) m3 hmb
      | with_reducible exact fon_end hbx ⟨q0, q1, q2, q3, q4⟩ hg5 (Nat.lt_of_lt_of_le sw5 m4) m4 hmb
  case rest =>
    obtain ⟨hmb, D, v0, v1, v2, v3, v4, rfl, hND, hDo, hq, hGr⟩ := hcut
    rename World => wx
    obtain ⟨b0, e0, rfl, y0, y0c⟩ := own_mets hq.r0 LL.out.2.2.1
    obtain ⟨B1, d1, rfl, _, _⟩ := own_sts hq.r1 LL.out.1
    obtain ⟨B2, d2, rfl, _, _⟩ := irow_numsD hq.r2 LK.out.1
    obtain ⟨B3, d3, rfl, _, _⟩ := own_sts hq.r3 LL.out.2.1
    obtain ⟨B4, d4, rfl, _, _⟩ := irow_numsD hq.r4 LK.out.2
    have ht := HT b0 e0 wx y0 y0c (own_cap hq.r0)
    have HG := Lib.hid (grown_trans gw6 hGr)
    have hNR : w.heap.size ≤ D := Nat.le_of_lt hND
    have HY := fun (B0 : Option Addr) (d0 : Nat) (yM : MetsAt wx B0 (trimL M) wx.heap.size) (ym : (trimL M).length ≤ d0) =>
      have g2 := grown_set2 wx D 2 3 (.int .i64 (trimF bc M)) (.slice B0 (trimL M).length d0)
      have hq2 := hq.box hDo g2
      have hm2 := (mets_box yM (Nat.le_refl _) hDo rfl g2).more g2.size
      Lib.hid (And.intro (fontAt_of (chk := chk) (des := des) (fi := trimF bc M) hm2 ym hq2 LL.out.1 LL.out.2.1) (And.intro (hDo.set23 (u2 := .int .i64 (trimF bc M)) (u3 := .slice B0 (trimL M).length d0)) (And.intro hq2 (And.intro hm2 (And.intro ((HFZ.out.grown hGr (ne_some hRl)).grown g2 (ne_some hND).symm) (grown_new HG.out g2 hNR))))))
    obtain ⟨x0, x1, x2, x3, x4, x5, x6, x7, xf, xl⟩ := hDo.cells
    have Hz := Lib.hid hz
    have Hm := Lib.hid hmb
    clear hq hDo y0 y0c hGr hS hmet hgB hrB hr0 hg0 HFZ tk0 HNO HT Hst Hke' Hpc Hpa' hz hmb
    go_wp2_with (fail)
    refine ht.out.mono ?_
    rintro e z9 ⟨⟨B0, d0, rfl, yM, ym⟩, rfl⟩
    obtain ⟨hFA, hFo2, hq2, hm2, hFN, hG2⟩ := (HY B0 d0 yM ym).out
    have hc := HC _ B0 B1 B2 B3 B4 d0 d1 d2 d3 d4 hFA
    have HFo2 := Lib.hid hFo2
    have Hq2 := Lib.hid hq2
    have Hm2 := Lib.hid hm2
    have HFN := Lib.hid hFN
    have HG2 := Lib.hid hG2
    clear hFA hFo2 hq2 hm2 hFN hG2 HY yM
    go_wp2_with (fail)
    refine hc.out.mono ?_
    rintro e w8 ⟨rfl, k8⟩
    obtain ⟨f0, f1, f2, f3, f4, f5, f6, f7, ff, fl⟩ := (HFo2.out.grown (row := none) (grown_kept k8) (by simp)).cells
    have hFN8 := HFN.out.grown (row := none) (grown_kept k8) (by simp)
    obtain ⟨p0, p1, p2, p3, p4, p5, p6, p7, pf, pl⟩ := hFN8.cells
    have hq8 := Hq2.out.kept k8
    have hm8 := Hm2.out.kept k8
    have sm8 := k8.size
    have hg8 := grown_trans HG2.out (grown_kept k8)
    have Hall := Lib.hid (And.intro hFN8 (And.intro hq8 (And.intro hm8 (And.intro sm8 hg8))))
    clear hFN8 hq8 hm8 sm8 hg8 k8 x0 x1 x2 x3 x4 x5 x6 x7 xf xl
    go_wp2_with (fail)
    refine (need_any _ _).mono ?_
    rintro e z9 (⟨hfb, rfl, rfl⟩ | ⟨hfb, rfl, rfl⟩)
    case inr => exact ⟨rfl, .inr ⟨bools_no (.inr (.inr hfb)), rfl, Hall.out.2.2.2.2⟩⟩
    have HB := Lib.hid hfb
    clear hfb zE
    go_wp2_with (fail)
    have g8 := grown_set8 z9 w.heap.size (.int .u32 chk) (.int .i64 des) (.int .i64 (trimF bc M)) (.slice B0 (trimL M).length d0) (.slice B1 nl d1) (.slice B2 nk d2) (.slice B3 ne d3) (.slice B4 np d4)
    obtain ⟨hFN8, hq8, hm8, sm8, hg8⟩ := Hall.out
    have hm9 := (mets_box hm8 sm8 hFN8 rfl g8).more (Nat.le_trans sm8 g8.size)
    have hq9 := hq8.box hFN8 g8
    obtain ⟨t0, t1, t2, t3, t4, t5, t6, t7, _, _⟩ := (hFN8.set8 (u0 := .int .u32 chk) (u1 := .int .i64 des) (u2 := .int .i64 (trimF bc M)) (u3 := .slice B0 (trimL M).length d0) (u4 := .slice B1 nl d1) (u5 := .slice B2 nk d2) (u6 := .slice B3 ne d3) (u7 := .slice B4 np d4)).cells
    exact bodyPost_ret (v := .agg #[.int .u32 chk, .int .i64 des, .int .i64 (trimF bc M), .slice B0 (trimL M).length d0, .slice B1 nl d1, .slice B2 nk d2, .slice B3 ne d3, .slice B4 np d4]) (by simp [results, Tryz.results65, go_sem, t0, t1, t2, t3, t4, t5, t6, t7]) rfl (.inl ⟨by rw [Hz.out, Hm.out, HB.out]; rfl, ⟨B0, d0, B1, d1, B2, d2, B3, d3, B4, d4⟩, rfl, ⟨_, nc, M, hm9, ym, by dsimp only; rw [LL.out.1, LL.out.2.1, LK.out.1, LK.out.2]; exact hq9⟩, grown_new hg8 g8 (Nat.le_refl _)⟩)
end Go.Proofs.YtdhidpbenhmfgaaGreat
