/- font's reader: all characters' words. -/
import Derived.Test.YtdhidpbenhmfgaaGreatCMetr
namespace Go.Proofs.YtdhidpbenhmfgaaGreat
open Go.RowKit

theorem flat_at {α β : Type} (g : α → List β) (m : Nat) (hg : ∀ x, (g x).length = m) (l : List α) : ∀ i, ∀ hi : i < l.length, ∀ j < m, (l.flatMap g)[i * m + j]? = (g l[i])[j]? := by
  induction l with
  | nil => intro i hi; simp at hi
  | cons x l ih =>
    intro i hi j hj
    rw [List.flatMap_cons]
    cases i with
    | zero => rw [Nat.zero_mul, Nat.zero_add, List.getElem?_append_left (by rw [hg]; exact hj)]; rfl
    | succ i =>
      rw [List.getElem?_append_right (by rw [hg, Nat.succ_mul]; omega), hg, show (i + 1) * m + j - m = i * m + j by rw [Nat.succ_mul]; omega]
      exact ih i (by simpa using hi) j hj
def metC (m : Met) : List Value := [.int .i64 m.w, .int .i64 m.h, .int .i64 m.d, .int .i64 m.it, .int .i64 m.tag, .int .i64 m.rest]
/-- a row of the call's own, as what came in -/
theorem own_sts {w : World} {B L : Nat} {v : Value} {e : TypeId} {l : List St} (h : w.ownsRow B e 4 v L (l.flatMap stC)) (hL : l.length = L) : ∃ A c, v = .slice A L c ∧ StsAt w A l w.heap.size ∧ L ≤ c := by
  rcases h.2 with ⟨rfl, h0⟩ | ⟨g, cap, cur, rfl, hb, hg, hn, hc, hs, ht⟩
  · have h0' : L = 0 := h0
    subst h0'
    exact ⟨none, 0, rfl, fun hn => by omega, by omega⟩
  · refine ⟨_, _, rfl, fun _ => ⟨g, 0, rfl, (Array.getElem?_eq_some_iff.1 hg).1, fun i hi => ?_⟩, by first | exact hn | omega⟩
    have q : ∀ j v, j < 4 → (stC l[i])[j]? = some v → w.cell? ⟨g, 0 + (i * 4 + j), none⟩ = some v := fun j v hj hv => by
      have := World.ownsRow.cells h (g := g) rfl (i * 4 + j) v ((flat_at stC 4 (fun _ => rfl) l i hi j hj).trans hv)
      rw [Go.Addr.add_mid] at this
      simpa using this
    exact ⟨q 0 _ (by omega) rfl, q 1 _ (by omega) rfl, q 2 _ (by omega) rfl, q 3 _ (by omega) rfl⟩
theorem own_mets {w : World} {B L : Nat} {v : Value} {e : TypeId} {l : List Met} (h : w.ownsRow B e 6 v L (l.flatMap metC)) (hL : l.length = L) : ∃ A c, v = .slice A L c ∧ MetsAt w A l w.heap.size ∧ L ≤ c := by
  rcases h.2 with ⟨rfl, h0⟩ | ⟨g, cap, cur, rfl, hb, hg, hn, hc, hs, ht⟩
  · have h0' : L = 0 := h0
    subst h0'
    exact ⟨none, 0, rfl, fun hn => by omega, by omega⟩
  · refine ⟨_, _, rfl, fun _ => ⟨g, 0, rfl, (Array.getElem?_eq_some_iff.1 hg).1, fun i hi => ?_⟩, by first | exact hn | omega⟩
    have q : ∀ j v, j < 6 → (metC l[i])[j]? = some v → w.cell? ⟨g, 0 + (i * 6 + j), none⟩ = some v := fun j v hj hv => by
      have := World.ownsRow.cells h (g := g) rfl (i * 6 + j) v ((flat_at metC 6 (fun _ => rfl) l i hi j hj).trans hv)
      rw [Go.Addr.add_mid] at this
      simpa using this
    exact ⟨q 0 _ (by omega) rfl, q 1 _ (by omega) rfl, q 2 _ (by omega) rfl, q 3 _ (by omega) rfl, q 4 _ (by omega) rfl, q 5 _ (by omega) rfl⟩
theorem infoMet : (Tryz.prog.info? 43).map (fun i => (i.zero, i.size, i.bytes)) = some (some (.agg #[.int .i64 0, .int .i64 0, .int .i64 0, .int .i64 0, .int .i64 0, .int .i64 0]), 6, 48) := by kernel_rfl
theorem own_base {w : World} {B B' n s : Nat} {e : TypeId} {v : Value} {xs : List Value} (h : w.ownsRow B e s v n xs) (hB : B' ≤ B) : w.ownsRow B' e s v n xs :=
  ⟨h.1, h.2.imp id fun ⟨g, cap, cur, e, hb, q⟩ => ⟨g, cap, cur, e, Nat.le_trans hB hb, q⟩⟩
def metsRow (x0 x1 x2 x3 : List Int) (ws : List St) (i : Nat) : List Value := ((ws.take i).map (metR x0 x1 x2 x3)).flatMap metC
theorem metsRow_next (x0 x1 x2 x3 : List Int) (ws : List St) (i : Nat) (hi : i < ws.length) : metsRow x0 x1 x2 x3 ws (i + 1) = metsRow x0 x1 x2 x3 ws i ++ metC (metR x0 x1 x2 x3 ws[i]) := by
  unfold metsRow
  rw [List.take_succ_eq_append_getElem hi, List.map_append, List.flatMap_append]
  simp
def MsLoop (x0 x1 x2 x3 : List Int) (L0 L1 L2 L3 : Nat) (ws : List St) (w : World) (s5 s10 : Value) (wr : World) : Prop :=
  ∃ i : Nat, i ≤ ws.length ∧ s10 = .int .i64 i ∧ (∀ k, ∀ h : k < ws.length, k < i → metOk L0 L1 L2 L3 ws[k] = true) ∧ Kept w wr ∧ wr.ownsRow w.heap.size 43 6 s5 i (metsRow x0 x1 x2 x3 ws i)
theorem all_no {ws : List St} {p : St → Bool} {i : Nat} (hi : i < ws.length) (h : p ws[i] = false) : ws.all p = false := by
  rw [List.all_eq_false]; exact ⟨_, List.getElem_mem hi, by simp [h]⟩
theorem all_yes {ws : List St} {p : St → Bool} (h : ∀ k, ∀ hk : k < ws.length, p ws[k] = true) : ws.all p = true := by
  rw [List.all_eq_true]
  intro x hx
  obtain ⟨k, hk, rfl⟩ := List.mem_iff_getElem.1 hx
  exact h k hk

set_option maxRecDepth 100000 in
set_option maxHeartbeats 8000000 in
theorem rmetrics_any (A0 A1 A2 A3 : Option Addr) (L0 L1 L2 L3 c0 c1 c2 c3 : Nat) (x0 x1 x2 x3 : List Int) (Ac : Option Addr) (cc L : Nat) (ws : List St) (w : World) (hok : ∀ s ∈ ws, s.ok) (hw : StsAt w Ac ws w.heap.size) (hL : ws.length = L) (hl : L ≤ 40000)
    (n0 : NumsAt w A0 x0 w.heap.size) (n1 : NumsAt w A1 x1 w.heap.size) (n2 : NumsAt w A2 x2 w.heap.size) (n3 : NumsAt w A3 x3 w.heap.size) (e0 : x0.length = L0) (e1 : x1.length = L1) (e2 : x2.length = L2) (e3 : x3.length = L3)
    (b0 : L0 ≤ 40000) (b1 : L1 ≤ 40000) (b2 : L2 ≤ 40000) (b3 : L3 ≤ 40000) :
    Calls Tryz.prog 80 #[.agg #[.slice A0 L0 c0, .slice A1 L1 c1, .slice A2 L2 c2, .slice A3 L3 c3], .slice Ac L cc] w fun e w' => (ws.all (metOk L0 L1 L2 L3) = true ∧ (∃ v, e = .returned v ∧ w'.ownsRow w.heap.size 43 6 v L ((ws.map (metR x0 x1 x2 x3)).flatMap metC)) ∧ Kept w w') ∨ (ws.all (metOk L0 L1 L2 L3) = false ∧ e = .panicked giveUp ∧ Kept w w') := by
  obtain ⟨i0, hi, hz0, hz1, hz2⟩ := info_parts infoMet
  obtain ⟨W, hW⟩ : ∃ W, W = w.alloc (.cells #[.slice A0 L0 c0, .slice A1 L1 c1, .slice A2 L2 c2, .slice A3 L3 c3] 58) := ⟨_, rfl⟩
  have hk0 : Kept w W := by rw [hW]; exact walloc _ _
  have hD : DObj W w.heap.size (.slice A0 L0 c0) (.slice A1 L1 c1) (.slice A2 L2 c2) (.slice A3 L3 c3) := by rw [hW]; exact mkobj _ _
  have HW := Lib.hid hW
  have hmetric := fun (s : St) (hs : s.ok) w' (hk : Kept w w') => Lib.hid (rmetric_any A0 A1 A2 A3 L0 L1 L2 L3 c0 c1 c2 c3 x0 x1 x2 x3 s w' hs ((n0.kept hk).more hk.size) ((n1.kept hk).more hk.size) ((n2.kept hk).more hk.size) ((n3.kept hk).more hk.size) e0 e1 e2 e3 b0 b1 b2 b3)
  have HL := Lib.hid hL
  have hst := fun w' (hk : Kept w w') => Lib.hid (hw.kept hk)
  have hnil : ws.length = 0 → Hid ((ws.map (metR x0 x1 x2 x3)).flatMap metC = []) := fun h => by rw [List.length_eq_zero_iff.1 h]; exact Lib.hid rfl
  clear hW n0 n1 n2 n3 e0 e1 e2 e3 hw hL
  go_enter Tryz.func80, Tryz.ntmps80
  go_wp2_with (fail)
  rw [← HW.out]
  go_loopw [5, 10] (fun s5 s10 wr => MsLoop x0 x1 x2 x3 L0 L1 L2 L3 ws W s5 s10 wr) (fun _ s10 _ => L - (intOf s10).toNat)
  case atStart => exact ⟨0, Nat.zero_le _, rfl, fun k _ h => by omega, Kept.refl _, World.ownsRow_nil _ _ _ _⟩
  case round =>
    obtain ⟨i, hi', rfl, hbefore, hk, hrow⟩ := hrel
    have hLe := HL.out
    by_cases hlt : i < L
    · have hiw : i < ws.length := by omega
      have d0 : decide (i < L) = true := decide_eq_true (by omega)
      obtain ⟨b, o, rfl, hb, hcells⟩ := (hst wr (hk0.trans hk)).out (by omega)
      obtain ⟨y0, y1, y2, y3⟩ := hcells i hiw
      have hso := hok _ (List.getElem_mem hiw)
      have hm := fun w' hk => hmetric _ hso w' hk
      have HNX := Lib.hid (metsRow_next x0 x1 x2 x3 ws i hiw)
      have hno := fun h => Lib.hid (all_no (p := metOk L0 L1 L2 L3) hiw h)
      have hbf : metOk L0 L1 L2 L3 ws[i] = true → Hid (∀ k, ∀ h : k < ws.length, k < i + 1 → metOk L0 L1 L2 L3 ws[k] = true) := fun h => Lib.hid fun k hkl hki => by
        rcases Nat.lt_or_ge k i with h' | h'
        · exact hbefore k hkl h'
        · obtain rfl : k = i := by omega
          exact h
      have HRow := Lib.hid hrow
      have HK := Lib.hid hk
      have hDr := hD.grown (row := none) (grown_kept hk) (by simp)
      obtain ⟨d1, d2, d3, d4, df, dl⟩ := hDr.cells
      generalize hsi : ws[i] = si at *
      have HSI := Lib.hid hsi
      clear hsi hcells hbefore hrow hLe hDr hso
      obtain ⟨s0, s1, s2, s3⟩ := si
      dsimp only at *
      have kx := hk
      clear hk
      go_wp2_with (fail)
      refine (hm _ (hk0.trans (kalloc HK.out _))).out.mono ?_
      rintro e w2 (⟨hmo, rfl, k2⟩ | ⟨hmo, rfl, k2⟩)
      case inr => exact ⟨rfl, .inr ⟨(hno hmo).out, rfl, (hk0.trans (kalloc HK.out _)).trans k2⟩⟩
      have kk2 : Kept W w2 := (kalloc HK.out _).trans k2
      have hrow2 := ((World.ownsRow.alloc HRow.out (.cells #[.int .u8 s0, .int .u8 s1, .int .u8 s2, .int .u8 s3] 94)).kept (grown_kept (row := none) k2) (own_none _))
      have hs2 : W.heap.size ≤ w2.heap.size := kk2.size
      have HBF := hbf hmo
      generalize metR x0 x1 x2 x3 ⟨s0, s1, s2, s3⟩ = m at *
      obtain ⟨m0, m1, m2, m3, m4, m5⟩ := m
      go_wp2_with (at_builtin; refine wpList_append_own_at _ rfl _ _ 23 rfl W.heap.size 43 i0 (.agg #[.int .i64 0, .int .i64 0, .int .i64 0, .int .i64 0, .int .i64 0, .int .i64 0]) 6 48 Tryz.underlying23 hi hz0 hz1 hz2 rfl (by decide) _ _ _ rfl (World.ownsRow.alloc hrow2 _) ⟨w2.heap.size, 0, none⟩ 1 1 (metC ⟨m0, m1, m2, m3, m4, m5⟩) rfl rfl (cells_new w2 _ _) ?c1 ?c2 ?c3 ?c4 ?_)
      case c1 => intro q hq; simp only [metC, List.mem_cons, List.not_mem_nil, or_false] at hq; rcases hq with rfl | rfl | rfl | rfl | rfl | rfl <;> rfl
      case c2 => unfold maxLen; omega
      case c3 => omega
      case c4 => first | omega | (simp; omega)
      intro q y hown hgr _ _
      have hrow' : y.ownsRow W.heap.size 43 6 q (i + 1) (metsRow x0 x1 x2 x3 ws (i + 1)) := by
        rw [HNX.out]; exact hown
      have hky : Kept W y := by
        have hlow : ∀ g, Value.ownBlock _ = some g → W.heap.size ≤ g := fun g e => (World.ownsRow.lt hrow2 g e).1
        exact Below.grown (kalloc kk2 _) hgr (kalloc kk2 _).size hlow
      clear hown hgr
      go_wp2_with (fail)
      go_roundw
      case rel => exact ⟨i + 1, by omega, by go_num, HBF.out, hky, hrow'⟩
      case measure => simp [intOf]; omega
    · obtain rfl : i = L := by omega
      have d0 : decide (i < i) = false := decide_eq_false (by omega)
      have HRow := Lib.hid hrow
      have HY := Lib.hid (all_yes (p := metOk L0 L1 L2 L3) fun k hk => hbefore k hk (by omega))
      have HE : Hid (metsRow x0 x1 x2 x3 ws i = (ws.map (metR x0 x1 x2 x3)).flatMap metC) := Lib.hid (by unfold metsRow; rw [← hLe, List.take_length])
      have HK := Lib.hid hk
      clear hrow hbefore hLe hk
      go_wp2_with (fail)
      go_ret
      exact .inl ⟨HY.out, ⟨_, rfl, by rw [← HE.out]; exact own_base HRow.out hk0.size⟩, hk0.trans HK.out⟩
end Go.Proofs.YtdhidpbenhmfgaaGreat
