/- A font that came in, opened. -/
import Derived.Test.YtdhidpbenhmfgaaGreatM0
namespace Go.Proofs.YtdhidpbenhmfgaaGreat
open Go.ChangeShapes Go.WideShapes Go.ChangeAt Go.RowKit Go.Deep

/-- a character's numbers -/
structure Met where
  w : Int
  h : Int
  d : Int
  it : Int
  tag : Int
  rest : Int
deriving DecidableEq
/-- four bytes -/
structure St where
  skip : Int
  next : Int
  op : Int
  rest : Int
deriving DecidableEq
structure Fnt where
  check : Int
  design : Int
  first : Int
  chars : List Met
  steps : List St
  kerns : List Int
  pieces : List St
  params : List Int
deriving DecidableEq

def i64B (z : Int) : Prop := -9223372036854775808 ≤ z ∧ z ≤ 9223372036854775807
def byteB (z : Int) : Prop := 0 ≤ z ∧ z ≤ 255
structure Met.wf (m : Met) : Prop where
  w : i64B m.w
  h : i64B m.h
  d : i64B m.d
  it : i64B m.it
  tag : i64B m.tag
  rest : i64B m.rest
structure St.wf (m : St) : Prop where
  skip : byteB m.skip
  next : byteB m.next
  op : byteB m.op
  rest : byteB m.rest

def MetsAt (w : World) (A : Option Addr) (l : List Met) (B : Nat) : Prop :=
  0 < l.length → ∃ b o, A = some ⟨b, o, none⟩ ∧ b < B ∧ ∀ i (h : i < l.length), w.cell? ⟨b, o + i * 6, none⟩ = some (.int .i64 l[i].w) ∧ w.cell? ⟨b, o + i * 6 + 1, none⟩ = some (.int .i64 l[i].h) ∧ w.cell? ⟨b, o + i * 6 + 2, none⟩ = some (.int .i64 l[i].d) ∧
    w.cell? ⟨b, o + i * 6 + 3, none⟩ = some (.int .i64 l[i].it) ∧ w.cell? ⟨b, o + i * 6 + 4, none⟩ = some (.int .i64 l[i].tag) ∧ w.cell? ⟨b, o + i * 6 + 5, none⟩ = some (.int .i64 l[i].rest)
def StsAt (w : World) (A : Option Addr) (l : List St) (B : Nat) : Prop :=
  0 < l.length → ∃ b o, A = some ⟨b, o, none⟩ ∧ b < B ∧ ∀ i (h : i < l.length), w.cell? ⟨b, o + i * 4, none⟩ = some (.int .u8 l[i].skip) ∧ w.cell? ⟨b, o + i * 4 + 1, none⟩ = some (.int .u8 l[i].next) ∧ w.cell? ⟨b, o + i * 4 + 2, none⟩ = some (.int .u8 l[i].op) ∧
    w.cell? ⟨b, o + i * 4 + 3, none⟩ = some (.int .u8 l[i].rest)
def NumsAt (w : World) (A : Option Addr) (l : List Int) (B : Nat) : Prop :=
  0 < l.length → ∃ b o, A = some ⟨b, o, none⟩ ∧ b < B ∧ ∀ i (h : i < l.length), w.cell? ⟨b, o + i, none⟩ = some (.int .i64 l[i])

section
variable {w w' : World} {A : Option Addr} {B : Nat}
theorem MetsAt.kept {l : List Met} (h : MetsAt w A l B) (hk : Below B w w') : MetsAt w' A l B := fun hn => by
  obtain ⟨b, o, e, hb, hc⟩ := h hn
  refine ⟨b, o, e, hb, fun i hi => ?_⟩
  have hq : ∀ k, w'.cell? ⟨b, k, none⟩ = w.cell? ⟨b, k, none⟩ := fun k => hk.cell (p := ⟨b, k, none⟩) hb
  simp only [hq]
  exact hc i hi
theorem StsAt.kept {l : List St} (h : StsAt w A l B) (hk : Below B w w') : StsAt w' A l B := fun hn => by
  obtain ⟨b, o, e, hb, hc⟩ := h hn
  refine ⟨b, o, e, hb, fun i hi => ?_⟩
  have hq : ∀ k, w'.cell? ⟨b, k, none⟩ = w.cell? ⟨b, k, none⟩ := fun k => hk.cell (p := ⟨b, k, none⟩) hb
  simp only [hq]
  exact hc i hi
theorem NumsAt.kept {l : List Int} (h : NumsAt w A l B) (hk : Below B w w') : NumsAt w' A l B := fun hn => by
  obtain ⟨b, o, e, hb, hc⟩ := h hn
  exact ⟨b, o, e, hb, fun i hi => (hk.cell (p := ⟨b, o + i, none⟩) hb).trans (hc i hi)⟩
theorem MetsAt.more {l : List Met} {C : Nat} (h : MetsAt w A l B) (hB : B ≤ C) : MetsAt w A l C := fun hn => by
  obtain ⟨b, o, e, hb, hc⟩ := h hn
  exact ⟨b, o, e, by omega, hc⟩
theorem StsAt.more {l : List St} {C : Nat} (h : StsAt w A l B) (hB : B ≤ C) : StsAt w A l C := fun hn => by
  obtain ⟨b, o, e, hb, hc⟩ := h hn
  exact ⟨b, o, e, by omega, hc⟩
theorem NumsAt.more {l : List Int} {C : Nat} (h : NumsAt w A l B) (hB : B ≤ C) : NumsAt w A l C := fun hn => by
  obtain ⟨b, o, e, hb, hc⟩ := h hn
  exact ⟨b, o, e, by omega, hc⟩

theorem wf_i64 {z : Int} (h : (Lit.int .i64 z).wf = true) : i64B z := bounds_i64 h
theorem wf_u8 {z : Int} (h : (Lit.int .u8 z).wf = true) : byteB z := bounds_u8 h
end

structure Fnt.wf (F : Fnt) : Prop where
  check : 0 ≤ F.check ∧ F.check ≤ 4294967295
  design : i64B F.design
  first : i64B F.first
  chars : ∀ m ∈ F.chars, m.wf
  steps : ∀ s ∈ F.steps, s.wf
  kerns : ∀ z ∈ F.kerns, i64B z
  pieces : ∀ s ∈ F.pieces, s.wf
  params : ∀ z ∈ F.params, i64B z
  l0 : F.chars.length ≤ maxLen
  l1 : F.steps.length ≤ maxLen
  l2 : F.kerns.length ≤ maxLen
  l3 : F.pieces.length ≤ maxLen
  l4 : F.params.length ≤ maxLen

/-- the addresses and capacities of a font's five rows -/
structure FAddr where
  A0 : Option Addr
  c0 : Nat
  A1 : Option Addr
  c1 : Nat
  A2 : Option Addr
  c2 : Nat
  A3 : Option Addr
  c3 : Nat
  A4 : Option Addr
  c4 : Nat
abbrev fontV (F : Fnt) (a : FAddr) : Value := .agg #[.int .u32 F.check, .int .i64 F.design, .int .i64 F.first, .slice a.A0 F.chars.length a.c0, .slice a.A1 F.steps.length a.c1, .slice a.A2 F.kerns.length a.c2, .slice a.A3 F.pieces.length a.c3, .slice a.A4 F.params.length a.c4]
structure FontAt (w : World) (F : Fnt) (a : FAddr) (B : Nat) : Prop where
  m : MetsAt w a.A0 F.chars B
  s : StsAt w a.A1 F.steps B
  k : NumsAt w a.A2 F.kerns B
  p : StsAt w a.A3 F.pieces B
  q : NumsAt w a.A4 F.params B
  cap : F.chars.length ≤ a.c0 ∧ F.steps.length ≤ a.c1 ∧ F.kerns.length ≤ a.c2 ∧ F.pieces.length ≤ a.c3 ∧ F.params.length ≤ a.c4
theorem FontAt.kept {w w' : World} {F : Fnt} {a : FAddr} {B : Nat} (h : FontAt w F a B) (hk : Below B w w') : FontAt w' F a B := ⟨h.m.kept hk, h.s.kept hk, h.k.kept hk, h.p.kept hk, h.q.kept hk, h.cap⟩
theorem FontAt.more {w : World} {F : Fnt} {a : FAddr} {B C : Nat} (h : FontAt w F a B) (hB : B ≤ C) : FontAt w F a C := ⟨h.m.more hB, h.s.more hB, h.k.more hB, h.p.more hB, h.q.more hB, h.cap⟩

section
variable {w : World} {A : Option Addr} {B n : Nat} {f : Nat → Nat → Int}
theorem mets_of (h : RowsAt w A (fun _ => .i64) 6 n f B) (hw : ∀ i < n, ∀ j < 6, (Lit.int .i64 (f i j)).wf = true) : ∃ l : List Met, l.length = n ∧ MetsAt w A l B ∧ ∀ m ∈ l, m.wf := by
  refine ⟨(List.range n).map fun i => ⟨f i 0, f i 1, f i 2, f i 3, f i 4, f i 5⟩, by simp, fun hn => ?_, fun m hm => ?_⟩
  · have hn' : 0 < n := by simpa using hn
    obtain ⟨b, o, e, hb, hc⟩ := h hn'
    refine ⟨b, o, e, hb, fun i hi => ?_⟩
    have hi' : i < n := by simpa using hi
    have h0 := hc i hi' 0 (by omega)
    have h1 := hc i hi' 1 (by omega)
    have h2 := hc i hi' 2 (by omega)
    have h3 := hc i hi' 3 (by omega)
    have h4 := hc i hi' 4 (by omega)
    have h5 := hc i hi' 5 (by omega)
    simp only [List.getElem_map, List.getElem_range]
    exact ⟨h0, h1, h2, h3, h4, h5⟩
  · rw [List.mem_map] at hm
    obtain ⟨i, hi, rfl⟩ := hm
    have hi' := List.mem_range.1 hi
    exact ⟨wf_i64 (hw i hi' 0 (by omega)), wf_i64 (hw i hi' 1 (by omega)), wf_i64 (hw i hi' 2 (by omega)), wf_i64 (hw i hi' 3 (by omega)), wf_i64 (hw i hi' 4 (by omega)), wf_i64 (hw i hi' 5 (by omega))⟩
theorem sts_of (h : RowsAt w A (fun _ => .u8) 4 n f B) (hw : ∀ i < n, ∀ j < 4, (Lit.int .u8 (f i j)).wf = true) : ∃ l : List St, l.length = n ∧ StsAt w A l B ∧ ∀ m ∈ l, m.wf := by
  refine ⟨(List.range n).map fun i => ⟨f i 0, f i 1, f i 2, f i 3⟩, by simp, fun hn => ?_, fun m hm => ?_⟩
  · have hn' : 0 < n := by simpa using hn
    obtain ⟨b, o, e, hb, hc⟩ := h hn'
    refine ⟨b, o, e, hb, fun i hi => ?_⟩
    have hi' : i < n := by simpa using hi
    have h0 := hc i hi' 0 (by omega)
    have h1 := hc i hi' 1 (by omega)
    have h2 := hc i hi' 2 (by omega)
    have h3 := hc i hi' 3 (by omega)
    simp only [List.getElem_map, List.getElem_range]
    exact ⟨h0, h1, h2, h3⟩
  · rw [List.mem_map] at hm
    obtain ⟨i, hi, rfl⟩ := hm
    have hi' := List.mem_range.1 hi
    exact ⟨wf_u8 (hw i hi' 0 (by omega)), wf_u8 (hw i hi' 1 (by omega)), wf_u8 (hw i hi' 2 (by omega)), wf_u8 (hw i hi' 3 (by omega))⟩
theorem nums_of (h : RowsAt w A (fun _ => .i64) 1 n f B) (hw : ∀ i < n, ∀ j < 1, (Lit.int .i64 (f i j)).wf = true) : ∃ l : List Int, l.length = n ∧ NumsAt w A l B ∧ ∀ z ∈ l, i64B z := by
  refine ⟨(List.range n).map fun i => f i 0, by simp, fun hn => ?_, fun m hm => ?_⟩
  · have hn' : 0 < n := by simpa using hn
    obtain ⟨b, o, e, hb, hc⟩ := h hn'
    refine ⟨b, o, e, hb, fun i hi => ?_⟩
    have hi' : i < n := by simpa using hi
    have h0 := hc i hi' 0 (by omega)
    simp only [List.getElem_map, List.getElem_range]
    rw [Nat.mul_one] at h0
    exact h0
  · rw [List.mem_map] at hm
    obtain ⟨i, hi, rfl⟩ := hm
    exact wf_i64 (hw i (List.mem_range.1 hi) 0 (by omega))
end

section
variable {H : Type} {enc : TypeId × Value → H} {w : World}
theorem ks (t : TypeId) (m : Nat) (K : Nat → IntKind) (h : (List.range m).all (fun j => kindAt Tryz.prog 5 t j == some (K j)) = true) : ∀ j < m, kindAt Tryz.prog 5 t j = some (K j) := fun j hj => by
  have := List.all_eq_true.1 h j (List.mem_range.2 hj)
  simpa using this
set_option maxRecDepth 100000 in
set_option maxHeartbeats 1000000 in
theorem open_font {r : Reach} {b0 : Nat} {v : Value} {d : DataW H} {p : List MemPlace} (hv : Value.okWide Tryz.prog w r b0 28 v) (h : DataW.Trod enc Tryz.prog w 0 (fun _ => true) true 28 v d p) :
    ∃ (F : Fnt) (a : FAddr), v = fontV F a ∧ FontAt w F a w.heap.size ∧ F.wf := by
  obtain ⟨cs, rfl, hsz⟩ := okWide_struct Tryz.underlying28 hv
  obtain ⟨fuel, hf⟩ := h
  obtain ⟨ys, m, _, hx, hlen, hyl, hall⟩ := DataW.trod_struct Tryz.underlying28 hf
  have hC : Tryz.prog.cellsOf 28 = 8 := by kernel_rfl
  rw [hC] at hlen
  obtain ⟨l⟩ := cs
  have hl8 : l.length = 8 := by simpa [Value.cells] using hlen
  have hyl8 : ys.length = 8 := hyl
  have hcells : (Value.agg ⟨l⟩).cells.toList = l := by simp [Value.cells]
  rw [hcells] at hall
  match l, hl8 with
  | [v0, v1, v2, v3, v4, v5, v6, v7], _ =>
    have g : ∀ (i : Nat) (fld : Field), _ → i < 8 → DataW.trod enc Tryz.prog w 0 (fun _ => true) true m fld.type ((([v0, v1, v2, v3, v4, v5, v6, v7] : List Value).drop fld.offset).take (Tryz.prog.cellsOf fld.type)) = some (ys[i]?.getD (.nil, [])) := fun i fld hfi hi => by
      rw [hall i fld hfi, List.getElem?_eq_getElem (by omega)]; rfl
    have e1 : Tryz.prog.cellsOf 22 = 1 := by kernel_rfl
    have e2 : Tryz.prog.cellsOf 3 = 1 := by kernel_rfl
    have s3 : Tryz.prog.cellsOf 23 = 1 := by kernel_rfl
    have s4 : Tryz.prog.cellsOf 24 = 1 := by kernel_rfl
    have s5 : Tryz.prog.cellsOf 25 = 1 := by kernel_rfl
    have s6 : Tryz.prog.cellsOf 26 = 1 := by kernel_rfl
    have q0 := g 0 _ rfl (by omega)
    simp only [List.getElem_toArray, List.getElem_cons_zero, e1, List.drop_zero, List.take_succ_cons, List.take_zero] at q0
    have q1 := g 1 _ rfl (by omega)
    simp only [List.getElem_toArray, List.getElem_cons_zero, List.getElem_cons_succ, e2, List.drop_zero, List.drop_succ_cons, List.take_succ_cons, List.take_zero] at q1
    have q2 := g 2 _ rfl (by omega)
    simp only [List.getElem_toArray, List.getElem_cons_zero, List.getElem_cons_succ, e2, List.drop_zero, List.drop_succ_cons, List.take_succ_cons, List.take_zero] at q2
    have q3 := g 3 _ rfl (by omega)
    simp only [List.getElem_toArray, List.getElem_cons_zero, List.getElem_cons_succ, s3, List.drop_zero, List.drop_succ_cons, List.take_succ_cons, List.take_zero] at q3
    have q4 := g 4 _ rfl (by omega)
    simp only [List.getElem_toArray, List.getElem_cons_zero, List.getElem_cons_succ, s4, List.drop_zero, List.drop_succ_cons, List.take_succ_cons, List.take_zero] at q4
    have q5 := g 5 _ rfl (by omega)
    simp only [List.getElem_toArray, List.getElem_cons_zero, List.getElem_cons_succ, s5, List.drop_zero, List.drop_succ_cons, List.take_succ_cons, List.take_zero] at q5
    have q6 := g 6 _ rfl (by omega)
    simp only [List.getElem_toArray, List.getElem_cons_zero, List.getElem_cons_succ, s6, List.drop_zero, List.drop_succ_cons, List.take_succ_cons, List.take_zero] at q6
    have q7 := g 7 _ rfl (by omega)
    simp only [List.getElem_toArray, List.getElem_cons_zero, List.getElem_cons_succ, s5, List.drop_zero, List.drop_succ_cons, List.take_succ_cons, List.take_zero] at q7
    obtain ⟨z0, h0, _, w0⟩ := DataW.trod_int Tryz.underlying22 q0
    obtain ⟨z1, h1, _, w1⟩ := DataW.trod_int Tryz.underlying3 q1
    obtain ⟨z2, h2, _, w2⟩ := DataW.trod_int Tryz.underlying3 q2
    obtain ⟨A0, n0, c0, f0, h3, r0, l0, x0, y0⟩ := rows_cs (m := 6) (K := fun _ => .i64) Tryz.underlying23 (by kernel_rfl) (by omega) (ks _ _ _ (by kernel_rfl)) q3
    obtain ⟨A1, n1, c1, f1, h4, r1, l1, x1, y1⟩ := rows_cs (m := 4) (K := fun _ => .u8) Tryz.underlying24 (by kernel_rfl) (by omega) (ks _ _ _ (by kernel_rfl)) q4
    obtain ⟨A2, n2, c2, f2, h5, r2, l2, x2, y2⟩ := rows_cs (m := 1) (K := fun _ => .i64) Tryz.underlying25 (by kernel_rfl) (by omega) (ks _ _ _ (by kernel_rfl)) q5
    obtain ⟨A3, n3, c3, f3, h6, r3, l3, x3, y3⟩ := rows_cs (m := 4) (K := fun _ => .u8) Tryz.underlying26 (by kernel_rfl) (by omega) (ks _ _ _ (by kernel_rfl)) q6
    obtain ⟨A4, n4, c4, f4, h7, r4, l4, x4, y4⟩ := rows_cs (m := 1) (K := fun _ => .i64) Tryz.underlying25 (by kernel_rfl) (by omega) (ks _ _ _ (by kernel_rfl)) q7
    obtain ⟨ms, k0, M0, W0⟩ := mets_of r0 y0
    obtain ⟨ss, k1, M1, W1⟩ := sts_of r1 y1
    obtain ⟨ns, k2, M2, W2⟩ := nums_of r2 y2
    obtain ⟨ps, k3, M3, W3⟩ := sts_of r3 y3
    obtain ⟨qs, k4, M4, W4⟩ := nums_of r4 y4
    simp only [List.cons.injEq, and_true] at h0 h1 h2 h3 h4 h5 h6 h7
    subst h0 h1 h2 h3 h4 h5 h6 h7 k0 k1 k2 k3 k4
    refine ⟨⟨z0, z1, z2, ms, ss, ns, ps, qs⟩, ⟨A0, c0, A1, c1, A2, c2, A3, c3, A4, c4⟩, rfl, ⟨M0, M1, M2, M3, M4, l0, l1, l2, l3, l4⟩, ?_⟩
    exact ⟨bounds_u32 w0, wf_i64 w1, wf_i64 w2, W0, W1, W2, W3, W4, Nat.le_trans l0 x0, Nat.le_trans l1 x1, Nat.le_trans l2 x2, Nat.le_trans l3 x3, Nat.le_trans l4 x4⟩
end
end Go.Proofs.YtdhidpbenhmfgaaGreat
