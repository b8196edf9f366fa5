/- What else is known of a font that came in: its rows' bytes fit, and a row that is nil is empty. And append out of such a row. -/
import Derived.Test.YtdhidpbenhmfgaaGreatFontAt
import Derived.SizedLaws
import Derived.Maps.AppendAt
import Derived.Laws.AppendOwnNone
namespace Go.Proofs.YtdhidpbenhmfgaaGreat
open Go.ChangeShapes Go.WideShapes Go.ChangeAt Go.RowKit Go.Deep

/-- a row's length in bytes fits; nil is empty -/
def RowFit (A : Option Addr) (n c b : Nat) : Prop := (A = none → n = 0 ∧ c = 0) ∧ n * b ≤ 140737488355328
structure FFit (F : Fnt) (a : FAddr) : Prop where
  r0 : RowFit a.A0 F.chars.length a.c0 48
  r1 : RowFit a.A1 F.steps.length a.c1 4
  r2 : RowFit a.A2 F.kerns.length a.c2 8
  r3 : RowFit a.A3 F.pieces.length a.c3 4
  r4 : RowFit a.A4 F.params.length a.c4 8

section
variable {H : Type} {enc : TypeId × Value → H} {P : Program} {w : World}
theorem slice_fit {fuel : Nat} {t e : TypeId} {cs : List Value} {x : DataW H × List MemPlace} {b : Nat} (ht : P.underlying t = some (.slice e)) (hb : P.bytesOf e = b) (hf : DataW.trod enc P w 0 (fun _ => true) true fuel t cs = some x)
    (hw : ∀ n ∈ x.1.weights P t, n ≤ reachBytes) {A : Option Addr} {n c : Nat} (hc : cs = [.slice A n c]) : RowFit A n c b := by
  have hr := reachBytes_lt
  rcases open_slice ht hf with ⟨h1, rfl⟩ | ⟨a, len, cap, m, k, D, Pl, h1, _, hle, _, hm, h2, _⟩
  · rw [hc] at h1
    cases h1
    exact ⟨fun _ => ⟨rfl, rfl⟩, by simp⟩
  · rw [hc] at h1
    cases h1
    refine ⟨fun h => (by cases h), ?_⟩
    have q := hw ((n + (m - n)) * b) (by rw [h2]; simp [DataW.weights, ht, hb])
    have hnm : n ≤ m := by rw [hm]; split <;> omega
    have := Nat.mul_le_mul_right b (show n ≤ n + (m - n) by omega)
    omega
end
section
variable {H : Type} {enc : TypeId × Value → H} {w : World}
set_option maxRecDepth 100000 in
set_option maxHeartbeats 1000000 in
theorem font_fit {F : Fnt} {a : FAddr} {d : DataW H} {p : List MemPlace} (h : DataW.Trod enc Tryz.prog w 0 (fun _ => true) true 28 (fontV F a) d p) (hw : ∀ n ∈ d.weights Tryz.prog 28, n ≤ reachBytes) : FFit F a := by
  obtain ⟨fuel, hf⟩ := h
  obtain ⟨ys, m, _, hx, hlen, hyl, hall⟩ := DataW.trod_struct Tryz.underlying28 hf
  have hyl8 : ys.length = 8 := hyl
  have hcells : (fontV F a).cells.toList = [.int .u32 F.check, .int .i64 F.design, .int .i64 F.first, .slice a.A0 F.chars.length a.c0, .slice a.A1 F.steps.length a.c1, .slice a.A2 F.kerns.length a.c2, .slice a.A3 F.pieces.length a.c3, .slice a.A4 F.params.length a.c4] := by simp [Value.cells]
  rw [hcells] at hall
  match ys, hyl8 with
  | [y0, y1, y2, y3, y4, y5, y6, y7], _ =>
    have hd : d = .agg [y0.1, y1.1, y2.1, y3.1, y4.1, y5.1, y6.1, y7.1] := (Prod.ext_iff.1 hx).1
    subst hd
    have s3 : Tryz.prog.cellsOf 23 = 1 := by kernel_rfl
    have s4 : Tryz.prog.cellsOf 24 = 1 := by kernel_rfl
    have s5 : Tryz.prog.cellsOf 25 = 1 := by kernel_rfl
    have s6 : Tryz.prog.cellsOf 26 = 1 := by kernel_rfl
    have q3 := hall 3 _ rfl
    simp only [List.getElem_toArray, List.getElem_cons_zero, List.getElem_cons_succ, s3, List.drop_zero, List.drop_succ_cons, List.take_succ_cons, List.take_zero] at q3
    have q4 := hall 4 _ rfl
    simp only [List.getElem_toArray, List.getElem_cons_zero, List.getElem_cons_succ, s4, List.drop_zero, List.drop_succ_cons, List.take_succ_cons, List.take_zero] at q4
    have q5 := hall 5 _ rfl
    simp only [List.getElem_toArray, List.getElem_cons_zero, List.getElem_cons_succ, s5, List.drop_zero, List.drop_succ_cons, List.take_succ_cons, List.take_zero] at q5
    have q6 := hall 6 _ rfl
    simp only [List.getElem_toArray, List.getElem_cons_zero, List.getElem_cons_succ, s6, List.drop_zero, List.drop_succ_cons, List.take_succ_cons, List.take_zero] at q6
    have q7 := hall 7 _ rfl
    simp only [List.getElem_toArray, List.getElem_cons_zero, List.getElem_cons_succ, s5, List.drop_zero, List.drop_succ_cons, List.take_succ_cons, List.take_zero] at q7
    have hW : ∀ n, (n ∈ y3.1.weights Tryz.prog 23 ∨ n ∈ y4.1.weights Tryz.prog 24 ∨ n ∈ y5.1.weights Tryz.prog 25 ∨ n ∈ y6.1.weights Tryz.prog 26 ∨ n ∈ y7.1.weights Tryz.prog 25) → n ≤ reachBytes := fun n hn => hw n (by
      simp only [DataW.weights, Tryz.underlying28, List.map_cons, List.map_nil, DataW.weightsEach, List.mem_append]
      rcases hn with h | h | h | h | h <;> simp [h])
    exact ⟨slice_fit Tryz.underlying23 (by kernel_rfl) q3 (fun n h => hW n (.inl h)) rfl, slice_fit Tryz.underlying24 (by kernel_rfl) q4 (fun n h => hW n (.inr (.inl h))) rfl,
      slice_fit Tryz.underlying25 (by kernel_rfl) q5 (fun n h => hW n (.inr (.inr (.inl h)))) rfl, slice_fit Tryz.underlying26 (by kernel_rfl) q6 (fun n h => hW n (.inr (.inr (.inr (.inl h))))) rfl,
      slice_fit Tryz.underlying25 (by kernel_rfl) q7 (fun n h => hW n (.inr (.inr (.inr (.inr h))))) rfl⟩
end

section
variable {P : Program} {w : World}
/-- append out of a row that came in, nil or not -/
theorem wpList_append_in {ops : Array Oper} {rest : List Oper} {o : Oper} {a : Act} {Q : Exit → Act → World → Prop} (hgd : o.guard = none) (s x : Operand) (t : TypeId)
    (ho : o.op = .call { callee := .builtin .append, args := #[s, x], argTypes := #[t, t] })
    (base : Nat) (e : TypeId) (i : TypeInfo) (z : Value) (size bytes : Nat) (ht : P.underlying t = some (.slice e)) (hi : P.info? e = some i) (hz : i.zero = some z)
    (hsize : i.size = size) (hby : i.bytes = bytes) (hzs : z.cells.size = size) (hsz : 0 < size)
    (v : Value) (n : Nat) (xs : List Value) (hs : a.eval s = v) (hown : w.ownsRow base e size v n xs)
    (A : Option Addr) (m c : Nat) (news : List Value) (hx : a.eval x = .slice A m c) (hfit : (A = none → m = 0 ∧ c = 0)) (hl : news.length = m * size) (hnews : ∀ ad, A = some ad → ∀ j u, news[j]? = some u → w.cell? (ad.add j) = some u) (h1 : ∀ u ∈ news, u.oneCell' = true)
    (h63 : n + m ≤ maxLen) (hbytes : (n + m) * bytes ≤ 140737488355328) (hbase : base ≤ w.heap.size)
    (h : ∀ v' w', w'.ownsRow base e size v' (n + m) (xs ++ news) → w.grownBy w' v.ownBlock → (v'.ownBlock = v.ownBlock ∨ v'.ownBlock = some w.heap.size) → wpList P ops Q rest (a.put o.dst v') w') :
    wpList P ops Q (o :: rest) a w := by
  cases A with
  | none =>
    obtain ⟨rfl, rfl⟩ := hfit rfl
    obtain rfl : news = [] := List.eq_nil_of_length_eq_zero (by simpa using hl)
    refine wpList_append_own_none hgd s x t ho base e i size ht hi v n xs hs hown hx ?_
    exact h v w (by simpa using hown) ⟨rfl, rfl, rfl, Nat.le_refl _, fun _ _ _ => rfl⟩ (.inl rfl)
  | some ad => exact wpList_append_own_at _ hgd s x t ho base e i z size bytes ht hi hz hsize hby hzs hsz v n xs hs hown ad m c news hx hl (hnews ad rfl) h1 h63 hbytes hbase (fun v' w' h2 h3 _ h5 => h v' w' h2 h3 h5)
end
end Go.Proofs.YtdhidpbenhmfgaaGreat
