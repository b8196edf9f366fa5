/- Base Kinds. -/
import Derived.Test.YtdhidpbenhmfgaaGreatRows
import Derived.WalkKit
import Derived.WalkSpells
import Derived.WalkLawsBesides
import Derived.ProofKit
import Derived.OpenShut
import Derived.ShutString
import Derived.Lib.Hide
import Derived.Deep.QuietTactic
import Derived.BigQuiet
import Derived.ChangeSame
import Derived.Deep.Slices
import Derived.Carry
namespace Go.Proofs.YtdhidpbenhmfgaaGreat
open Go.RowKit Go.WideShapes Go.ChangeShapes

theorem ret_int {k : IntKind} {a b : Int} (h : a = b) : Ending.returned (.int k a) = .returned (.int k b) := by rw [h]
theorem ret_bool {a b : Bool} (h : a = b) : Ending.returned (.bool a) = .returned (.bool b) := by rw [h]
theorem ret_str {a b : ByteArray} (h : a = b) : Ending.returned (.string a) = .returned (.string b) := by rw [h]
theorem ret_ii {k l : IntKind} {a b c d : Int} (h : a = b) (h' : c = d) : Ending.returned (.tuple #[.int k a, .int l c]) = .returned (.tuple #[.int k b, .int l d]) := by rw [h, h']
theorem ret_iii {k l m : IntKind} {a b c d e f : Int} (h : a = b) (h' : c = d) (h'' : e = f) : Ending.returned (.tuple #[.int k a, .int l c, .int m e]) = .returned (.tuple #[.int k b, .int l d, .int m f]) := by rw [h, h', h'']
theorem ret_iib {k l : IntKind} {a b c d : Int} {e f : Bool} (h : a = b) (h' : c = d) (h'' : e = f) : Ending.returned (.tuple #[.int k a, .int l c, .bool e]) = .returned (.tuple #[.int k b, .int l d, .bool f]) := by rw [h, h', h'']

theorem w64 {a : Int} (h : -9223372036854775808 ≤ a) (h' : a ≤ 9223372036854775807) : wrap64 a = a := by
  unfold wrap64; omega
theorem tdiv_bd {x n B : Int} (h : -B ≤ x) (h' : x ≤ B) : -B ≤ x.tdiv n ∧ x.tdiv n ≤ B := by
  have hq : (x.tdiv n).natAbs ≤ x.natAbs := by rw [Int.natAbs_tdiv]; exact Nat.div_le_self _ _
  omega

theorem bcell {W w1 : World} (hb : Below W.heap.size W w1) : (∀ b o, b < W.heap.size → w1.cell? ⟨b, o, none⟩ = W.cell? ⟨b, o, none⟩) ∧ (∀ b o, b < W.heap.size → w1.frozen? ⟨b, o, none⟩ = W.frozen? ⟨b, o, none⟩) :=
  ⟨fun b o h => hb.cell (p := ⟨b, o, none⟩) h, fun b o h => hb.frozen (p := ⟨b, o, none⟩) h⟩
theorem below_drewN {B : Nat} {a w : World} (h : Below B a w) (n : Nat) : Below B a (w.drewN n) := ⟨h.os, h.tape, h.output, h.size, h.block⟩

/-- 'w1' is 'w' with new blocks: what a call leaves that writes nothing that was there. -/
abbrev Kept (w w1 : World) : Prop := Below w.heap.size w w1
theorem Kept.refl (w : World) : Kept w w := Below.refl _ _
theorem Kept.trans {a b c : World} (h : Kept a b) (k : Kept b c) : Kept a c := Below.trans h (k.mono h.size)

section
variable {H : Type} {enc : TypeId × Value → H} {P : Program}
theorem post_of_below {f : Func} {s : ChangeSpec} {apart fresh handsOn again : Bool} {W W' : World} {args : Array Value} {v : Value} {ds gs : List (DataW H)} {before pa pv : List MemPlace}
    (hW : DataW.Whole enc P f.params.toList s.vars apart W args.toList ds gs before)
    (hres : ∀ (b : Nat) (sp : Nat → Bool) (hd : Bool), DataW.TrodAll enc P W' b sp hd f.resultTypes.toList (v.resultList f.resultTypes.size) (s.fn H (ds ++ gs)).results [])
    (hargs : ∀ sp : Nat → Bool, (∀ p ∈ before, sp p.block = true) → DataW.TrodAll enc P W' 0 sp true f.params.toList args.toList (s.fn H (ds ++ gs)).args pa)
    (hvars : ∀ sp : Nat → Bool, (∀ p ∈ before, sp p.block = true) → DataW.TrodVars enc P W' sp s.vars (s.fn H (ds ++ gs)).vars pv)
    (hps : before = pa ++ pv) (hb : Below W.heap.size W W')
    (hok : ∀ (j : Nat) (t : TypeId) (r : Value), f.resultTypes[j]? = some t → (v.resultList f.resultTypes.size)[j]? = some r → Value.okWide P W' .any 0 t r) :
    s.post enc P f apart fresh handsOn again W args v W' := by
  have hlt : ∀ p ∈ before, p.block < W.heap.size := fun p hp => hW.lt p hp
  have hold : ∀ p ∈ before, (fun b => decide (b < W.heap.size)) p.block = true := fun p hp => by simpa using hlt p hp
  refine ⟨ds, gs, before, [], pa, pv, hW, hres _ _ _, hargs _ hold, hvars _ hold, World.keptBut_mono (fun p hp => ⟨hp, ?_⟩) (hb.frame (· ∈ before)), fun _ => ?_⟩
  · rw [hps, List.mem_append] at hp
    exact Or.inr hp
  · obtain ⟨_, _, _, _, _, hz, hn⟩ := hW
    refine ⟨hok, _, _, ([] ++ pa) ++ pv, ⟨[] ++ pa, pv, trodAll_append (hargs _ (fun _ _ => rfl)) (hres _ _ _), hvars _ (fun _ _ => rfl), rfl, ?_, ?_⟩, ?_⟩
    · intro b off hp
      have hin : MemPlace.cell b off ∈ before := by rw [hps]; simpa using hp
      rw [hb.frozen (hlt _ hin)]
      exact hz b off hin
    · intro ha
      have := hn ha
      rw [hps] at this
      simpa using this
    · intro p hp _
      rw [hps]
      simpa using hp
end
end Go.Proofs.YtdhidpbenhmfgaaGreat
namespace Go.Proofs.YtdhidpbenhmfgaaGreat
open Go.ChangeShapes Go.WideShapes Go.ChangeAt Go.RowKit Go.Deep

/-- the kind of cell j of a type, if it is a whole number -/
def kindAt (P : Program) : Nat → TypeId → Nat → Option IntKind
  | 0, _, _ => none
  | k + 1, t, j => match P.underlying t with
    | some (.int ik) => if j = 0 ∧ P.cellsOf t = 1 then some ik else none
    | some (.struct fs) => (fs.toList.find? fun f => decide (f.offset ≤ j) && decide (j < f.offset + P.cellsOf f.type)).bind fun f => kindAt P k f.type (j - f.offset)
    | some (.array n e) => if 0 < P.cellsOf e ∧ j / P.cellsOf e < n then kindAt P k e (j % P.cellsOf e) else none
    | _ => none

/-- does a type hold whole numbers alone? -/
def kindsIn (P : Program) : Nat → TypeId → Bool
  | 0, _ => false
  | k + 1, t => match P.underlying t with
    | some (.int _) => true
    | some (.struct fs) => fs.toList.all fun f => kindsIn P k f.type
    | some (.array _ e) => kindsIn P k e
    | _ => false

section
variable {H : Type} {enc : TypeId × Value → H} {P : Program} {w : World} {base : Nat} {spare : Nat → Bool} {held : Bool}

theorem cut_get {cs : List Value} {o c j : Nat} (h1 : o ≤ j) (h2 : j < o + c) : ((cs.drop o).take c)[j - o]? = cs[j]? := by
  rw [List.getElem?_take, if_pos (by omega), List.getElem?_drop]
  congr 1; omega

theorem kind_open : ∀ (k : Nat) {t : TypeId} {fuel : Nat} {cs : List Value} {x : DataW H × List MemPlace} {j : Nat} {ik : IntKind}, DataW.trod enc P w base spare held fuel t cs = some x → kindAt P k t j = some ik →
    ∃ z, cs[j]? = some (.int ik z) ∧ (Lit.int ik z).wf = true := by
  intro k
  induction k with
  | zero => intro t fuel cs x j ik _ h; simp [kindAt] at h
  | succ k ih =>
    intro t fuel cs x j ik hx h
    unfold kindAt at h
    split at h
    · rename_i ik' ht
      split at h
      · rename_i hj
        obtain ⟨rfl, _⟩ := hj
        obtain rfl := Option.some.inj h
        obtain ⟨n, rfl, _, hw⟩ := DataW.trod_int ht hx
        exact ⟨n, rfl, hw⟩
      · cases h
    · rename_i fs ht
      obtain ⟨ys, m, _, rfl, hlen, hyl, hf⟩ := DataW.trod_struct ht hx
      rw [Option.bind_eq_some_iff] at h
      obtain ⟨f, hff, hk⟩ := h
      have hin := List.find?_some hff
      simp only [Bool.and_eq_true, decide_eq_true_eq] at hin
      obtain ⟨i, hi⟩ := List.mem_iff_getElem?.1 (List.mem_of_find?_eq_some hff)
      have hi' : fs[i]? = some f := by rw [← Array.getElem?_toList]; exact hi
      have hil : i < fs.size := (Array.getElem?_eq_some_iff.1 hi').1
      have hr := hf i f hi'
      rw [List.getElem?_eq_getElem (show i < ys.length by omega)] at hr
      obtain ⟨z, hz, hw⟩ := ih hr hk
      rw [cut_get hin.1 hin.2] at hz
      exact ⟨z, hz, hw⟩
    · rename_i n e ht
      obtain ⟨ys, m, _, rfl, hlen, hyl, hf⟩ := DataW.trod_array ht hx
      split at h
      · rename_i hj
        obtain ⟨hc, hi⟩ := hj
        have hr := hf (j / P.cellsOf e) hi
        rw [List.getElem?_eq_getElem (show j / P.cellsOf e < ys.length by omega)] at hr
        obtain ⟨z, hz, hw⟩ := ih hr h
        have h1 : j / P.cellsOf e * P.cellsOf e + j % P.cellsOf e = j := Nat.div_add_mod' j (P.cellsOf e)
        have h2 := Nat.mod_lt j hc
        have e1 : j - j / P.cellsOf e * P.cellsOf e = j % P.cellsOf e := by omega
        rw [← e1, cut_get (by omega) (by omega)] at hz
        exact ⟨z, hz, hw⟩
      · cases h
    · cases h

theorem kinds_none : ∀ (k : Nat) {t : TypeId} {fuel : Nat} {cs : List Value} {x : DataW H × List MemPlace}, DataW.trod enc P w base spare held fuel t cs = some x → kindsIn P k t = true → x.2 = [] := by
  intro k
  induction k with
  | zero => intro t fuel cs x _ h; simp [kindsIn] at h
  | succ k ih =>
    intro t fuel cs x hx h
    unfold kindsIn at h
    split at h
    · rename_i ik' ht
      obtain ⟨n, rfl, rfl, _⟩ := DataW.trod_int ht hx
      rfl
    · rename_i fs ht
      simp only [List.all_eq_true] at h
      obtain ⟨ys, m, _, rfl, hlen, hyl, hf⟩ := DataW.trod_struct ht hx
      rw [List.flatMap_eq_nil_iff]
      intro y hy
      obtain ⟨i, hi⟩ := List.mem_iff_getElem?.1 hy
      have hil : i < ys.length := (List.getElem?_eq_some_iff.1 hi).1
      obtain ⟨f, hf'⟩ : ∃ f, fs[i]? = some f := ⟨fs[i]'(by omega), Array.getElem?_eq_getElem (by omega)⟩
      have hr := hf i f hf'
      rw [hi] at hr
      exact ih hr (h f (by rw [← Array.getElem?_toList] at hf'; exact List.mem_iff_getElem?.2 ⟨i, hf'⟩))
    · rename_i n e ht
      obtain ⟨ys, m, _, rfl, hlen, hyl, hf⟩ := DataW.trod_array ht hx
      rw [List.flatMap_eq_nil_iff]
      intro y hy
      obtain ⟨i, hi⟩ := List.mem_iff_getElem?.1 hy
      have hil : i < ys.length := (List.getElem?_eq_some_iff.1 hi).1
      have hr := hf i (by omega)
      rw [hi] at hr
      exact ih hr h
    · cases h

/-- row i, cell j of what lies at A: m cells a row, of the kinds K -/
def RowsAt (w : World) (A : Option Addr) (K : Nat → IntKind) (m n : Nat) (f : Nat → Nat → Int) (B : Nat) : Prop :=
  0 < n → ∃ b o, A = some ⟨b, o, none⟩ ∧ b < B ∧ ∀ i < n, ∀ j < m, w.cell? ⟨b, o + i * m + j, none⟩ = some (.int (K j) (f i j))

theorem RowsAt.kept {w w' : World} {A : Option Addr} {K : Nat → IntKind} {m n : Nat} {f : Nat → Nat → Int} {B : Nat} (h : RowsAt w A K m n f B) (hk : Below B w w') : RowsAt w' A K m n f B := fun hn => by
  obtain ⟨b, o, e, hb, hc⟩ := h hn
  exact ⟨b, o, e, hb, fun i hi j hj => (hk.cell (p := ⟨b, o + i * m + j, none⟩) hb).trans (hc i hi j hj)⟩

/-- a slice of such elements that came in -/
theorem rows_cs {fuel : Nat} {t e : TypeId} {cs : List Value} {x : DataW H × List MemPlace} {m : Nat} {K : Nat → IntKind} (ht : P.underlying t = some (.slice e)) (hC : P.cellsOf e = m) (hm : 0 < m)
    (hK : ∀ j < m, kindAt P 5 e j = some (K j)) (hf : DataW.trod enc P w 0 (fun _ => true) true fuel t cs = some x) :
    ∃ (A : Option Addr) (n : Nat) (c : Nat) (f : Nat → Nat → Int), cs = [.slice A n c] ∧ RowsAt w A K m n f w.heap.size ∧ n ≤ c ∧ c ≤ maxLen ∧ ∀ i < n, ∀ j < m, (Lit.int (K j) (f i j)).wf = true := by
  rcases open_slice ht hf with ⟨rfl, _⟩ | ⟨a, n0, m', m'', n, D, Pl, rfl, _, hle, hcap, hm', _, hall⟩
  · exact ⟨none, 0, 0, fun _ _ => 0, rfl, fun hn => absurd hn (by omega), by omega, by unfold maxLen; omega, fun i hi => by omega⟩
  · simp only [if_true] at hm'
    subst hm'
    have hform : ∀ k u, w.cell? (a.add k) = some u → w.cell? ⟨a.block, a.off + k, none⟩ = some u := by
      intro k u hk
      unfold Addr.add at hk
      split at hk
      · rename_i h0
        subst h0
        have := World.cell?_spot hk
        obtain ⟨ab, ao, asp⟩ := a
        simp only at this
        subst this
        exact hk
      · exact hk
    have hex : ∀ i j, ∃ z : Int, i < n0 → j < m → w.cell? ⟨a.block, a.off + i * m + j, none⟩ = some (.int (K j) z) ∧ (Lit.int (K j) z).wf = true := by
      intro i j
      by_cases hi : i < n0
      · by_cases hj : j < m
        · obtain ⟨cs', hc, ht'⟩ := hall i (by omega)
          rw [hC] at hc
          obtain ⟨_, hl, hat⟩ := World.cells?_some hc
          obtain ⟨z, hz, hw⟩ := kind_open 5 ht' (hK j hj)
          have hq := hat j (by omega)
          rw [hz] at hq
          rw [Go.Deep.add_add] at hq
          have := hform _ _ hq
          exact ⟨z, fun _ _ => ⟨by rw [Nat.add_assoc]; exact this, hw⟩⟩
        · exact ⟨0, fun _ h => absurd h hj⟩
      · exact ⟨0, fun h => absurd h hi⟩
    obtain ⟨G, hG⟩ := Classical.axiomOfChoice (fun i => Classical.axiomOfChoice (hex i))
    refine ⟨some a, n0, m'', G, rfl, fun hn => ?_, hle, hcap, fun i hi j hj => (hG i j hi hj).2⟩
    obtain ⟨cs0, hc0, ht0⟩ := hall 0 (by omega)
    rw [hC] at hc0
    obtain ⟨_, hl0, hat0⟩ := World.cells?_some hc0
    have hsp : a.spot = none := by
      have h00 := hat0 0 (by omega)
      rw [List.getElem?_eq_getElem (by omega), Nat.zero_mul] at h00
      exact World.cell?_spot (a := a) h00
    have hblk : a.block < w.heap.size := by
      have := World.block_lt_of_cell? w _ (hG 0 0 hn hm).1
      exact this
    obtain ⟨ab, ao, asp⟩ := a
    simp only at hsp
    subst hsp
    exact ⟨ab, ao, rfl, hblk, fun i hi j hj => (hG i j hi hj).1⟩
theorem open_rows {r : Reach} {b0 : Nat} {t e : TypeId} {v : Value} {d : DataW H} {p : List MemPlace} {m : Nat} {K : Nat → IntKind} (ht : P.underlying t = some (.slice e)) (hC : P.cellsOf e = m) (hm : 0 < m)
    (hK : ∀ j < m, kindAt P 5 e j = some (K j)) (hv : Value.okWide P w r b0 t v) (h : DataW.Trod enc P w 0 (fun _ => true) true t v d p) :
    ∃ (A : Option Addr) (n : Nat) (c : Nat) (f : Nat → Nat → Int), v = .slice A n c ∧ RowsAt w A K m n f w.heap.size ∧ n ≤ c ∧ c ≤ maxLen ∧ ∀ i < n, ∀ j < m, (Lit.int (K j) (f i j)).wf = true := by
  obtain ⟨fuel, hf⟩ := h
  obtain ⟨a0, n0, c0, rfl⟩ := okWide_slice ht hv
  obtain ⟨A, n, c, f, h1, h2⟩ := rows_cs ht hC hm hK hf
  have h1 : [Value.slice a0 n0 c0] = [.slice A n c] := h1
  simp only [List.cons.injEq, and_true] at h1
  exact ⟨A, n, c, f, h1, h2⟩
end
end Go.Proofs.YtdhidpbenhmfgaaGreat
