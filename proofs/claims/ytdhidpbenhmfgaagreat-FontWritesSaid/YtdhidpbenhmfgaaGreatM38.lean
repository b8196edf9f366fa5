/- FBack Know3. -/
import Derived.Test.YtdhidpbenhmfgaaGreatCRead
import Derived.Test.YtdhidpbenhmfgaaGreatCWrite
import Derived.Test.YtdhidpbenhmfgaaGreatCAt
namespace Go.Proofs.YtdhidpbenhmfgaaGreat
open Go.RowKit

theorem brow_read {w : World} {B : Nat} {v : Value} {l : List Int} (h : BRow w B v l) : ∃ A c, v = .slice A l.length c ∧ BytesAt w A l w.heap.size ∧ l.length ≤ c ∧ c ≤ maxLen ∧ (A = none → c = 0) ∧ (∀ a, A = some a → ∃ b o, a = ⟨b, o, none⟩ ∧ b < w.heap.size) := by
  rcases h.2 with ⟨rfl, h0⟩ | ⟨g, cap, cur, rfl, hb, hg, hn, hc, hs, ht⟩
  · exact ⟨none, 0, by rw [h0], fun hn => by omega, by omega, by unfold maxLen; omega, fun _ => rfl, fun a e => by cases e⟩
  · refine ⟨_, _, rfl, fun _ => ⟨g, 0, rfl, (Array.getElem?_eq_some_iff.1 hg).1, fun k hk => ?_⟩, hn, hc, (fun e => by cases e), (fun a e => by cases e; exact ⟨g, 0, rfl, (Array.getElem?_eq_some_iff.1 hg).1⟩)⟩
    have hcell := World.ownsRow.cells h (g := g) rfl k (.int .u8 l[k]) (by simp [hk])
    rw [Go.Addr.add_mid] at hcell
    exact hcell
theorem bytes_app {a b : List Int} (ha : BytesOk a) (hb : BytesOk b) : BytesOk (a ++ b) := fun z hz => by
  rcases List.mem_append.1 hz with h | h
  · exact ha z h
  · exact hb z h
theorem bytes_flat {α : Type} {l : List α} {g : α → List Int} (h : ∀ x ∈ l, BytesOk (g x)) : BytesOk (l.flatMap g) := fun z hz => by
  obtain ⟨x, hx, hz⟩ := List.mem_flatMap.1 hz
  exact h x hx z hz
theorem bytes_num (n : Int) : BytesOk (stL (numS n)) := by
  intro z hz
  unfold stL numS at hz
  simp only [List.mem_cons, List.not_mem_nil, or_false] at hz
  rcases hz with rfl | rfl | rfl | rfl <;> omega
theorem bytes_st {s : St} (h : s.wf) : BytesOk (stL (idS s)) := by
  intro z hz
  obtain ⟨a, b, c, d⟩ := h
  unfold byteB at a b c d
  unfold stL idS at hz
  simp only [List.mem_cons, List.not_mem_nil, or_false] at hz
  rcases hz with rfl | rfl | rfl | rfl <;> assumption
theorem bytes_write {F : Fnt} (hw : F.wf) (h : fontE F = 0) (hs : sizesB F = true) : BytesOk (writeL F) := by
  unfold sizesB at hs
  rw [decide_eq_true_eq] at hs
  simp only [List.length_cons] at hs
  unfold writeL
  refine bytes_app (bytes_app (bytes_app (bytes_app (bytes_app (bytes_app (bytes_app (bytes_app (bytes_app (bytes_app ?_ ?_) ?_) ?_) ?_) ?_) ?_) ?_) ?_) ?_) ?_
  · unfold cntL
    refine bytes_flat fun i _ z hz => ?_
    unfold halfL at hz
    simp only [List.mem_cons, List.not_mem_nil, or_false] at hz
    rcases hz with rfl | rfl <;> omega
  · exact bytes_flat fun x _ => bytes_num x
  · refine bytes_flat fun m hm z hz => ?_
    have p0 := place_bd (l := tW F) (n := m.w)
    have p1 := place_bd (l := tH F) (n := m.h)
    have p2 := place_bd (l := tD F) (n := m.d)
    have p3 := place_bd (l := tI F) (n := m.it)
    have t := font_tag h hm
    unfold metS at hz
    split at hz
    · unfold stL at hz
      simp only [List.mem_cons, List.not_mem_nil, or_false] at hz
      rcases hz with rfl | rfl | rfl | rfl <;> omega
    · unfold stL at hz
      simp only [List.mem_cons, List.not_mem_nil, or_false] at hz
      rcases hz with rfl | rfl | rfl | rfl <;> omega
  · exact bytes_flat fun x _ => bytes_num x
  · exact bytes_flat fun x _ => bytes_num x
  · exact bytes_flat fun x _ => bytes_num x
  · exact bytes_flat fun x _ => bytes_num x
  · exact bytes_flat fun s h => bytes_st (hw.steps s h)
  · exact bytes_flat fun x _ => bytes_num x
  · exact bytes_flat fun s h => bytes_st (hw.pieces s h)
  · exact bytes_flat fun x _ => bytes_num x
theorem writeE_ok {F : Fnt} (h : writeE F = 0) : fontE F = 0 ∧ sizesB F = true := by
  unfold writeE at h
  split at h
  · rename_i h0
    split at h
    · rename_i h1; exact ⟨h0, h1⟩
    · omega
  · omega
theorem bytes_writeB {F : Fnt} (hw : F.wf) : BytesOk (writeB F) := by
  unfold writeB
  split
  · rename_i h; exact bytes_write hw (writeE_ok h).1 (writeE_ok h).2
  · intro z hz; cases hz
/-- what was written is no more than may be read -/
theorem writeL_len (F : Fnt) : ((writeL F).length : Int) = 4 * (wCnt F).lf := by
  rw [wCnt_lf]
  unfold writeL numsL stsL metsL
  simp only [List.length_append, flat_len, cntL_len, List.length_cons, List.length_nil]
  omega
theorem read_back_any {F : Fnt} (hw : F.wf) (h : writeE F = 0) : readE (writeB F) = 0 ∧ readV (writeB F) = F := by
  obtain ⟨h0, h1⟩ := writeE_ok h
  obtain ⟨q0, q1⟩ := read_write hw h0 h1
  have hl : ¬ 1048576 < (writeB F).length := by
    unfold writeB
    rw [if_pos h]
    have := writeL_len F
    unfold sizesB at h1
    rw [decide_eq_true_eq] at h1
    omega
  unfold readE readV
  rw [if_neg hl, if_neg hl]
  unfold writeB
  rw [if_pos h, if_pos q0, if_pos q0]
  exact ⟨rfl, q1⟩
theorem read_empty : readE [] = 40 ∧ readV [] = emptyF := by
  have hr : readB [] = false := by
    unfold readB
    rw [countsB_no (i := 0) (by omega) (by unfold halfOk; simp)]
    simp
  simp [readE, readV, hr]
/-- font.Read of what a call has laid -/
theorem read_brow {w0 w : World} {B : Nat} {v : Value} {bs : List Int} (h : BRow w B v bs) (hb : BytesOk bs) (hk : Kept w w0) : Calls Tryz.prog 47 #[v] w0 fun e w' => ReadPost bs w0 e w' := by
  obtain ⟨A, c, rfl, hA, hc, hm, h0, hs⟩ := brow_read h
  exact cread_any A _ c bs w0 rfl ((hA.kept hk).more hk.size) hc hm hb h0 fun a e => by
    obtain ⟨b, o, e1, e2⟩ := hs a e
    exact ⟨b, o, e1, Nat.lt_of_lt_of_le e2 hk.size⟩
def smallF : Fnt := ⟨7, 10485760, 97, [⟨524288, 262144, 0, 0, 0, 0⟩], [], [], [], [0, 262144]⟩
theorem small_wf : smallF.wf := by
  refine ⟨by simp [smallF], by simp [smallF, i64B], by simp [smallF, i64B], fun m hm => ?_, fun s hs => ?_, fun z hz => ?_, fun s hs => ?_, fun z hz => ?_, ?_, ?_, ?_, ?_, ?_⟩
  · simp [smallF] at hm; subst hm; constructor <;> simp [i64B]
  · simp [smallF] at hs
  · simp [smallF] at hz
  · simp [smallF] at hs
  · simp [smallF] at hz; rcases hz with rfl | rfl <;> simp [i64B]
  all_goals simp [smallF, maxLen]
theorem small_font : fontE smallF = 0 := by decide +kernel
theorem small_write : writeE smallF = 0 := by decide +kernel
theorem small_len : (writeB smallF).length = 68 := by decide +kernel
theorem small_at : atV smallF 97 655360 = .tuple #[.int .i64 327680, .int .i64 163840, .int .i64 0, .int .i64 0, .int .i64 0] := by
  kernel_rfl
end Go.Proofs.YtdhidpbenhmfgaaGreat
namespace Go.Proofs.YtdhidpbenhmfgaaGreat
open Go.RowKit

theorem num3_any (n : Int) (w : World) : Calls Tryz.prog 8 #[.int .i64 n] w fun e w' => e = .returned (.int .i64 n) ∧ w = w' := by
  go_enter Tryz.func8, Tryz.ntmps8
  go_wp2
  go_ret
  exact ⟨rfl, rfl⟩
abbrev smallV (a : FAddr) : Value := .agg #[.int .u32 7, .int .i64 10485760, .int .i64 97, .slice a.A0 1 a.c0, .slice a.A1 0 a.c1, .slice a.A2 0 a.c2, .slice a.A3 0 a.c3, .slice a.A4 2 a.c4]
theorem mets1 {w : World} {B C : Nat} {a b : Int} {T : TypeId} (h : w.heap[B]? = some (.cells #[.int .i64 a, .int .i64 b, .int .i64 0, .int .i64 0, .int .i64 0, .int .i64 0] T (0, 0))) (hC : B < C) : MetsAt w (some ⟨B, 0, none⟩) [⟨a, b, 0, 0, 0, 0⟩] C := fun _ =>
  ⟨B, 0, rfl, hC, fun i hi => by
    obtain rfl : i = 0 := by simpa using hi
    simp [World.cell?, h]⟩
theorem small_any (w : World) :
    Calls Tryz.prog 46 #[] w fun e w' => ∃ a, e = .returned (smallV a) ∧ FontAt w' smallF a w'.heap.size ∧ Kept w w' := by
  go_enter Tryz.func46, Tryz.ntmps46
  go_wp2_with (fail)
  obtain ⟨Z, hZ⟩ : ∃ Z, Z = ((w.alloc (.cells #[.int .u32 7, .int .i64 10485760, .int .i64 97, .slice (some ⟨w.heap.size + 1, 0, none⟩) 1 1, .slice none 0 0, .slice none 0 0, .slice none 0 0, .slice (some ⟨w.heap.size + 1 + 1, 0, none⟩) 2 2] 28)).alloc (.cells #[.int .i64 524288, .int .i64 262144, .int .i64 0, .int .i64 0, .int .i64 0, .int .i64 0] 43)).alloc (.cells #[.int .i64 0, .int .i64 262144] 3) := ⟨_, rfl⟩
  have s1 : (w.alloc (.cells #[.int .u32 7, .int .i64 10485760, .int .i64 97, .slice (some ⟨w.heap.size + 1, 0, none⟩) 1 1, .slice none 0 0, .slice none 0 0, .slice none 0 0, .slice (some ⟨w.heap.size + 1 + 1, 0, none⟩) 2 2] 28)).heap.size = w.heap.size + 1 := by simp
  have s2 : ((w.alloc (.cells #[.int .u32 7, .int .i64 10485760, .int .i64 97, .slice (some ⟨w.heap.size + 1, 0, none⟩) 1 1, .slice none 0 0, .slice none 0 0, .slice none 0 0, .slice (some ⟨w.heap.size + 1 + 1, 0, none⟩) 2 2] 28)).alloc (.cells #[.int .i64 524288, .int .i64 262144, .int .i64 0, .int .i64 0, .int .i64 0, .int .i64 0] 43)).heap.size = w.heap.size + 1 + 1 := by simp
  have s3 : Z.heap.size = w.heap.size + 1 + 1 + 1 := by rw [hZ]; simp
  have m1 : Z.heap[w.heap.size + 1]? = some (.cells #[.int .i64 524288, .int .i64 262144, .int .i64 0, .int .i64 0, .int .i64 0, .int .i64 0] 43 (0, 0)) := by
    rw [hZ]
    refine ((walloc _ _).block (w.heap.size + 1) (by rw [s2]; omega)).trans ?_
    have q := mkobj (w.alloc (.cells #[.int .u32 7, .int .i64 10485760, .int .i64 97, .slice (some ⟨w.heap.size + 1, 0, none⟩) 1 1, .slice none 0 0, .slice none 0 0, .slice none 0 0, .slice (some ⟨w.heap.size + 1 + 1, 0, none⟩) 2 2] 28)) (.cells #[.int .i64 524288, .int .i64 262144, .int .i64 0, .int .i64 0, .int .i64 0, .int .i64 0] 43)
    rw [s1] at q
    exact q
  have m2 : Z.heap[w.heap.size + 1 + 1]? = some (.cells #[.int .i64 0, .int .i64 262144] 3 (0, 0)) := by
    rw [hZ]
    have q := mkobj ((w.alloc (.cells #[.int .u32 7, .int .i64 10485760, .int .i64 97, .slice (some ⟨w.heap.size + 1, 0, none⟩) 1 1, .slice none 0 0, .slice none 0 0, .slice none 0 0, .slice (some ⟨w.heap.size + 1 + 1, 0, none⟩) 2 2] 28)).alloc (.cells #[.int .i64 524288, .int .i64 262144, .int .i64 0, .int .i64 0, .int .i64 0, .int .i64 0] 43)) (.cells #[.int .i64 0, .int .i64 262144] 3)
    rw [s2] at q
    exact q
  have m0 : Z.heap[w.heap.size]? = some (.cells #[.int .u32 7, .int .i64 10485760, .int .i64 97, .slice (some ⟨w.heap.size + 1, 0, none⟩) 1 1, .slice none 0 0, .slice none 0 0, .slice none 0 0, .slice (some ⟨w.heap.size + 1 + 1, 0, none⟩) 2 2] 28 (0, 0)) := by
    rw [hZ]
    exact ((walloc _ _).block w.heap.size (by rw [s2]; omega)).trans (((walloc _ _).block w.heap.size (by rw [s1]; omega)).trans (mkobj _ _))
  have kZ : Kept w Z := by rw [hZ]; exact ((walloc _ _).trans (walloc _ _)).trans (walloc _ _)
  rw [← hZ]
  clear hZ
  obtain ⟨x0, x1, x2, x3, x4, x5, x6, x7, _, _⟩ := cells8 m0
  exact bodyPost_ret (v := .agg #[.int .u32 7, .int .i64 10485760, .int .i64 97, .slice (some ⟨w.heap.size + 1, 0, none⟩) 1 1, .slice none 0 0, .slice none 0 0, .slice none 0 0, .slice (some ⟨w.heap.size + 1 + 1, 0, none⟩) 2 2]) (by simp [results, Tryz.results46, go_sem, x0, x1, x2, x3, x4, x5, x6, x7]) rfl
    ⟨⟨some ⟨w.heap.size + 1, 0, none⟩, 1, none, 0, none, 0, none, 0, some ⟨w.heap.size + 1 + 1, 0, none⟩, 2⟩, rfl, ⟨mets1 m1 (by omega), fun h => by simp [smallF] at h, fun h => by simp [smallF] at h, fun h => by simp [smallF] at h, nums2 m2 (by omega), by simp [smallF]⟩, kZ⟩
set_option maxRecDepth 100000 in
set_option maxHeartbeats 2000000 in
theorem know3_any (w : World) :
    Calls Tryz.prog 12 #[] w fun e w' => e = .returned (.bool true) ∧ Kept w w' := by
  have hs := fun w => Lib.hid (small_any w)
  have hw := fun a w (hF : FontAt w smallF a w.heap.size) => Lib.hid ((write_any smallF a w hF small_wf : Calls Tryz.prog 6 #[smallV a] w _))
  rw [small_write] at hw
  have hb := read_back_any small_wf small_write
  have hr := fun v w0 w B (h : BRow w B v (writeB smallF)) (hk : Kept w w0) => Lib.hid ((read_brow h (bytes_writeB small_wf) hk).mono fun (e : Ending) (w' : World) ⟨a, e1, hF, k⟩ => (⟨a, by rw [e1, hb.1, hb.2]; rfl, by rw [hb.2] at hF; exact hF, k⟩ : ∃ a, e = Ending.returned (.tuple #[smallV a, .int .i64 0]) ∧ FontAt w' smallF a w'.heap.size ∧ Kept w0 w'))
  have ha := fun a w (hF : FontAt w smallF a w.heap.size) => Lib.hid ((cat_any smallF a 97 655360 w hF small_wf (by omega) : Calls Tryz.prog 17 #[smallV a, .int .u8 97, .int .i64 655360] w _))
  rw [small_at] at ha
  have hl := Lib.hid small_len
  clear hb
  go_enter Tryz.func12, Tryz.ntmps12
  go_wp2_with (fail)
  refine (hs _).out.mono ?_
  rintro e w1 ⟨⟨a0, a1, a2, a3, a4, a5, a6, a7, a8, a9⟩, rfl, hF1, k1⟩
  have Hw := hw _ _ hF1
  clear hF1
  go_wp2_with (fail)
  refine Hw.out.mono ?_
  rintro e w2 ⟨v, rfl, hrow, k2⟩
  obtain ⟨A, n, c, rfl⟩ := own_slice hrow
  obtain rfl : n = 68 := by
    obtain ⟨A', c', e, _⟩ := brow_read hrow
    cases e
    exact hl.out
  have Hr := hr _ _ _ _ hrow (Kept.refl _)
  clear hrow
  go_wp2_with (fail)
  refine Hr.out.mono ?_
  rintro e w3 ⟨⟨b0, b1, b2, b3, b4, b5, b6, b7, b8, b9⟩, rfl, hF3, k3⟩
  have Ha := ha _ _ ((hF3.kept (walloc w3 (.cells #[.int .u32 7, .int .i64 10485760, .int .i64 97, .slice b0 1 b1, .slice b2 0 b3, .slice b4 0 b5, .slice b6 0 b7, .slice b8 2 b9] 28))).more (by simp))
  clear hF3
  go_wp2_with (fail)
  refine Ha.out.mono ?_
  rintro e w4 ⟨rfl, k4⟩
  have hc : w4.cell? ⟨w3.heap.size, 0, none⟩ = some (.int .u32 7) := (k4.cell (p := ⟨w3.heap.size, 0, none⟩) (by simp)).trans (by have q := mkobj w3 (.cells #[.int .u32 7, .int .i64 10485760, .int .i64 97, .slice b0 1 b1, .slice b2 0 b3, .slice b4 0 b5, .slice b6 0 b7, .slice b8 2 b9] 28); simp only [World.cell?, q]; rfl)
  go_wp2_with (first | (go_at_call 8; refine (num3_any _ _).mono ?_; rintro e w' ⟨rfl, rfl⟩))
  go_ret
  exact ⟨ret_bool (by first | rfl | decide), ((k1.trans k2).trans k3).trans ((walloc _ _).trans k4)⟩
end Go.Proofs.YtdhidpbenhmfgaaGreat
