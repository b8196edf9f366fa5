/- What font.Write writes, font.Read reads. -/
import Derived.Test.YtnipndfnfpofgaaCRead
import Derived.Test.YtnipndfnfpofgaaCWrite
namespace Go.Proofs.Ytnipndfnfpofgaa
open Go.RowKit

theorem brow_read {w : World} {B : Nat} {v : Value} {l : List Int} (h : BRow w B v l) : ∃ A c, v = .slice A l.length c ∧ BytesAt w A l w.heap.size ∧ l.length ≤ c ∧ c ≤ maxLen ∧ (A = none → c = 0) ∧ (∀ a, A = some a → ∃ b o, a = ⟨b, o, none⟩ ∧ b < w.heap.size) := by
  rcases h.2 with ⟨rfl, h0⟩ | ⟨g, cap, cur, rfl, hb, hg, hn, hc, hs, ht⟩
  · exact ⟨none, 0, by rw [h0], fun hn => by omega, by omega, by unfold maxLen; omega, fun _ => rfl, fun a e => by cases e⟩
  · refine ⟨_, _, rfl, fun _ => ⟨g, 0, rfl, (Array.getElem?_eq_some_iff.1 hg).1, fun k hk => ?_⟩, hn, hc, (fun e => by cases e), (fun a e => by cases e; exact ⟨g, 0, rfl, (Array.getElem?_eq_some_iff.1 hg).1⟩)⟩
    have hcell := World.ownsRow.cells h (g := g) rfl k (.int .u8 l[k]) (by simp [hk])
    rw [Go.Addr.add_mid] at hcell
    exact hcell
theorem bytes_app {a b : List Int} (ha : BytesOk a) (hb : BytesOk b) : BytesOk (a ++ b) := fun z hz => by
  rcases List.mem_append.1 hz with h | h
  · exact ha z h
  · exact hb z h
theorem bytes_flat {α : Type} {l : List α} {g : α → List Int} (h : ∀ x ∈ l, BytesOk (g x)) : BytesOk (l.flatMap g) := fun z hz => by
  obtain ⟨x, hx, hz⟩ := List.mem_flatMap.1 hz
  exact h x hx z hz
theorem bytes_num (n : Int) : BytesOk (stL (numS n)) := by
  intro z hz
  unfold stL numS at hz
  simp only [List.mem_cons, List.not_mem_nil, or_false] at hz
  rcases hz with rfl | rfl | rfl | rfl <;> omega
theorem bytes_st {s : St} (h : s.wf) : BytesOk (stL (idS s)) := by
  intro z hz
  obtain ⟨a, b, c, d⟩ := h
  unfold byteB at a b c d
  unfold stL idS at hz
  simp only [List.mem_cons, List.not_mem_nil, or_false] at hz
  rcases hz with rfl | rfl | rfl | rfl <;> assumption
theorem bytes_write {F : Fnt} (hw : F.wf) (h : fontE F = 0) (hs : sizesB F = true) : BytesOk (writeL F) := by
  unfold sizesB at hs
  rw [decide_eq_true_eq] at hs
  simp only [List.length_cons] at hs
  unfold writeL
  refine bytes_app (bytes_app (bytes_app (bytes_app (bytes_app (bytes_app (bytes_app (bytes_app (bytes_app (bytes_app ?_ ?_) ?_) ?_) ?_) ?_) ?_) ?_) ?_) ?_) ?_
  · unfold cntL
    refine bytes_flat fun i _ z hz => ?_
    unfold halfL at hz
    simp only [List.mem_cons, List.not_mem_nil, or_false] at hz
    rcases hz with rfl | rfl <;> omega
  · exact bytes_flat fun x _ => bytes_num x
  · refine bytes_flat fun m hm z hz => ?_
    have p0 := place_bd (l := tW F) (n := m.w)
    have p1 := place_bd (l := tH F) (n := m.h)
    have p2 := place_bd (l := tD F) (n := m.d)
    have p3 := place_bd (l := tI F) (n := m.it)
    have t := font_tag h hm
    unfold metS at hz
    split at hz
    · unfold stL at hz
      simp only [List.mem_cons, List.not_mem_nil, or_false] at hz
      rcases hz with rfl | rfl | rfl | rfl <;> omega
    · unfold stL at hz
      simp only [List.mem_cons, List.not_mem_nil, or_false] at hz
      rcases hz with rfl | rfl | rfl | rfl <;> omega
  · exact bytes_flat fun x _ => bytes_num x
  · exact bytes_flat fun x _ => bytes_num x
  · exact bytes_flat fun x _ => bytes_num x
  · exact bytes_flat fun x _ => bytes_num x
  · exact bytes_flat fun s h => bytes_st (hw.steps s h)
  · exact bytes_flat fun x _ => bytes_num x
  · exact bytes_flat fun s h => bytes_st (hw.pieces s h)
  · exact bytes_flat fun x _ => bytes_num x
theorem writeE_ok {F : Fnt} (h : writeE F = 0) : fontE F = 0 ∧ sizesB F = true := by
  unfold writeE at h
  split at h
  · rename_i h0
    split at h
    · rename_i h1; exact ⟨h0, h1⟩
    · omega
  · omega
theorem bytes_writeB {F : Fnt} (hw : F.wf) : BytesOk (writeB F) := by
  unfold writeB
  split
  · rename_i h; exact bytes_write hw (writeE_ok h).1 (writeE_ok h).2
  · intro z hz; cases hz
/-- what was written is no more than may be read -/
theorem writeL_len (F : Fnt) : ((writeL F).length : Int) = 4 * (wCnt F).lf := by
  rw [wCnt_lf]
  unfold writeL numsL stsL metsL
  simp only [List.length_append, flat_len, cntL_len, List.length_cons, List.length_nil]
  omega
theorem read_back_any {F : Fnt} (hw : F.wf) (h : writeE F = 0) : readE (writeB F) = 0 ∧ readV (writeB F) = F := by
  obtain ⟨h0, h1⟩ := writeE_ok h
  obtain ⟨q0, q1⟩ := read_write hw h0 h1
  have hl : ¬ 1048576 < (writeB F).length := by
    unfold writeB
    rw [if_pos h]
    have := writeL_len F
    unfold sizesB at h1
    rw [decide_eq_true_eq] at h1
    omega
  unfold readE readV
  rw [if_neg hl, if_neg hl]
  unfold writeB
  rw [if_pos h, if_pos q0, if_pos q0]
  exact ⟨rfl, q1⟩
theorem read_empty : readE [] = 40 ∧ readV [] = emptyF := by
  have hr : readB [] = false := by
    unfold readB
    rw [countsB_no (i := 0) (by omega) (by unfold halfOk; simp)]
    simp
  simp [readE, readV, hr]
/-- font.Read of what a call has laid -/
theorem read_brow {w0 w : World} {B : Nat} {v : Value} {bs : List Int} (h : BRow w B v bs) (hb : BytesOk bs) (hk : Kept w w0) : Calls Try.prog 15 #[v] w0 fun e w' => ReadPost bs w0 e w' := by
  obtain ⟨A, c, rfl, hA, hc, hm, h0, hs⟩ := brow_read h
  exact cread_any A _ c bs w0 rfl ((hA.kept hk).more hk.size) hc hm hb h0 fun a e => by
    obtain ⟨b, o, e1, e2⟩ := hs a e
    exact ⟨b, o, e1, Nat.lt_of_lt_of_le e2 hk.size⟩
def smallF : Fnt := ⟨7, 10485760, 97, [⟨524288, 262144, 0, 0, 0, 0⟩], [], [], [], [0, 262144]⟩
theorem small_wf : smallF.wf := by
  refine ⟨by simp [smallF], by simp [smallF, i64B], by simp [smallF, i64B], fun m hm => ?_, fun s hs => ?_, fun z hz => ?_, fun s hs => ?_, fun z hz => ?_, ?_, ?_, ?_, ?_, ?_⟩
  · simp [smallF] at hm; subst hm; constructor <;> simp [i64B]
  · simp [smallF] at hs
  · simp [smallF] at hz
  · simp [smallF] at hs
  · simp [smallF] at hz; rcases hz with rfl | rfl <;> simp [i64B]
  all_goals simp [smallF, maxLen]
theorem small_font : fontE smallF = 0 := by decide +kernel
theorem small_write : writeE smallF = 0 := by decide +kernel
theorem small_len : (writeB smallF).length = 68 := by decide +kernel
theorem small_at : atV smallF 97 655360 = .tuple #[.int .i64 327680, .int .i64 163840, .int .i64 0, .int .i64 0, .int .i64 0] := by
  kernel_rfl
end Go.Proofs.Ytnipndfnfpofgaa
