/- What is written of a font: plain mathematics. -/
import Derived.Test.YtdhidpbenhmfgaaGreatCCheck
import Derived.Test.YtdhidpbenhmfgaaGreatM17
import Derived.Test.YtdhidpbenhmfgaaGreatDims0
namespace Go.Proofs.YtdhidpbenhmfgaaGreat
open Go.RowKit

theorem compact_sub (l : List Int) : (Lib.compact l).Sublist l := by
  unfold Lib.compact Lib.compactUpTo
  have h := ((List.filter_sublist (p := Lib.keeps l.toArray) (l := List.range l.toArray.size)).map (l.toArray[·]!))
  have e : (List.range l.toArray.size).map (l.toArray[·]!) = l := by
    apply List.ext_getElem
    · simp
    · intro i h1 h2
      simp at h1
      simp [h1]
  rw [e] at h
  exact h
theorem rising_mem {xs : List Int} {x : Int} (h : x ∈ risingL xs) : x ∈ xs := by
  unfold risingL at h
  have h1 := (compact_sub _).subset h
  exact List.mem_mergeSort.1 h1
theorem rising_sorted (xs : List Int) : (risingL xs).Pairwise (· ≤ ·) := by
  unfold risingL
  refine List.Pairwise.sublist (compact_sub _) ?_
  have h := List.pairwise_mergeSort (le := fun x y : Int => decide (x ≤ y)) (fun a b c h1 h2 => by simp at *; omega) (fun a b => by simp; omega) xs
  exact h.imp (by intro a b h; simpa using h)
theorem noZero_mem {xs : List Int} {x : Int} (h : x ∈ noZero xs) : x ∈ xs := (List.mem_filter.1 h).1
theorem noZero_sorted {xs : List Int} (h : xs.Pairwise (· ≤ ·)) : (noZero xs).Pairwise (· ≤ ·) := h.sublist List.filter_sublist

def tW (F : Fnt) : List Int := risingL (colW F.chars)
def tH (F : Fnt) : List Int := noZero (risingL (colH F.chars))
def tD (F : Fnt) : List Int := noZero (risingL (colD F.chars))
def tI (F : Fnt) : List Int := noZero (risingL (colI F.chars))
theorem there_mem {l : List Met} {m : Met} (h : m ∈ thereL l) : m ∈ l := (List.mem_filter.1 h).1
theorem tabs_i64 {F : Fnt} (hw : F.wf) : (∀ x ∈ 0 :: tW F, i64B x) ∧ (∀ x ∈ 0 :: tH F, i64B x) ∧ (∀ x ∈ 0 :: tD F, i64B x) ∧ (∀ x ∈ 0 :: tI F, i64B x) := by
  have z : i64B 0 := by unfold i64B; omega
  refine ⟨fun x hx => ?_, fun x hx => ?_, fun x hx => ?_, fun x hx => ?_⟩
  · rcases List.mem_cons.1 hx with rfl | hx
    · exact z
    · obtain ⟨m, hm, rfl⟩ := List.mem_map.1 (rising_mem hx)
      exact (hw.chars m (there_mem hm)).w
  · rcases List.mem_cons.1 hx with rfl | hx
    · exact z
    · obtain ⟨m, hm, rfl⟩ := List.mem_map.1 (rising_mem (noZero_mem hx))
      exact (hw.chars m (there_mem hm)).h
  · rcases List.mem_cons.1 hx with rfl | hx
    · exact z
    · obtain ⟨m, hm, rfl⟩ := List.mem_map.1 (rising_mem (noZero_mem hx))
      exact (hw.chars m (there_mem hm)).d
  · rcases List.mem_cons.1 hx with rfl | hx
    · exact z
    · obtain ⟨m, hm, rfl⟩ := List.mem_map.1 (rising_mem (noZero_mem hx))
      exact (hw.chars m (there_mem hm)).it
theorem tabs_len (F : Fnt) : (tW F).length ≤ F.chars.length ∧ (tH F).length ≤ F.chars.length ∧ (tD F).length ≤ F.chars.length ∧ (tI F).length ≤ F.chars.length := by
  obtain ⟨c0, c1, c2, c3⟩ := col_len F.chars
  exact ⟨Nat.le_trans (rising_len _) c0, Nat.le_trans (Nat.le_trans (noZero_len _) (rising_len _)) c1, Nat.le_trans (Nat.le_trans (noZero_len _) (rising_len _)) c2, Nat.le_trans (Nat.le_trans (noZero_len _) (rising_len _)) c3⟩

def wCnt (F : Fnt) : Cnt := cntOf F ((0 :: tW F).length : Nat) ((0 :: tH F).length : Nat) ((0 :: tD F).length : Nat) ((0 :: tI F).length : Nat)
def sizesB (F : Fnt) : Bool := decide ((0 :: tW F).length ≤ 256 ∧ (0 :: tH F).length ≤ 16 ∧ (0 :: tD F).length ≤ 16 ∧ (0 :: tI F).length ≤ 64 ∧ (wCnt F).lf ≤ 32767)
def numsL (l : List Int) : List Int := l.flatMap fun x => stL (numS x)
def stsL (l : List St) : List Int := l.flatMap fun x => stL (idS x)
def metsL (F : Fnt) : List Int := F.chars.flatMap fun m => stL (metS (tW F) (tH F) (tD F) (tI F) m)
/-- the bytes of a font -/
def writeL (F : Fnt) : List Int := cntL (wCnt F) 12 ++ numsL [F.check, F.design] ++ metsL F ++ numsL (0 :: tW F) ++ numsL (0 :: tH F) ++ numsL (0 :: tD F) ++ numsL (0 :: tI F) ++ stsL F.steps ++ numsL F.kerns ++ stsL F.pieces ++ numsL F.params
/-- its error; its bytes -/
def writeE (F : Fnt) : Int := if fontE F = 0 then (if sizesB F then 0 else 6) else 40
def writeB (F : Fnt) : List Int := if writeE F = 0 then writeL F else []

theorem wCnt_lf (F : Fnt) : (wCnt F).lf = 8 + F.chars.length + (0 :: tW F).length + (0 :: tH F).length + (0 :: tD F).length + (0 :: tI F).length + F.steps.length + F.kerns.length + F.pieces.length + F.params.length := by
  unfold wCnt cntOf cnt0 wordsC charsC
  dsimp only
  by_cases h : F.chars.length = 0
  · simp only [if_pos h]; omega
  · simp only [if_neg h]; omega
theorem wCnt_ok {F : Fnt} (hf : 0 ≤ F.first ∧ F.first ≤ 255) (hl : (F.chars.length : Int) ≤ 256 - F.first) (h : (wCnt F).lf ≤ 32767) : ∀ k < 12, 0 ≤ cget (wCnt F) k ∧ cget (wCnt F) k ≤ 32767 := by
  have e := wCnt_lf F
  rw [e] at h
  intro k hk
  match k, hk with
  | 0, _ => show 0 ≤ (wCnt F).lf ∧ (wCnt F).lf ≤ 32767; rw [e]; omega
  | 1, _ => show 0 ≤ (2 : Int) ∧ (2 : Int) ≤ 32767; omega
  | 2, _ => show 0 ≤ (if F.chars.length = 0 then (1 : Int) else F.first) ∧ (if F.chars.length = 0 then (1 : Int) else F.first) ≤ 32767; split <;> omega
  | 3, _ => show 0 ≤ (if F.chars.length = 0 then (0 : Int) else F.first + F.chars.length - 1) ∧ (if F.chars.length = 0 then (0 : Int) else F.first + F.chars.length - 1) ≤ 32767; split <;> omega
  | 4, _ => show 0 ≤ (((0 :: tW F).length : Nat) : Int) ∧ (((0 :: tW F).length : Nat) : Int) ≤ 32767; omega
  | 5, _ => show 0 ≤ (((0 :: tH F).length : Nat) : Int) ∧ (((0 :: tH F).length : Nat) : Int) ≤ 32767; omega
  | 6, _ => show 0 ≤ (((0 :: tD F).length : Nat) : Int) ∧ (((0 :: tD F).length : Nat) : Int) ≤ 32767; omega
  | 7, _ => show 0 ≤ (((0 :: tI F).length : Nat) : Int) ∧ (((0 :: tI F).length : Nat) : Int) ≤ 32767; omega
  | 8, _ => show 0 ≤ ((F.steps.length : Nat) : Int) ∧ ((F.steps.length : Nat) : Int) ≤ 32767; omega
  | 9, _ => show 0 ≤ ((F.kerns.length : Nat) : Int) ∧ ((F.kerns.length : Nat) : Int) ≤ 32767; omega
  | 10, _ => show 0 ≤ ((F.pieces.length : Nat) : Int) ∧ ((F.pieces.length : Nat) : Int) ≤ 32767; omega
  | 11, _ => show 0 ≤ ((F.params.length : Nat) : Int) ∧ ((F.params.length : Nat) : Int) ≤ 32767; omega
theorem font_bd {F : Fnt} (h : fontE F = 0) : (0 ≤ F.first ∧ F.first ≤ 255) ∧ (F.chars.length : Int) ≤ 256 - F.first ∧ F.steps.length ≤ 32510 ∧ F.kerns.length ≤ 32768 ∧ F.pieces.length ≤ 256 ∧ F.params.length ≤ 255 := by
  unfold fontE at h
  split at h
  · rename_i hb
    rw [fontB_eq] at hb
    unfold cfontB boundedB at hb
    rw [Bool.and_eq_true, decide_eq_true_eq] at hb
    omega
  · cases h
/-- a written character's number -/
theorem font_tag {F : Fnt} (h : fontE F = 0) {m : Met} (hm : m ∈ F.chars) : m.tag = -1 ∨ 0 ≤ m.tag ∧ m.tag ≤ 3 ∧ 0 ≤ m.rest ∧ m.rest ≤ 255 := by
  unfold fontE at h
  split at h
  · rename_i hb
    rw [fontB_eq] at hb
    unfold cfontB at hb
    simp only [Bool.and_eq_true] at hb
    have hall := List.all_eq_true.1 (charsR_all hb.2.2.1) m hm
    unfold charRB at hall
    split at hall
    · exact .inl (by assumption)
    · rw [Bool.and_eq_true] at hall
      have h2 := hall.2
      unfold restB at h2
      rw [Bool.and_eq_true, decide_eq_true_eq] at h2
      obtain ⟨h3, h4⟩ := h2
      right
      split at h4
      · omega
      · split at h4
        · omega
        · split at h4
          · omega
          · split at h4
            · omega
            · cases h4
  · cases h
end Go.Proofs.YtdhidpbenhmfgaaGreat
