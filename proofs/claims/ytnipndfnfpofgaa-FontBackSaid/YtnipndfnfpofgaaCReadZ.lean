/- font.Read of any bytes; what is read is a font; galleylaw03.Same. -/
import Derived.Test.YtnipndfnfpofgaaKnow3
import Derived.Test.YtnipndfnfpofgaaFSame2
namespace Go.Proofs.Ytnipndfnfpofgaa
open Go.RowKit

set_option maxRecDepth 100000 in
set_option maxHeartbeats 4000000 in
theorem cread_zero (A : Option Addr) (c : Nat) (w : World) : Calls Try.prog 15 #[.slice A 0 c] w fun e w' => ReadPost [] w e w' := by
  have hmf : ∀ (fn : Fn) (first cap : Array Value) (w : World), (Instr.makeFunc fn first cap).run Try.prog w = .ok (.func fn first cap) w := fun _ _ _ _ => rfl
  obtain ⟨W0, hW0⟩ : ∃ W0, W0 = (w.alloc (.cells #[.int .u32 0, .int .i64 0, .int .i64 0, .slice none 0 0, .slice none 0 0, .slice none 0 0, .slice none 0 0, .slice none 0 0] 28)).alloc (.cells #[.int .i64 0] 30) := ⟨_, rfl⟩
  have k0 : Kept w W0 := by rw [hW0]; exact (walloc _ _).trans (walloc _ _)
  have sW : W0.heap.size = w.heap.size + 2 := by rw [hW0]; simp
  have hR : Rd0 (W0.alloc (.cells #[.slice A 0 c] 95)) W0.heap.size := ⟨A, c, by have q := mkobj W0 (.cells #[.slice A 0 c] 95); simp only [World.cell?, q]; rfl⟩
  have HF := Lib.hid (rfont_0 _ _ hR (by simp))
  have o0 : W0.heap[w.heap.size]? = some (.cells #[.int .u32 0, .int .i64 0, .int .i64 0, .slice none 0 0, .slice none 0 0, .slice none 0 0, .slice none 0 0, .slice none 0 0] 28 (0, 0)) := by rw [hW0]; exact (walloc _ _).block w.heap.size (by simp) |>.trans (mkobj _ _)
  have o1 : W0.heap[w.heap.size + 1]? = some (.cells #[.int .i64 0] 30 (0, 0)) := by
    rw [hW0]
    have q := mkobj (w.alloc (.cells #[.int .u32 0, .int .i64 0, .int .i64 0, .slice none 0 0, .slice none 0 0, .slice none 0 0, .slice none 0 0, .slice none 0 0] 28)) (.cells #[.int .i64 0] 30)
    simpa using q
  have HO := Lib.hid (And.intro o0 o1)
  have HW0 := Lib.hid hW0
  have hr : readB [] = false := by
    unfold readB
    rw [countsB_no (i := 0) (by omega) (by unfold halfOk; simp)]
    rfl
  have HR := Lib.hid hr
  clear hW0 hR o0 o1 hr
  rw [sW] at HF
  go_enter_defers Try.func15, Try.ntmps15
  go_wp2_with (fail)
  rw [← HW0.out]
  refine HF.out.mono ?_
  rintro e w1 ⟨rfl, hg⟩
  have k1 : Kept w w1 := (k0.trans (walloc W0 _)).trans hg
  have b0 : w1.heap[w.heap.size]? = some (.cells #[.int .u32 0, .int .i64 0, .int .i64 0, .slice none 0 0, .slice none 0 0, .slice none 0 0, .slice none 0 0, .slice none 0 0] 28 (0, 0)) := (hg.block w.heap.size (by simp; omega)).trans ((walloc W0 _).block w.heap.size (by omega) |>.trans HO.out.1)
  have b1 : w1.heap[w.heap.size + 1]? = some (.cells #[.int .i64 0] 30 (0, 0)) := (hg.block (w.heap.size + 1) (by simp; omega)).trans ((walloc W0 _).block (w.heap.size + 1) (by omega) |>.trans HO.out.2)
  have e1 : readV [] = emptyF := by unfold readV; rw [if_neg (by simp), HR.out]; rfl
  have e2 : readE [] = 40 := by unfold readE; rw [if_neg (by simp), HR.out]; rfl
  refine leaves_cons (f := 48) (args := #[.pointer (some ⟨w.heap.size, 0, none⟩), .pointer (some ⟨w.heap.size + 1, 0, none⟩)]) (by simp) (by simp [go_sem]) ?_
  refine (catch_panics w.heap.size _ _ _ _ _ _ _ _ 0 _ _ [] w1 b0 b1).mono ?_
  rintro e u' w'' ⟨rfl, rfl, hN, hE, hB⟩
  obtain ⟨t0, t1, t2, t3, t4, t5, t6, t7, _, _⟩ := cells8 hN
  have t8 := cell_of_one hE
  refine leaves_ret (v := .tuple #[.agg #[.int .u32 0, .int .i64 0, .int .i64 0, .slice none 0 0, .slice none 0 0, .slice none 0 0, .slice none 0 0, .slice none 0 0], .int .i64 40]) rfl (by simp [results, Try.results15, go_sem, t0, t1, t2, t3, t4, t5, t6, t7, t8]) ⟨nilA, by rw [e1, e2]; rfl, by rw [e1]; exact empty_at _ _, Below.trans k1 hB⟩
/-- font.Read of any bytes -/
theorem cread_all (A : Option Addr) (n c : Nat) (bs : List Int) (w : World) (hn : bs.length = n) (hA : BytesAt w A bs w.heap.size) (hcap : n ≤ c) (hbig : c ≤ maxLen) (hb : BytesOk bs) :
    Calls Try.prog 15 #[.slice A n c] w fun e w' => ReadPost bs w e w' := by
  unfold maxLen at hbig
  by_cases h0 : n = 0
  · subst h0
    obtain rfl := List.length_eq_zero_iff.1 hn
    exact cread_zero A c w
  · obtain ⟨b, o, rfl, hbl, q⟩ := hA (by omega)
    by_cases hl : 1048576 < n
    · exact cread_long _ n c bs w hn hl
    · exact cread_some w b o n c bs hn q hbl hcap (by omega) hb (by omega)
theorem readF_wf {bs : List Int} (hb : BytesOk bs) (h : readB bs = true) : (readF bs).wf := by
  unfold readB at h
  rw [Bool.and_eq_true] at h
  obtain ⟨hh, _⟩ := counts_facts hb h.1
  have z2 := hh 2 (by omega)
  have z3 := hh 3 (by omega)
  have z8 := hh 8 (by omega)
  have z9 := hh 9 (by omega)
  have z10 := hh 10 (by omega)
  have z11 := hh 11 (by omega)
  simp only [Nat.reduceMul] at z2 z3 z8 z9 z10 z11
  have t := trimF_bd (l := rMets bs) z2.1
  have tl := trim_len (rMets bs)
  have lM : (rMets bs).length = nC bs := by unfold rMets chW; rw [List.length_map, wordsAt_len]
  have hn : nC bs ≤ 40000 := by unfold nC; omega
  have bck := unsV_bd (wordS_ok hb 24)
  have bde := unsV_bd (wordS_ok hb 28)
  unfold readF
  refine ⟨bck, by unfold i64B; dsimp only; omega, by unfold i64B; dsimp only; omega, fun m hm => ?_, ?_, ?_, ?_, ?_, maxLen_ge ?_, maxLen_ge ?_, maxLen_ge ?_, maxLen_ge ?_, maxLen_ge ?_⟩
  · have hm2 := mem_trim hm
    unfold rMets at hm2
    obtain ⟨s, hs, rfl⟩ := List.mem_map.1 hm2
    exact metR_wf (sigs_bd hb) (sigs_bd hb) (sigs_bd hb) (sigs_bd hb) (words_ok hb s hs)
  · exact fun s hs => ok_wf (words_ok hb s hs)
  · exact sigs_bd hb
  · exact fun s hs => ok_wf (words_ok hb s hs)
  · exact sigs_bd hb
  · dsimp only; omega
  · dsimp only; rw [wordsAt_len]; omega
  · dsimp only; rw [sigs_len]; omega
  · dsimp only; rw [wordsAt_len]; omega
  · dsimp only; rw [sigs_len]; omega
theorem readE_ok {bs : List Int} (h : readE bs = 0) : readB bs = true ∧ readV bs = readF bs := by
  unfold readE at h
  unfold readV
  split at h
  · omega
  · rename_i h1
    rw [if_neg h1]
    split at h
    · rename_i h2; exact ⟨h2, if_pos h2⟩
    · omega
theorem readE_no {bs : List Int} (h : ¬ readE bs = 0) : readV bs = emptyF := by
  unfold readE at h
  unfold readV
  split at h
  · rename_i h1; rw [if_pos h1]
  · rename_i h1
    rw [if_neg h1]
    split at h
    · exact absurd rfl h
    · rename_i h2; rw [if_neg h2]
theorem readE_font {bs : List Int} (hb : BytesOk bs) (h : readE bs = 0) : (readV bs).wf ∧ fontE (readV bs) = 0 := by
  obtain ⟨h1, h2⟩ := readE_ok h
  rw [h2]
  refine ⟨readF_wf hb h1, ?_⟩
  unfold readB at h1
  simp only [Bool.and_eq_true] at h1
  unfold fontE
  rw [if_pos h1.2.2.2]
end Go.Proofs.Ytnipndfnfpofgaa
