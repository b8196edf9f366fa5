/- A row of glue in memory; glue.checkRow. -/
import Derived.Test.YtdlbpepkgoandaaDoorCheck
namespace Go.Proofs.YtdlbpepkgoandaaDoor
open Go.RowKit

/-- the slice at A holds this row, in blocks below B -/
def GAt (w : World) (A : Option Addr) (gs : List Gl) (B : Nat) : Prop := 0 < gs.length → ∃ b o, A = some ⟨b, o, none⟩ ∧ b < B ∧
  ∀ k (hk : k < gs.length), w.cell? ⟨b, o + k * 5, none⟩ = some (.int .i64 gs[k].nat) ∧ w.cell? ⟨b, o + k * 5 + 1, none⟩ = some (.int .i64 gs[k].st) ∧ w.cell? ⟨b, o + k * 5 + 2, none⟩ = some (.int .i64 gs[k].sh) ∧
    w.cell? ⟨b, o + k * 5 + 3, none⟩ = some (.int .i64 gs[k].so) ∧ w.cell? ⟨b, o + k * 5 + 4, none⟩ = some (.int .i64 gs[k].ho)

theorem GAt.below {w w' : World} {A : Option Addr} {gs : List Gl} {B : Nat} (h : GAt w A gs B) (hb : Below B w w') : GAt w' A gs B := by
  intro hn
  obtain ⟨b, o, e, hlt, hc⟩ := h hn
  refine ⟨b, o, e, hlt, fun k hk => ?_⟩
  have hcell : ∀ i, w'.cell? ⟨b, i, none⟩ = w.cell? ⟨b, i, none⟩ := fun i => hb.cell (p := ⟨b, i, none⟩) hlt
  simp only [hcell]
  exact hc k hk

theorem GAt.take {w : World} {A : Option Addr} {gs : List Gl} {B : Nat} (h : GAt w A gs B) (n : Nat) : GAt w A (gs.take n) B := by
  intro hn
  have hl : (gs.take n).length ≤ gs.length := by rw [List.length_take]; omega
  obtain ⟨b, o, e, hlt, hc⟩ := h (by omega)
  refine ⟨b, o, e, hlt, fun k hk => ?_⟩
  have := hc k (by omega)
  simpa using this

def rowE (gs : List Gl) : Int := if 2000 < gs.length then 6 else if gs.all Gl.okB then 0 else 30

theorem row_no {gs : List Gl} {k : Nat} (hl : gs.length ≤ 2000) (hk : k < gs.length) (h : gs[k].okB = false) : rowE gs = 30 := by
  have : gs.all Gl.okB = false := by
    rw [List.all_eq_false]
    exact ⟨gs[k], List.getElem_mem hk, by simp [h]⟩
  unfold rowE
  rw [if_neg (by omega), this]
  rfl
theorem row_step {gs : List Gl} {k : Nat} (hk : k < gs.length) (h : gs[k].okB = true) (ha : (gs.take k).all Gl.okB = true) : (gs.take (k + 1)).all Gl.okB = true := by
  rw [List.take_succ_eq_append_getElem hk, List.all_append, ha]
  simp [h]
theorem row_yes {gs : List Gl} (hl : gs.length ≤ 2000) (h : gs.all Gl.okB = true) : rowE gs = 0 := by
  unfold rowE
  rw [if_neg (by omega), h]
  rfl

def RowAt (gs : List Gl) (w : World) (i : Value) (wr : World) : Prop := ∃ k : Nat, k ≤ gs.length ∧ i = .int .i64 k ∧ (gs.take k).all Gl.okB = true ∧ Kept w wr

set_option maxHeartbeats 1000000 in
theorem checkRow_any (A : Option Addr) (gs : List Gl) (c : Nat) (w : World) (hlen : gs.length ≤ 9223372036854775807) (h : GAt w A gs w.heap.size) :
    Calls Tryd.prog 65 #[.slice A gs.length c] w fun e w' => e = .returned (.int .i64 (rowE gs)) ∧ Kept w w' := by
  by_cases hl : 2000 < gs.length
  · have e1 : rowE gs = 6 := by simp [rowE, hl]
    rw [e1]
    clear e1
    go_enter Tryd.func65, Tryd.ntmps65
    go_wp2
    go_ret
    exact ⟨rfl, Kept.refl _⟩
  · have H := Lib.hid h
    clear h
    go_enter Tryd.func65, Tryd.ntmps65
    go_wp2
    go_loopw [11] (fun i wr => RowAt gs w i wr) (fun i _ => gs.length - (intOf i).toNat)
    case atStart => exact ⟨0, Nat.zero_le _, rfl, rfl, Kept.refl _⟩
    case round =>
      obtain ⟨k, hk, rfl, hall, hkept⟩ := hrel
      by_cases hlt : k < gs.length
      · obtain ⟨b, o, rfl, hb, hc⟩ := (GAt.below H.out hkept) (by omega)
        obtain ⟨c0, c1, c2, c3, c4⟩ := hc k hlt
        clear hc
        have hce := fun w => Lib.hid (check_any gs[k].nat gs[k].st gs[k].sh gs[k].so gs[k].ho w)
        have Hno := Lib.hid (fun h => row_no (by omega) hlt h : gs[k].okB = false → rowE gs = 30)
        have Hst := Lib.hid (fun h => row_step hlt h hall : gs[k].okB = true → (gs.take (k + 1)).all Gl.okB = true)
        have Hall := Lib.hid hall; clear hall
        have ez : (⟨gs[k].nat, gs[k].st, gs[k].sh, gs[k].so, gs[k].ho⟩ : Gl) = gs[k] := rfl
        rw [ez] at hce
        clear ez
        generalize gs[k] = g at *
        obtain ⟨gn, gst, gsh, gso, gho⟩ := g
        simp only at c0 c1 c2 c3 c4
        cases hg : Gl.okB ⟨gn, gst, gsh, gso, gho⟩
        · have e1 : Gl.err ⟨gn, gst, gsh, gso, gho⟩ = 30 := by simp [Gl.err, hg]
          rw [e1] at hce
          have E2 := Lib.hid (Hno.out hg)
          clear e1 hg Hst Hno
          go_wp2_with (fail)
          refine (hce _).out.mono ?_
          rintro e w1 ⟨rfl, k1⟩
          go_wp2_with (fail)
          go_ret
          exact ⟨ret_int E2.out.symm, Kept.trans hkept (Kept.trans ((Kept.refl wr).alloc (Nat.le_refl _) _) k1)⟩
        · have e1 : Gl.err ⟨gn, gst, gsh, gso, gho⟩ = 0 := by simp [Gl.err, hg]
          rw [e1] at hce
          have E2 := Lib.hid (Hst.out hg)
          clear e1 hg Hst Hno
          go_wp2_with (fail)
          refine (hce _).out.mono ?_
          rintro e w1 ⟨rfl, k1⟩
          go_wp2_with (fail)
          go_roundw
          case rel => exact ⟨k + 1, by omega, by go_num, E2.out, Kept.trans hkept (Kept.trans ((Kept.refl wr).alloc (Nat.le_refl _) _) k1)⟩
          case measure => simp [intOf]; omega
      · have hz : gs.take k = gs := List.take_of_length_le (by omega)
        rw [hz] at hall
        have Hall := Lib.hid (row_yes (by omega) hall); clear hall hz
        go_wp2
        go_ret
        exact ⟨ret_int Hall.out.symm, hkept⟩
end Go.Proofs.YtdlbpepkgoandaaDoor
