/- VlistPrunes' walk. -/
import Derived.Test.YtcncfmjfgdbfeabM46
import Derived.Test.YtcncfmjfgdbfeabNodAp
import Derived.Test.YtcncfmjfgdbfeabLawApart11
namespace Go.Proofs.Ytcncfmjfgdbfeab
set_option maxRecDepth 100000
set_option maxHeartbeats 8000000
open Go.RowKit
structure PrA (w : World) (A : Option Addr) (l : List Nod) (c : Nat) (T : Tp) (Y : List Nod) (E : Int) (m : Mks) (v : Int) : Prop where
 P : ∀ w' b cap, Sat w' [] [.row b 0 19 l.length (rowOf l)] w' → l.length ≤ cap → Calls Try.prog 7 #[.slice (some ⟨b, 0, none⟩) l.length cap, T.v] w' fun e w2 => ∃ q : KP, e = .returned (.tuple #[.slice q.A q.n q.c, .int .i64 E]) ∧ Sat w' [] [q.e] w2 ∧ q.y = Y
 M : ∀ w' b cap, Sat w' [] [.row b 0 19 l.length (rowOf l)] w' → l.length ≤ cap → Calls Try.prog 8 #[.slice (some ⟨b, 0, none⟩) l.length cap] w' fun e w2 => e = .returned (.tuple #[.string m.f, .string m.la, .bool m.s, .int .i64 v]) ∧ Kept w' w2
 RP : ∀ w', Kept w w' → Calls Try.prog 9 #[.slice A l.length c, T.v] w' fun e w2 => ∃ q : KP, e = .returned (.tuple #[.slice q.A q.n q.c, .int .i64 E]) ∧ Sat w' [] [q.e] w2 ∧ q.y = Y
 RM : ∀ w', Kept w w' → Calls Try.prog 10 #[.slice A l.length c] w' fun e w2 => e = .returned (.tuple #[.string m.f, .string m.la, .bool m.s, .int .i64 v]) ∧ Kept w' w2
 le : Y.length ≤ 2000
structure OwnR (w0 : World) (y : List Nod) where
 b : Nat
 c : Nat
 cs : List Value
 new : w0.heap.size ≤ b
 le : y.length ≤ c
 len : cs.length = c * 19
 row : cs.take (y.length * 19) = rowsL (rowOf y) 0 y.length
theorem own_row {w w' : World} {q : KP} {y : List Nod} (hy : q.y = y) (h0 : y ≠ []) (h : Sat w [] [q.e] w') : ∃ x : OwnR w y, Value.slice q.A q.n q.c = .slice (some ⟨x.b, 0, none⟩) y.length x.c ∧ q.e = .obj true x.b x.cs 55 := by
 subst hy
 have hn := q.hn
 rcases q.own with ⟨_, h2, _⟩ | ⟨b, h1, h2, h3, h4, _⟩
 ·exact absurd (List.length_eq_zero_iff.1 (hn.trans h2)) h0
 rw [h2] at h
 have hb := ((h.holds _ (List.mem_singleton.2 rfl)).2 rfl).resolve_right (by simp)
 exact ⟨⟨b, q.c, q.oc, hb, by omega, h3, by rw [hn]; exact q.tk⟩, by rw [h1]; exact congrArg (fun z => Value.slice (some ⟨b, 0, .none⟩) z q.c) hn.symm, h2⟩
theorem own_nil {q : KP} (hy : q.y = []) : q.A = none ∧ q.n = 0 ∧ q.c = 0 := by
 have hn := q.hn
 rw [hy] at hn
 rcases q.own with ⟨h1, h2, h3, _⟩ | ⟨b, _, _, _, _, h5⟩
 ·exact ⟨h1, h2, h3⟩
 exact absurd hn (by simp; omega)
theorem KP.sat {q : KP} {y : List Nod} (hy : q.y = y) {w0 w : World} {bs : List Nat} {hp : List HE} {i : Nat} (hs : Sat w0 bs hp w) (hi : hp[i]? = some q.e) : ∃ b, (y.length = 0 ∨ q.A = some ⟨b, 0, .none⟩) ∧ Sat w [] [.row b 0 19 y.length (rowOf y)] w := by
 subst hy
 rcases q.own with ⟨_, h2, _⟩ | ⟨b, h1, _⟩
 ·have h0 : q.y.length = 0 := q.hn.trans h2
  exact ⟨0, .inl h0, row_sat fun h => by omega⟩
 exact ⟨b, .inr h1, q.hn ▸ q.asRow hi hs h1⟩
theorem own_one {w0 w : World} {bs : List Nat} {hp : List HE} {i b : Nat} {cs : List Value} {T : TypeId} (h : Sat w0 bs hp w) (hi : hp[i]? = some (.obj true b cs T)) : Sat w [b] [.obj true b cs T] w :=
 ⟨.refl _ _, fun e he => by
  rw [List.mem_singleton.1 he]
  exact ⟨(h.holds _ (List.mem_of_getElem? hi)).1, fun _ => .inr (List.mem_singleton.2 rfl)⟩, fun i j e e' hij hi hj => by
  have q1 := (List.getElem?_eq_some_iff.1 hi).1
  have q2 := (List.getElem?_eq_some_iff.1 hj).1
  simp at q1 q2
  omega⟩
theorem ap_sat {w0 w : World} {bs : List Nat} {hp : List HE} {i j b bS : Nat} {cs csS : List Value} {T TS : TypeId} (h : Sat w0 bs hp w) (hi : hp[i]? = some (.obj true b cs T)) (hj : hp[j]? = some (.obj true bS csS TS)) (hij : i ≠ j) : Sat w [b] [.obj false bS csS TS, .row b 0 19 0 rowMk, .obj true b cs T] w := by
 have hne : b ≠ bS := h.apart i j _ _ hij hi hj rfl trivial
 refine ⟨.refl _ _, fun e he => ?_, fun i j e e' hij hi hj ho hl => ?_⟩
 ·simp only [List.mem_cons, List.not_mem_nil, or_false] at he
  rcases he with rfl | rfl | rfl
  ·exact ⟨(h.holds _ (List.mem_of_getElem? hj)).1, fun e => by cases e⟩
  ·exact fun hn => absurd hn (Nat.lt_irrefl 0)
  exact ⟨(h.holds _ (List.mem_of_getElem? hi)).1, fun _ => .inr (List.mem_singleton.2 rfl)⟩
 match i, j, hi, hj, hij with
 | 0, _, hi, _, _ => simp at hi; subst hi; cases ho
 | 1, _, hi, _, _ => simp at hi; subst hi; cases ho
 | 2, 0, hi, hj, _ => simp at hi hj; subst hi; subst hj; exact hne
 | 2, 1, hi, hj, _ => simp at hj; subst hj; exact absurd hl (Nat.lt_irrefl 0)
 | 2, 2, _, _, hij => exact absurd rfl hij
 | 2, j + 3, _, hj, _ => simp at hj
 | i + 3, _, hi, _, _ => simp at hi
theorem sat_spoilt {w0 w w' : World} {hp : List HE} {b : Nat} (h : Sat w0 [] hp w) (hb : w0.heap.size ≤ b) (k : KeptBut [b] w w') : Sat w0 [] [] w' :=
 ⟨⟨k.os.trans h.kept.os, k.tape.trans h.kept.tape, k.output.trans h.kept.output, Nat.le_trans h.kept.size k.size, fun j hj hn => by
  rw [k.block j (Nat.lt_of_lt_of_le hj h.kept.size) (by simp; omega), h.kept.block j hj hn]⟩, fun e he => (by cases he), fun i j e e' hij hi => by simp at hi⟩
theorem same_kp {w : World} (Y : List Nod) (hY : Y.length ≤ 2000) (b c : Nat) (hA : Sat w [] [.row b 0 19 Y.length (rowOf Y)] w) (r : KP) (hr : r.y = Y) {w0 : World} {bs : List Nat} {hp : List HE} {i : Nat} (hs : Sat w0 bs hp w) (hi : hp[i]? = some r.e) :
  Calls Try.prog 15 #[.slice (some ⟨b, 0, none⟩) Y.length c, .slice r.A r.n r.c] w fun e w' => e = .returned (.bool true) ∧ Kept w w' := by
 obtain ⟨rb, h1, h2⟩ := KP.sat hr hs hi
 have hn : r.n = Y.length := by rw [← hr]; exact r.hn.symm
 rw [hn]
 exact same_any Y _ r.A b 0 c rb 0 r.c (by omega) w hA h2 (.inr rfl) h1
theorem nq_run {P : Program} {t : TypeId} {x y : Operand} {a : Value} {b : Bool} {w : World} (h : runQ P (binSem .neq t x y a a) = some (.value (.bool b))) (hb : b = false) : (binSem .neq t x y a a).run P w = .ok (.value (.bool false)) w := bin_run h (by rw [hb])
theorem prunes_row (w : World) (A : Option Addr) (l : List Nod) (c bl ol : Nat) (T : Tp) (Y : List Nod) (E : Int) (m : Mks) (v : Int) (h : PrA w A l c T Y E m v) (hY : Y ≠ []) (hl : l.length ≤ 879609302195) (hax : l.length = 0 ∨ A = some ⟨bl, ol, none⟩) (hq : Sat w [] [.row bl ol 19 l.length (rowOf l)] w) :
  Calls Try.prog 3 #[.slice A l.length c, T.v] w fun e w' => e = .returned (.bool true) ∧ Kept w w' := by
 refine Exists.elim (show ∃ y, roomN l = y from ⟨_, rfl⟩) fun y hy => ?_
 refine Exists.elim (show ∃ n, Y.length = n from ⟨_, rfl⟩) fun n hn => ?_
 have hYl := h.le
 have hY9 : Y.length ≤ 1000000000 := by omega
 have hl15 : l.length ≤ 1000000000000000 := by omega
 refine g_enter (args := [.slice A l.length c, T.v]) [] [.row bl ol 19 l.length (rowOf l)] Try.func3 rfl Try.ntmps3 kL hq ?_
 refine g0 ?_
 refine gN fun b1 hb1 => ?_
 refine g0 ?_
 refine g_call (X := LentO w l y) _ _ ?_ (fun x => .slice (some ⟨x.b, 0, none⟩) l.length x.cap) (fun x => [.row bl ol 19 l.length (rowOf l), .obj true b1 T.cs 24, .obj true x.b x.cs 55])
  (fun w1 hs => (lent_own A l c bl ol hl hax y hy w1 (hs.read [0] [.row bl ol 19 l.length (rowOf l)] kR)).mono fun e w2 ⟨x, h1, h2⟩ => ⟨⟨x.b, x.cap, x.cs, Nat.le_trans hs.kept.size x.new, x.le, x.len, x.row⟩, h1, (show Sat w [] ([.row bl ol 19 l.length (rowOf l), .obj true b1 T.cs 24] ++ [.obj true x.b x.cs 55]) w2 from (Sat.at hs kR).more h2 (by simp [HE.own]))⟩) (fun x => ?_)
 ·kernel_rfl
 have hcap : l.length ≤ x.cap := Nat.le_trans (Nat.le_add_right _ 2) x.le
 refine gA (List.replicate 5 1) 0 ?_
 refine g_call (X := OwnR w Y) _ _ ?_ (fun q => .tuple #[.slice (some ⟨q.b, 0, none⟩) Y.length q.c, .int .i64 E]) (fun q => [.row bl ol 19 l.length (rowOf l), .obj true b1 T.cs 24, .obj true x.b x.cs 55, .obj true q.b q.cs 55])
  (fun w1 hs => (h.P w1 x.b x.cap (Sat.rowFront (l := l) (y := y) (hs.asRow (i := 2) (o := true) (b := x.b) (sz := 19) (n := y.length) (f := rowOf y) (cs := x.cs) (E := 55) kR (fun _ => rfl) x.row) hy) hcap).mono fun e w2 ⟨q, h1, h2, h3⟩ => Exists.elim (own_row h3 hY h2) fun z hz => ⟨⟨z.b, z.c, z.cs, Nat.le_trans hs.kept.size z.new, z.le, z.len, z.row⟩, by rw [h1, hz.1], (show Sat w [] ([.row bl ol 19 l.length (rowOf l), .obj true b1 T.cs 24, .obj true x.b x.cs 55] ++ [.obj true z.b z.cs 55]) w2 from (Sat.at hs kR).more (hz.2 ▸ h2) (by simp [HE.own]))⟩) (fun q => ?_)
 ·kernel_rfl
 refine g0 ?_
 refine g_callq _ _ _ ?_ (fun w hs => h.M w x.b x.cap (Sat.rowFront (l := l) (y := y) (hs.asRow (i := 2) (o := true) (b := x.b) (sz := 19) (n := y.length) (f := rowOf y) (cs := x.cs) (E := 55) kR (fun _ => rfl) x.row) hy) hcap) ?_
 ·kernel_rfl
 refine gA (List.replicate 5 1) 0 ?_
 refine g_call (X := { r : KP // r.y = Y }) _ _ ?_ (fun r => .tuple #[.slice r.1.A r.1.n r.1.c, .int .i64 E]) (fun r => [.row bl ol 19 l.length (rowOf l), .obj true b1 T.cs 24, .obj true x.b x.cs 55, .obj true q.b q.cs 55, r.1.e])
  (fun w1 hs => (h.RP w1 hs.kk).mono fun e w2 ⟨r, h1, h2, h3⟩ => ⟨⟨r, h3⟩, h1, (show Sat w [] ([.row bl ol 19 l.length (rowOf l), .obj true b1 T.cs 24, .obj true x.b x.cs 55, .obj true q.b q.cs 55] ++ [r.e]) w2 from (Sat.at hs kR).addK r h2)⟩) (fun r => ?_)
 ·kernel_rfl
 refine g0 ?_
 refine g_callq _ _ _ ?_ (fun w hs => h.RM w hs.kk) ?_
 ·kernel_rfl
 refine g0 ?_
 refine g_callq _ _ _ ?_ (fun w hs => num11_any E w) ?_
 ·kernel_rfl
 refine gU 49 [] 0 ?_
 refine g_val _ _ ?_ (fun w _hs => nq_run (P := Try.prog) (t := 3) (x := .tmp 47) (y := .tmp 48) (a := .int .i64 E) (b := E != E) (w := w) kR (by simp)) ?_
 ·kernel_rfl
 refine gU 53 [] 2 ?_
 refine g_val _ _ ?_ (fun w _hs => nq_run (P := Try.prog) (t := 9) (x := .tmp 51) (y := .tmp 52) (a := .string m.f) (b := !(m.f.toList == m.f.toList)) (w := w) kR (by simp)) ?_
 ·kernel_rfl
 refine gU 58 [] 2 ?_
 refine g_val _ _ ?_ (fun w _hs => nq_run (P := Try.prog) (t := 9) (x := .tmp 56) (y := .tmp 57) (a := .string m.la) (b := !(m.la.toList == m.la.toList)) (w := w) kR (by simp)) ?_
 ·kernel_rfl
 refine gU 63 [] 2 ?_
 refine g_val _ _ ?_ (fun w _hs => nq_run (P := Try.prog) (t := 4) (x := .tmp 61) (y := .tmp 62) (a := .bool m.s) (b := m.s != m.s) (w := w) kR (by simp)) ?_
 ·kernel_rfl
 refine gA [] 1 ?_
 refine g_callq _ _ _ ?_ (fun w hs => num11_any v w) ?_
 ·kernel_rfl
 refine gU 69 [] 1 ?_
 refine g_val _ _ ?_ (fun w _hs => nq_run (P := Try.prog) (t := 3) (x := .tmp 67) (y := .tmp 68) (a := .int .i64 v) (b := v != v) (w := w) kR (by simp)) ?_
 ·kernel_rfl
 refine gA [] 2 ?_
 refine g_callq _ _ _ ?_ (fun w hs => stays_any A l y c bl ol x.b x.cap hy x.le hl hax w (hs.asRow (i := 2) (o := true) (cs := x.cs) (E := 55) kR (fun _ => rfl) x.row) (hs.read [0] [.row bl ol 19 l.length (rowOf l)] kR)) ?_
 ·kernel_rfl
 refine gA [] 1 ?_
 refine g_callq _ _ _ ?_ (fun w hs => knows11_any w) ?_
 ·kernel_rfl
 refine gA [] 2 ?_
 refine g_call (X := SpX x.cap l.length) _ _ ?_ (fun _ => .tuple #[]) (fun s => [.row bl ol 19 l.length (rowOf l), .obj true b1 T.cs 24, .obj true x.b s.cs 55, .obj true q.b q.cs 55, r.1.e]) (fun w1 hs => (spoil_any l.length x.b x.cap x.cs x.len hcap hl15 w1 (own_one (i := 2) hs kR)).mono fun e w2 ⟨s, h1, h2⟩ => ⟨s, h1, (show Sat w [] (List.set [.row bl ol 19 l.length (rowOf l), .obj true b1 T.cs 24, .obj true x.b x.cs 55, .obj true q.b q.cs 55, r.1.e] 2 (.obj true x.b s.cs 55)) w2 from Sat.lend (i := 2) (hs.at kR) rfl h2)⟩) (fun s => ?_)
 ·kernel_rfl
 refine g0 ?_
 refine g_callq _ _ _ ?_ (fun w hs => same_kp Y hYl q.b q.c (hs.asRow (i := 3) (o := true) (b := q.b) (sz := 19) (n := Y.length) (f := rowOf Y) (cs := q.cs) (E := 55) kR (fun _ => rfl) q.row) r.1 r.2 (i := 4) hs kR) ?_
 ·kernel_rfl
 refine gA [] 1 ?_
 refine gN fun b5 hb5 => ?_
 refine g_call (X := Unit) _ _ ?_ (fun _ => .bool true) (fun _ => []) (fun w1 hs => (apart1 Y.length q.b q.c b5 q.cs q.len q.le hY9 w1 (ap_sat (i := 3) (j := 5) hs kR kR (by decide))).mono fun e w2 hh => ⟨(), hh.1, sat_spoilt hs q.new hh.2⟩) (fun _ => ?_)
 ·kernel_rfl
 refine g0 ?_
 refine gR (Value.bool true) fun w' hs => ?_
 exact ⟨rfl, hs.kk⟩
theorem same_nil (r : KP) (hr : r.y = []) (w : World) : Calls Try.prog 15 #[.slice none 0 0, .slice r.A r.n r.c] w fun e w' => e = .returned (.bool true) ∧ Kept w w' := by
 obtain ⟨h1, h2, h3⟩ := own_nil hr
 rw [h1, h2, h3]
 exact same_none none none 0 0 w
theorem prunes_nil (w : World) (A : Option Addr) (l : List Nod) (c bl ol : Nat) (T : Tp) (E : Int) (m : Mks) (v : Int) (h : PrA w A l c T [] E m v) (hl : l.length ≤ 879609302195) (hax : l.length = 0 ∨ A = some ⟨bl, ol, none⟩) (hq : Sat w [] [.row bl ol 19 l.length (rowOf l)] w) :
  Calls Try.prog 3 #[.slice A l.length c, T.v] w fun e w' => e = .returned (.bool true) ∧ Kept w w' := by
 refine Exists.elim (show ∃ y, roomN l = y from ⟨_, rfl⟩) fun y hy => ?_
 have hl15 : l.length ≤ 1000000000000000 := by omega
 refine g_enter (args := [.slice A l.length c, T.v]) [] [.row bl ol 19 l.length (rowOf l)] Try.func3 rfl Try.ntmps3 kL hq ?_
 refine g0 ?_
 refine gN fun b1 hb1 => ?_
 refine g0 ?_
 refine g_call (X := LentO w l y) _ _ ?_ (fun x => .slice (some ⟨x.b, 0, none⟩) l.length x.cap) (fun x => [.row bl ol 19 l.length (rowOf l), .obj true b1 T.cs 24, .obj true x.b x.cs 55])
  (fun w1 hs => (lent_own A l c bl ol hl hax y hy w1 (hs.read [0] [.row bl ol 19 l.length (rowOf l)] kR)).mono fun e w2 ⟨x, h1, h2⟩ => ⟨⟨x.b, x.cap, x.cs, Nat.le_trans hs.kept.size x.new, x.le, x.len, x.row⟩, h1, (show Sat w [] ([.row bl ol 19 l.length (rowOf l), .obj true b1 T.cs 24] ++ [.obj true x.b x.cs 55]) w2 from (Sat.at hs kR).more h2 (by simp [HE.own]))⟩) (fun x => ?_)
 ·kernel_rfl
 have hcap : l.length ≤ x.cap := Nat.le_trans (Nat.le_add_right _ 2) x.le
 refine gA (List.replicate 5 1) 0 ?_
 refine g_call (X := Unit) _ _ ?_ (fun _ => .tuple #[.slice none 0 0, .int .i64 E]) (fun _ => [.row bl ol 19 l.length (rowOf l), .obj true b1 T.cs 24, .obj true x.b x.cs 55])
  (fun w1 hs => (h.P w1 x.b x.cap (Sat.rowFront (l := l) (y := y) (hs.asRow (i := 2) (o := true) (b := x.b) (sz := 19) (n := y.length) (f := rowOf y) (cs := x.cs) (E := 55) kR (fun _ => rfl) x.row) hy) hcap).mono fun e w2 ⟨q, h1, h2, h3⟩ => ⟨(), by rw [h1, (own_nil h3).1, (own_nil h3).2.1, (own_nil h3).2.2], (Sat.at hs kR).of_kept h2.kept.kept⟩) (fun _ => ?_)
 ·kernel_rfl
 refine g0 ?_
 refine g_callq _ _ _ ?_ (fun w hs => h.M w x.b x.cap (Sat.rowFront (l := l) (y := y) (hs.asRow (i := 2) (o := true) (b := x.b) (sz := 19) (n := y.length) (f := rowOf y) (cs := x.cs) (E := 55) kR (fun _ => rfl) x.row) hy) hcap) ?_
 ·kernel_rfl
 refine gA (List.replicate 5 1) 0 ?_
 refine g_call (X := { r : KP // r.y = [] }) _ _ ?_ (fun r => .tuple #[.slice r.1.A r.1.n r.1.c, .int .i64 E]) (fun r => [.row bl ol 19 l.length (rowOf l), .obj true b1 T.cs 24, .obj true x.b x.cs 55, r.1.e])
  (fun w1 hs => (h.RP w1 hs.kk).mono fun e w2 ⟨r, h1, h2, h3⟩ => ⟨⟨r, h3⟩, h1, (show Sat w [] ([.row bl ol 19 l.length (rowOf l), .obj true b1 T.cs 24, .obj true x.b x.cs 55] ++ [r.e]) w2 from (Sat.at hs kR).addK r h2)⟩) (fun r => ?_)
 ·kernel_rfl
 refine g0 ?_
 refine g_callq _ _ _ ?_ (fun w hs => h.RM w hs.kk) ?_
 ·kernel_rfl
 refine g0 ?_
 refine g_callq _ _ _ ?_ (fun w hs => num11_any E w) ?_
 ·kernel_rfl
 refine gU 49 [] 0 ?_
 refine g_val _ _ ?_ (fun w _hs => nq_run (P := Try.prog) (t := 3) (x := .tmp 47) (y := .tmp 48) (a := .int .i64 E) (b := E != E) (w := w) kR (by simp)) ?_
 ·kernel_rfl
 refine gU 53 [] 2 ?_
 refine g_val _ _ ?_ (fun w _hs => nq_run (P := Try.prog) (t := 9) (x := .tmp 51) (y := .tmp 52) (a := .string m.f) (b := !(m.f.toList == m.f.toList)) (w := w) kR (by simp)) ?_
 ·kernel_rfl
 refine gU 58 [] 2 ?_
 refine g_val _ _ ?_ (fun w _hs => nq_run (P := Try.prog) (t := 9) (x := .tmp 56) (y := .tmp 57) (a := .string m.la) (b := !(m.la.toList == m.la.toList)) (w := w) kR (by simp)) ?_
 ·kernel_rfl
 refine gU 63 [] 2 ?_
 refine g_val _ _ ?_ (fun w _hs => nq_run (P := Try.prog) (t := 4) (x := .tmp 61) (y := .tmp 62) (a := .bool m.s) (b := m.s != m.s) (w := w) kR (by simp)) ?_
 ·kernel_rfl
 refine gA [] 1 ?_
 refine g_callq _ _ _ ?_ (fun w hs => num11_any v w) ?_
 ·kernel_rfl
 refine gU 69 [] 1 ?_
 refine g_val _ _ ?_ (fun w _hs => nq_run (P := Try.prog) (t := 3) (x := .tmp 67) (y := .tmp 68) (a := .int .i64 v) (b := v != v) (w := w) kR (by simp)) ?_
 ·kernel_rfl
 refine gA [] 2 ?_
 refine g_callq _ _ _ ?_ (fun w hs => stays_any A l y c bl ol x.b x.cap hy x.le hl hax w (hs.asRow (i := 2) (o := true) (cs := x.cs) (E := 55) kR (fun _ => rfl) x.row) (hs.read [0] [.row bl ol 19 l.length (rowOf l)] kR)) ?_
 ·kernel_rfl
 refine gA [] 1 ?_
 refine g_callq _ _ _ ?_ (fun w hs => knows11_any w) ?_
 ·kernel_rfl
 refine gA [] 2 ?_
 refine g_call (X := SpX x.cap l.length) _ _ ?_ (fun _ => .tuple #[]) (fun s => [.row bl ol 19 l.length (rowOf l), .obj true b1 T.cs 24, .obj true x.b s.cs 55, r.1.e]) (fun w1 hs => (spoil_any l.length x.b x.cap x.cs x.len hcap hl15 w1 (own_one (i := 2) hs kR)).mono fun e w2 ⟨s, h1, h2⟩ => ⟨s, h1, (show Sat w [] (List.set [.row bl ol 19 l.length (rowOf l), .obj true b1 T.cs 24, .obj true x.b x.cs 55, r.1.e] 2 (.obj true x.b s.cs 55)) w2 from Sat.lend (i := 2) (hs.at kR) rfl h2)⟩) (fun s => ?_)
 ·kernel_rfl
 refine g0 ?_
 refine g_callq _ _ _ ?_ (fun w hs => same_nil r.1 r.2 w) ?_
 ·kernel_rfl
 refine gA [] 1 ?_
 refine gN fun b4 hb4 => ?_
 refine g_callq _ _ _ ?_ (fun w hs => apart0 b4 w (hs.obj (o := true) (i := 4) kR)) ?_
 ·kernel_rfl
 refine g0 ?_
 refine gR (Value.bool true) fun w' hs => ?_
 exact ⟨rfl, hs.kk⟩
theorem kp_nil {w w' : World} (k : Kept w w') : Sat w [] [KP.none.e] w' :=
 (⟨.of_kept k, fun e he => (by cases he), fun i j e e' hij hi => by simp at hi⟩ : Sat w [] [] w').dummy
theorem bif_len (Z : List Nod) : (bif decide (2000 < Z.length) then [] else Z).length ≤ 2000 := by
 by_cases h : 2000 < Z.length
 ·rw [decide_eq_true h]; simp
 rw [decide_eq_false h]; simp only [cond_false]; omega
theorem pra_row (w : World) (l : List Nod) (c bl ol : Nat) (hle : l.length ≤ c) (hs : ∀ w', Kept w w' → Sat w' [] [.row bl ol 19 l.length (rowOf l)] w') (T : Tp) : ∃ Y E m v, PrA w (some ⟨bl, ol, none⟩) l c T Y E m v := by
 obtain ⟨v, hv⟩ := vc_any l
 by_cases h0 : v = 0
 ·subst h0
  have hv0 := hv
  rcases hv with ⟨_, h⟩ | ⟨hk, W, hG, hvE⟩
  ·exact absurd rfl h
  cases hf : finB T.nod with
  | true => exact ⟨_, _, marksV l W, 0, ⟨fun w' b cap hq hcap => prune_ok T l b 0 cap hcap hv0 hf W hG _ rfl w' hq, fun w' b cap hq hcap => marks_row l b 0 cap W hG hcap hk hvE _ rfl w' hq, fun w' k => rprune_ok T l bl ol c hle hv0 hf W hG _ rfl w' (hs w' k), fun w' k => rmarks_row l bl ol c W hG hv0 _ rfl w' (hs w' k), bif_len _⟩⟩
  | false => exact ⟨[], 30, marksV l W, 0, ⟨fun w' b cap hq hcap => (prune_glue T l b 0 cap hcap hv0 hf w' hq).mono fun e w2 h => ⟨.none, h.1, kp_nil h.2, rfl⟩, fun w' b cap hq hcap => marks_row l b 0 cap W hG hcap hk hvE _ rfl w' hq, fun w' k => (rprune_glue T l bl ol c hv0 hf w' (hs w' k)).mono fun e w2 h => ⟨.none, h.1, kp_nil h.2, rfl⟩, fun w' k => rmarks_row l bl ol c W hG hv0 _ rfl w' (hs w' k), by simp⟩⟩
 exact ⟨[], v, mk0, v, ⟨fun w' b cap hq hcap => (prune_bad T l b 0 cap hcap v hv h0 w' hq).mono fun e w2 h => ⟨.none, h.1, kp_nil h.2, rfl⟩, fun w' b cap hq hcap => marks_bad l b 0 cap hcap v hv h0 w' hq, fun w' k => (rprune_bad T l bl ol c v hv h0 w' (hs w' k)).mono fun e w2 h => ⟨.none, h.1, kp_nil h.2, rfl⟩, fun w' k => rmarks_bad l bl ol c v hv h0 w' (hs w' k), by simp⟩⟩
theorem pra_empty (w : World) (A : Option Addr) (c : Nat) (hc : A = none → c = 0) (T : Tp) : ∃ Y E m v, PrA w A [] c T Y E m v := by
 obtain ⟨W, hG⟩ := good_of (l := []) rfl
 have hv0 : VC [] 0 := .inr ⟨rfl, W, hG, rfl⟩
 have hz : errP [] = 0 := errP_small (by simp)
 cases hf : finB T.nod with
 | true =>
  refine ⟨[], 0, mk0, 0, ⟨fun w' b cap hq hcap => (prune_ok T [] b 0 cap hcap hv0 hf W hG [] rfl w' hq).mono fun e w2 ⟨q, h1, h2, h3⟩ => ⟨q, h1, h2, h3⟩, fun w' b cap hq hcap => marks_row [] b 0 cap W hG hcap rfl rfl mk0 rfl w' hq, fun w' k => ?_, fun w' k => ?_, by simp⟩⟩
  ·cases A with
   | none => rw [hc rfl]; exact (rprune_nil_true T hf w').mono fun e w2 h => ⟨.none, h.1, kp_nil h.2, rfl⟩
   | some a => exact (rprune_void_true a c T hf w').mono fun e w2 h => ⟨.none, h.1, kp_nil h.2, rfl⟩
  cases A with
  | none => rw [hc rfl]; exact rmarks_nil w'
  | some a => exact rmarks_void a c w'
 | false =>
  refine ⟨[], 30, mk0, 0, ⟨fun w' b cap hq hcap => (prune_glue T [] b 0 cap hcap hv0 hf w' hq).mono fun e w2 h => ⟨.none, h.1, kp_nil h.2, rfl⟩, fun w' b cap hq hcap => marks_row [] b 0 cap W hG hcap rfl rfl mk0 rfl w' hq, fun w' k => ?_, fun w' k => ?_, by simp⟩⟩
  ·cases A with
   | none => rw [hc rfl]; exact (rprune_nil_false T hf w').mono fun e w2 h => ⟨.none, h.1, kp_nil h.2, rfl⟩
   | some a => exact (rprune_void_false a c T hf w').mono fun e w2 h => ⟨.none, h.1, kp_nil h.2, rfl⟩
  cases A with
  | none => rw [hc rfl]; exact rmarks_nil w'
  | some a => exact rmarks_void a c w'
theorem vlistPrunes_walk (w : World) (A : Option Addr) (l : List Nod) (c : Nat) (hle : l.length ≤ c) (_hcm : c ≤ maxLen) (hnil : A = none → l = [] ∧ c = 0)
  (hrow : ∀ p, A = some p → 0 < l.length → p.spot = none ∧ p.block < w.heap.size ∧ ∀ k, k < l.length → ∀ j v, (rowOf l k)[j]? = some v → w.cell? ⟨p.block, p.off + k * 19 + j, none⟩ = some v) (hl : l.length ≤ 879609302195) (a0 a1 a2 a3 a4 : Int) :
  Calls Try.prog 3 #[.slice A l.length c, .agg #[.int .i64 a0, .int .i64 a1, .int .i64 a2, .int .i64 a3, .int .i64 a4]] w fun e w' => e = .returned (.bool true) ∧ Kept w w' := by
 have key : ∃ bl ol, (l.length = 0 ∨ A = some ⟨bl, ol, none⟩) ∧ ∀ w', Kept w w' → Sat w' [] [.row bl ol 19 l.length (rowOf l)] w' := by
  rcases Nat.eq_zero_or_pos l.length with h0 | h0
  ·exact ⟨0, 0, .inl h0, fun w' _ => row_sat fun h => by omega⟩
  cases A with
  | none => rw [(hnil rfl).1] at h0; exact absurd h0 (by simp)
  | some p =>
   obtain ⟨h1, h2, h3⟩ := hrow p rfl h0
   obtain ⟨b, o, s⟩ := p
   simp only at h1 h2 h3
   subst h1
   exact ⟨b, o, .inr rfl, fun w' k => ((row_sat (sz := 19) (f := rowOf l) (n := l.length) (o := o) fun _ => ⟨h2, h3⟩ : Sat w [] [.row b o 19 l.length (rowOf l)] w).of_kept k).read [0] [.row b o 19 l.length (rowOf l)] kR⟩
 obtain ⟨bl, ol, hax, hs⟩ := key
 have hN : ∃ Y E m v, PrA w A l c ⟨a0, a1, a2, a3, a4⟩ Y E m v := by
  rcases Nat.eq_zero_or_pos l.length with h0 | h0
  ·obtain rfl := List.length_eq_zero_iff.1 h0
   exact pra_empty w A c (fun h => (hnil h).2) _
  obtain rfl := hax.resolve_left (by omega)
  exact pra_row w l c bl ol hle hs _
 obtain ⟨Y, E, m, v, hN⟩ := hN
 by_cases hY : Y = []
 ·subst hY
  exact prunes_nil w A l c bl ol ⟨a0, a1, a2, a3, a4⟩ E m v hN hl hax (hs w (.refl _))
 exact prunes_row w A l c bl ol ⟨a0, a1, a2, a3, a4⟩ Y E m v hN hY hl hax (hs w (.refl _))
end Go.Proofs.Ytcncfmjfgdbfeab
