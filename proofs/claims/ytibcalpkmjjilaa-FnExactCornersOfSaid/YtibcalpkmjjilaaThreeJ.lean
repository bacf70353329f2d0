/- Three rows: the contracts of the program's isJustMetBy, IsJustMet, DetOfRows and SolveRows. -/
import Derived.Test.YtibcalpkmjjilaaThreeI
import Derived.Deep.RegionHeld3
namespace Go.Proofs.Ytibcalpkmjjilaa
set_option maxRecDepth 100000
open Go.ChangeShapes Go.WideShapes Go.ChangeAt Go.RowKit

/-- What isJustMetBy answers of a valid thrust. -/
def jmR (h v m d a b c e : Int) : Bool := cdOk a b c e && decide (a * h + b * v + c * m = e * d)
theorem jmR_no {h v m d a b c e : Int} (hr : cdOk a b c e = false) : jmR h v m d a b c e = false := by unfold jmR; rw [hr]; rfl
theorem jmR_yes {h v m d a b c e : Int} (hr : cdOk a b c e = true) : jmR h v m d a b c e = decide (cdX h v m d a b c e = 0) := by
  unfold jmR cdX; rw [hr, Bool.true_and]
  rw [Bool.eq_iff_iff, decide_eq_true_iff, decide_eq_true_iff]
  omega
theorem jmB_R {h v m d a b c e : Int} (ht : okT h v m d = true) : jmB (h, v, m, d) (a, b, c, e) = jmR h v m d a b c e := by unfold jmB okTh; dsimp only; rw [ht]; rfl

set_option maxHeartbeats 1000000 in
theorem rowJustMet (h v m d a b c e : Int) (w : World) (ht : okT h v m d = true) :
    Calls Try.prog 42 #[.agg #[.int .i64 a, .int .i64 b, .int .i64 c, .int .i64 e], .agg #[.int .i64 h, .int .i64 v, .int .i64 m, .int .i64 d]] w fun e1 w' => e1 = .returned (.bool (jmR h v m d a b c e)) ∧ Below w.heap.size w w' := by
  have hb0 := ((Below.refl w.heap.size w).alloc (Nat.le_refl _) (.cells #[.int .i64 a, .int .i64 b, .int .i64 c, .int .i64 e] 25)).alloc (by simp) (.cells #[.int .i64 h, .int .i64 v, .int .i64 m, .int .i64 d] 29)
  have HB0 := Lib.hid hb0
  clear hb0
  cases hr : cdOk a b c e
  · have HV := Lib.hid (jmR_no (h := h) (v := v) (m := m) (d := d) hr)
    clear ht
    go_enter Try.func42, Try.ntmps42
    go_wp2_with fail
    refine (rowValid _ _ _ _ _).mono ?_
    rintro e1 w1 ⟨rfl, hb1⟩
    rw [hr]
    go_wp2_with fail
    go_ret
    exact ⟨ret_bool HV.out.symm, HB0.out.trans (hb1.mono HB0.out.size)⟩
  · have HV := Lib.hid (jmR_yes (h := h) (v := v) (m := m) (d := d) hr)
    have hd := (okT_iff.1 ht).1
    have HC := Lib.hid (fun w => rowExcess h v m d a b c e w (cd_bd ht hr) (by omega))
    clear ht hd
    generalize cdX h v m d a b c e = X at *
    go_enter Try.func42, Try.ntmps42
    go_wp2_with fail
    refine (rowValid _ _ _ _ _).mono ?_
    rintro e1 w1 ⟨rfl, hb1⟩
    rw [hr]
    have HB1 := Lib.hid (HB0.out.trans (hb1.mono HB0.out.size))
    have a0 : w1.cell? ⟨w.heap.size, 0, none⟩ = some (.int .i64 a) := tcell (by go_simp) hb1
    have a1 : w1.cell? ⟨w.heap.size, 1, none⟩ = some (.int .i64 b) := tcell (by go_simp) hb1
    have a2 : w1.cell? ⟨w.heap.size, 2, none⟩ = some (.int .i64 c) := tcell (by go_simp) hb1
    have a3 : w1.cell? ⟨w.heap.size, 3, none⟩ = some (.int .i64 e) := tcell (by go_simp) hb1
    have b0 : w1.cell? ⟨w.heap.size + 1, 0, none⟩ = some (.int .i64 h) := tcell (by go_simp) hb1
    have b1 : w1.cell? ⟨w.heap.size + 1, 1, none⟩ = some (.int .i64 v) := tcell (by go_simp) hb1
    have b2 : w1.cell? ⟨w.heap.size + 1, 2, none⟩ = some (.int .i64 m) := tcell (by go_simp) hb1
    have b3 : w1.cell? ⟨w.heap.size + 1, 3, none⟩ = some (.int .i64 d) := tcell (by go_simp) hb1
    clear hb1 HB0
    go_wp2_with fail
    refine (HC.out _).mono ?_
    rintro e1 w2 ⟨rfl, hb2⟩
    have HBE := Lib.hid (HB1.out.trans (hb2.mono HB1.out.size))
    clear hb2 HB1
    go_wp2_with fail
    go_ret
    exact ⟨ret_bool (by rw [HV.out]; first | rfl | (rw [Bool.eq_iff_iff]; simp)), HBE.out⟩

set_option maxHeartbeats 1000000 in
theorem implIsJustMet (h v m d a b c e : Int) (w : World) :
    Calls Try.prog 11 #[.agg #[.int .i64 h, .int .i64 v, .int .i64 m, .int .i64 d], .agg #[.int .i64 a, .int .i64 b, .int .i64 c, .int .i64 e]] w fun e1 w' => e1 = .returned (.bool (jmB (h, v, m, d) (a, b, c, e))) ∧ Below w.heap.size w w' := by
  have hb0 := ((Below.refl w.heap.size w).alloc (Nat.le_refl _) (.cells #[.int .i64 h, .int .i64 v, .int .i64 m, .int .i64 d] 29)).alloc (by simp) (.cells #[.int .i64 a, .int .i64 b, .int .i64 c, .int .i64 e] 25)
  have HB0 := Lib.hid hb0
  clear hb0
  cases ht : okT h v m d
  · have HV := Lib.hid (jmB_t (p := (a, b, c, e)) (show okTh (h, v, m, d) = false from ht))
    go_enter Try.func11, Try.ntmps11
    go_wp2_with fail
    refine (isValidT _ _ _ _ _).mono ?_
    rintro e1 w1 ⟨rfl, hb1⟩
    rw [ht]
    go_wp2_with fail
    go_ret
    exact ⟨ret_bool HV.out.symm, HB0.out.trans (hb1.mono HB0.out.size)⟩
  · have HV := Lib.hid (jmB_R (a := a) (b := b) (c := c) (e := e) ht)
    have HC := Lib.hid (fun w => rowJustMet h v m d a b c e w ht)
    go_enter Try.func11, Try.ntmps11
    go_wp2_with fail
    refine (isValidT _ _ _ _ _).mono ?_
    rintro e1 w1 ⟨rfl, hb1⟩
    rw [ht]
    have HB1 := Lib.hid (HB0.out.trans (hb1.mono HB0.out.size))
    have b0 : w1.cell? ⟨w.heap.size, 0, none⟩ = some (.int .i64 h) := tcell (by go_simp) hb1
    have b1 : w1.cell? ⟨w.heap.size, 1, none⟩ = some (.int .i64 v) := tcell (by go_simp) hb1
    have b2 : w1.cell? ⟨w.heap.size, 2, none⟩ = some (.int .i64 m) := tcell (by go_simp) hb1
    have b3 : w1.cell? ⟨w.heap.size, 3, none⟩ = some (.int .i64 d) := tcell (by go_simp) hb1
    have a0 : w1.cell? ⟨w.heap.size + 1, 0, none⟩ = some (.int .i64 a) := tcell (by go_simp) hb1
    have a1 : w1.cell? ⟨w.heap.size + 1, 1, none⟩ = some (.int .i64 b) := tcell (by go_simp) hb1
    have a2 : w1.cell? ⟨w.heap.size + 1, 2, none⟩ = some (.int .i64 c) := tcell (by go_simp) hb1
    have a3 : w1.cell? ⟨w.heap.size + 1, 3, none⟩ = some (.int .i64 e) := tcell (by go_simp) hb1
    clear hb1 HB0
    go_wp2_with fail
    refine (HC.out _).mono ?_
    rintro e1 w2 ⟨rfl, hb2⟩
    go_wp2_with fail
    go_ret
    exact ⟨ret_bool HV.out.symm, HB1.out.trans (hb2.mono HB1.out.size)⟩

/-- linesOf's answer as letters with the bounds and the sums that the determinants come to. -/
theorem lines_any (p q r : Cd) : ∃ (ok : Bool) (A1 A2 A3 B1 B2 B3 C1 C2 C3 D1 D2 D3 : Int), ok3 p q r = ok ∧
    lnV ok p.1 p.2.1 p.2.2.1 p.2.2.2 q.1 q.2.1 q.2.2.1 q.2.2.2 r.1 r.2.1 r.2.2.1 r.2.2.2 = .agg #[.int .i64 A1, .int .i64 A2, .int .i64 A3, .int .i64 B1, .int .i64 B2, .int .i64 B3, .int .i64 C1, .int .i64 C2, .int .i64 C3, .int .i64 D1, .int .i64 D2, .int .i64 D3] ∧
    ColBd A1 A2 A3 B1 B2 B3 C1 C2 C3 ∧ ColBd D1 D2 D3 B1 B2 B3 C1 C2 C3 ∧ ColBd A1 A2 A3 D1 D2 D3 C1 C2 C3 ∧ ColBd A1 A2 A3 B1 B2 B3 D1 D2 D3 ∧
    detC A1 A2 A3 B1 B2 B3 C1 C2 C3 = dtV p q r ∧
    mkV (detC D1 D2 D3 B1 B2 B3 C1 C2 C3) (detC A1 A2 A3 D1 D2 D3 C1 C2 C3) (detC A1 A2 A3 B1 B2 B3 D1 D2 D3) (dtV p q r) = mkV (dtH p q r) (dtU p q r) (dtM p q r) (dtV p q r) := by
  have hb := ln_bd (ok := ok3 p q r) (p := p) (q := q) (r := r) (fun h => ok3_iff.1 h)
  have hd := ln_det p q r
  obtain ⟨ok, hok⟩ : ∃ ok, ok3 p q r = ok := ⟨_, rfl⟩
  rw [hok] at hb hd
  refine ⟨ok, (lnR ok p).1, (lnR ok q).1, (lnR ok r).1, (lnR ok p).2.1, (lnR ok q).2.1, (lnR ok r).2.1, (lnR ok p).2.2.1, (lnR ok q).2.2.1, (lnR ok r).2.2.1, (lnR ok p).2.2.2, (lnR ok q).2.2.2, (lnR ok r).2.2.2, hok, ?_, hb.1, hb.2.1, hb.2.2.1, hb.2.2.2, hd, ?_⟩
  · cases ok <;> rfl
  · cases ok with
    | true => rw [detC_eq, detC_eq, detC_eq]; rfl
    | false =>
      have hz : dtV p q r = 0 := by rw [← hd]; rfl
      rw [hz, mkV_no mkB_zero, mkV_no mkB_zero]

set_option maxHeartbeats 2000000 in
theorem implDetOfRows (a1 b1 c1 d1 a2 b2 c2 d2 a3 b3 c3 d3 : Int) (w : World) :
    Calls Try.prog 9 #[.agg #[.int .i64 a1, .int .i64 b1, .int .i64 c1, .int .i64 d1], .agg #[.int .i64 a2, .int .i64 b2, .int .i64 c2, .int .i64 d2], .agg #[.int .i64 a3, .int .i64 b3, .int .i64 c3, .int .i64 d3]] w fun e1 w' => e1 = .returned (.int .i64 (dtV (a1, b1, c1, d1) (a2, b2, c2, d2) (a3, b3, c3, d3))) ∧ Below w.heap.size w w' := by
  have HB0 := Lib.hid ((((Below.refl w.heap.size w).alloc (Nat.le_refl _) (.cells #[.int .i64 a1, .int .i64 b1, .int .i64 c1, .int .i64 d1] 25)).alloc (by simp) (.cells #[.int .i64 a2, .int .i64 b2, .int .i64 c2, .int .i64 d2] 25)).alloc (by simp <;> omega) (.cells #[.int .i64 a3, .int .i64 b3, .int .i64 c3, .int .i64 d3] 25))
  obtain ⟨ok, A1, A2, A3, B1, B2, B3, C1, C2, C3, D1, D2, D3, hok, hv, h1, -, -, -, hd, -⟩ := lines_any (a1, b1, c1, d1) (a2, b2, c2, d2) (a3, b3, c3, d3)
  have HL := Lib.hid (fun w => linesOf a1 b1 c1 d1 a2 b2 c2 d2 a3 b3 c3 d3 w)
  rw [hok] at HL
  dsimp only at hv
  rw [hv] at HL
  have HD := Lib.hid (fun w => determinant A1 A2 A3 B1 B2 B3 C1 C2 C3 w h1)
  rw [hd] at HD
  clear hv h1 hd hok
  go_enter Try.func9, Try.ntmps9
  go_wp2_with fail
  refine (HL.out _).mono ?_
  rintro e1 w1 ⟨rfl, hb1⟩
  have HB1 := Lib.hid (HB0.out.trans (hb1.mono HB0.out.size))
  have HB2 := Lib.hid (HB1.out.alloc HB1.out.size (.cells #[.int .i64 A1, .int .i64 A2, .int .i64 A3, .int .i64 B1, .int .i64 B2, .int .i64 B3, .int .i64 C1, .int .i64 C2, .int .i64 C3, .int .i64 D1, .int .i64 D2, .int .i64 D3] 75))
  clear hb1 HB0
  go_wp2_with fail
  refine (HD.out _).mono ?_
  rintro e1 w2 ⟨rfl, hb2⟩
  go_wp2_with fail
  go_ret
  exact ⟨rfl, HB2.out.trans (hb2.mono HB2.out.size)⟩
end Go.Proofs.Ytibcalpkmjjilaa
