/- Three rows: the contract of the program's SolveRows. -/
import Derived.Test.YtibcalpkmjjilaaGThree
import Derived.Test.YtibcalpkmjjilaaGCond
import Derived.Deep.RegionHeld3
import Derived.Deep.CutRange
namespace Go.Proofs.Ytibcalpkmjjilaa
set_option maxRecDepth 100000
open Go.ChangeShapes Go.WideShapes Go.ChangeAt Go.RowKit

/-- What SolveRows answers, as a value. -/
def slvV (p q r : Cd) : Value := mkV (dtH p q r) (dtU p q r) (dtM p q r) (dtV p q r)
set_option maxRecDepth 100000 in
set_option maxHeartbeats 8000000 in
theorem implSolveRows (a1 b1 c1 d1 a2 b2 c2 d2 a3 b3 c3 d3 : Int) (w : World) :
    Calls Try.prog 8 #[.agg #[.int .i64 a1, .int .i64 b1, .int .i64 c1, .int .i64 d1], .agg #[.int .i64 a2, .int .i64 b2, .int .i64 c2, .int .i64 d2], .agg #[.int .i64 a3, .int .i64 b3, .int .i64 c3, .int .i64 d3]] w fun e1 w' => e1 = .returned (slvV (a1, b1, c1, d1) (a2, b2, c2, d2) (a3, b3, c3, d3)) ∧ Below w.heap.size w w' := by
  have HB0 := Lib.hid (((((Below.refl w.heap.size w).alloc (Nat.le_refl _) (.cells #[.int .i64 a1, .int .i64 b1, .int .i64 c1, .int .i64 d1] 25)).alloc (by simp) (.cells #[.int .i64 a2, .int .i64 b2, .int .i64 c2, .int .i64 d2] 25)).alloc (by simp <;> omega) (.cells #[.int .i64 a3, .int .i64 b3, .int .i64 c3, .int .i64 d3] 25)).alloc (by simp <;> omega) (.cells #[.int .i64 0, .int .i64 0, .int .i64 0, .int .i64 0] 29))
  obtain ⟨ok, A1, A2, A3, B1, B2, B3, C1, C2, C3, D1, D2, D3, hok, hv, h1, h2, h3, h4, hd, hm⟩ := lines_any (a1, b1, c1, d1) (a2, b2, c2, d2) (a3, b3, c3, d3)
  have HL := Lib.hid (fun w => linesOf a1 b1 c1 d1 a2 b2 c2 d2 a3 b3 c3 d3 w)
  rw [hok] at HL
  dsimp only at hv
  rw [hv] at HL
  have HDH := Lib.hid (fun w => determinant D1 D2 D3 B1 B2 B3 C1 C2 C3 w h2)
  have HDU := Lib.hid (fun w => determinant A1 A2 A3 D1 D2 D3 C1 C2 C3 w h3)
  have HDM := Lib.hid (fun w => determinant A1 A2 A3 B1 B2 B3 D1 D2 D3 w h4)
  have HDD := Lib.hid (fun w => determinant A1 A2 A3 B1 B2 B3 C1 C2 C3 w h1)
  rw [hd] at HDD
  have HV := Lib.hid (show slvV (a1, b1, c1, d1) (a2, b2, c2, d2) (a3, b3, c3, d3) = mkV (dtH (a1, b1, c1, d1) (a2, b2, c2, d2) (a3, b3, c3, d3)) (dtU (a1, b1, c1, d1) (a2, b2, c2, d2) (a3, b3, c3, d3)) (dtM (a1, b1, c1, d1) (a2, b2, c2, d2) (a3, b3, c3, d3)) (dtV (a1, b1, c1, d1) (a2, b2, c2, d2) (a3, b3, c3, d3)) from rfl)
  rw [← hm] at HV
  generalize detC D1 D2 D3 B1 B2 B3 C1 C2 C3 = xH at *
  generalize detC A1 A2 A3 D1 D2 D3 C1 C2 C3 = xU at *
  generalize detC A1 A2 A3 B1 B2 B3 D1 D2 D3 = xM at *
  generalize dtV (a1, b1, c1, d1) (a2, b2, c2, d2) (a3, b3, c3, d3) = xD at *
  obtain ⟨ra, rb, rc, re, rt, hr⟩ := mkV_any xH xU xM xD
  have HMK := Lib.hid (fun w => implMake xH xU xM xD w)
  rw [hr] at HMK HV
  clear hv h1 h2 h3 h4 hd hm hok hr
  go_enter Try.func8, Try.ntmps8
  go_wp2_with fail
  refine (HL.out _).mono ?_
  rintro e1 w1 ⟨rfl, hb1⟩
  have HB1 := Lib.hid (HB0.out.trans (hb1.mono HB0.out.size))
  have r0 : w1.cell? ⟨w.heap.size + 1 + 1 + 1, 0, none⟩ = some (.int .i64 0) := tcell (by go_simp) hb1
  have r1 : w1.cell? ⟨w.heap.size + 1 + 1 + 1, 1, none⟩ = some (.int .i64 0) := tcell (by go_simp) hb1
  have r2 : w1.cell? ⟨w.heap.size + 1 + 1 + 1, 2, none⟩ = some (.int .i64 0) := tcell (by go_simp) hb1
  have r3 : w1.cell? ⟨w.heap.size + 1 + 1 + 1, 3, none⟩ = some (.int .i64 0) := tcell (by go_simp) hb1
  have hfr : ∀ o, w1.frozen? ⟨w.heap.size + 1 + 1 + 1, o, none⟩ = false := fun o => (hb1.frozen (p := ⟨w.heap.size + 1 + 1 + 1, o, none⟩) (by simp <;> omega)).trans (by go_simp)
  have hrl : w.heap.size + 1 + 1 + 1 < w1.heap.size := cell_block_lt r0
  have hal := cd_al w1 (.cells #[.int .i64 A1, .int .i64 A2, .int .i64 A3, .int .i64 B1, .int .i64 B2, .int .i64 B3, .int .i64 C1, .int .i64 C2, .int .i64 C3, .int .i64 D1, .int .i64 D2, .int .i64 D3] 75)
  have r0 := tcell r0 hal
  have r1 := tcell r1 hal
  have r2 := tcell r2 hal
  have r3 := tcell r3 hal
  have hfr : ∀ o, (w1.alloc (.cells #[.int .i64 A1, .int .i64 A2, .int .i64 A3, .int .i64 B1, .int .i64 B2, .int .i64 B3, .int .i64 C1, .int .i64 C2, .int .i64 C3, .int .i64 D1, .int .i64 D2, .int .i64 D3] 75)).frozen? ⟨w.heap.size + 1 + 1 + 1, o, none⟩ = false := fun o => (hal.frozen (p := ⟨w.heap.size + 1 + 1 + 1, o, none⟩) hrl).trans (hfr o)
  have l0 : (w1.alloc (.cells #[.int .i64 A1, .int .i64 A2, .int .i64 A3, .int .i64 B1, .int .i64 B2, .int .i64 B3, .int .i64 C1, .int .i64 C2, .int .i64 C3, .int .i64 D1, .int .i64 D2, .int .i64 D3] 75)).cell? ⟨w1.heap.size, 0, none⟩ = some (.int .i64 A1) := by go_simp
  have l1 : (w1.alloc (.cells #[.int .i64 A1, .int .i64 A2, .int .i64 A3, .int .i64 B1, .int .i64 B2, .int .i64 B3, .int .i64 C1, .int .i64 C2, .int .i64 C3, .int .i64 D1, .int .i64 D2, .int .i64 D3] 75)).cell? ⟨w1.heap.size, 1, none⟩ = some (.int .i64 A2) := by go_simp
  have l2 : (w1.alloc (.cells #[.int .i64 A1, .int .i64 A2, .int .i64 A3, .int .i64 B1, .int .i64 B2, .int .i64 B3, .int .i64 C1, .int .i64 C2, .int .i64 C3, .int .i64 D1, .int .i64 D2, .int .i64 D3] 75)).cell? ⟨w1.heap.size, 2, none⟩ = some (.int .i64 A3) := by go_simp
  have l3 : (w1.alloc (.cells #[.int .i64 A1, .int .i64 A2, .int .i64 A3, .int .i64 B1, .int .i64 B2, .int .i64 B3, .int .i64 C1, .int .i64 C2, .int .i64 C3, .int .i64 D1, .int .i64 D2, .int .i64 D3] 75)).cell? ⟨w1.heap.size, 3, none⟩ = some (.int .i64 B1) := by go_simp
  have l4 : (w1.alloc (.cells #[.int .i64 A1, .int .i64 A2, .int .i64 A3, .int .i64 B1, .int .i64 B2, .int .i64 B3, .int .i64 C1, .int .i64 C2, .int .i64 C3, .int .i64 D1, .int .i64 D2, .int .i64 D3] 75)).cell? ⟨w1.heap.size, 4, none⟩ = some (.int .i64 B2) := by go_simp
  have l5 : (w1.alloc (.cells #[.int .i64 A1, .int .i64 A2, .int .i64 A3, .int .i64 B1, .int .i64 B2, .int .i64 B3, .int .i64 C1, .int .i64 C2, .int .i64 C3, .int .i64 D1, .int .i64 D2, .int .i64 D3] 75)).cell? ⟨w1.heap.size, 5, none⟩ = some (.int .i64 B3) := by go_simp
  have l6 : (w1.alloc (.cells #[.int .i64 A1, .int .i64 A2, .int .i64 A3, .int .i64 B1, .int .i64 B2, .int .i64 B3, .int .i64 C1, .int .i64 C2, .int .i64 C3, .int .i64 D1, .int .i64 D2, .int .i64 D3] 75)).cell? ⟨w1.heap.size, 6, none⟩ = some (.int .i64 C1) := by go_simp
  have l7 : (w1.alloc (.cells #[.int .i64 A1, .int .i64 A2, .int .i64 A3, .int .i64 B1, .int .i64 B2, .int .i64 B3, .int .i64 C1, .int .i64 C2, .int .i64 C3, .int .i64 D1, .int .i64 D2, .int .i64 D3] 75)).cell? ⟨w1.heap.size, 7, none⟩ = some (.int .i64 C2) := by go_simp
  have l8 : (w1.alloc (.cells #[.int .i64 A1, .int .i64 A2, .int .i64 A3, .int .i64 B1, .int .i64 B2, .int .i64 B3, .int .i64 C1, .int .i64 C2, .int .i64 C3, .int .i64 D1, .int .i64 D2, .int .i64 D3] 75)).cell? ⟨w1.heap.size, 8, none⟩ = some (.int .i64 C3) := by go_simp
  have l9 : (w1.alloc (.cells #[.int .i64 A1, .int .i64 A2, .int .i64 A3, .int .i64 B1, .int .i64 B2, .int .i64 B3, .int .i64 C1, .int .i64 C2, .int .i64 C3, .int .i64 D1, .int .i64 D2, .int .i64 D3] 75)).cell? ⟨w1.heap.size, 9, none⟩ = some (.int .i64 D1) := by go_simp
  have l10 : (w1.alloc (.cells #[.int .i64 A1, .int .i64 A2, .int .i64 A3, .int .i64 B1, .int .i64 B2, .int .i64 B3, .int .i64 C1, .int .i64 C2, .int .i64 C3, .int .i64 D1, .int .i64 D2, .int .i64 D3] 75)).cell? ⟨w1.heap.size, 10, none⟩ = some (.int .i64 D2) := by go_simp
  have l11 : (w1.alloc (.cells #[.int .i64 A1, .int .i64 A2, .int .i64 A3, .int .i64 B1, .int .i64 B2, .int .i64 B3, .int .i64 C1, .int .i64 C2, .int .i64 C3, .int .i64 D1, .int .i64 D2, .int .i64 D3] 75)).cell? ⟨w1.heap.size, 11, none⟩ = some (.int .i64 D3) := by go_simp
  have HB2 := Lib.hid (HB1.out.trans (hal.mono HB1.out.size))
  clear hb1 HB0 HB1 hal
  go_upto_region 2 with fail
  generalize hZ : w1.alloc (.cells #[.int .i64 A1, .int .i64 A2, .int .i64 A3, .int .i64 B1, .int .i64 B2, .int .i64 B3, .int .i64 C1, .int .i64 C2, .int .i64 C3, .int .i64 D1, .int .i64 D2, .int .i64 D3] 75) = Z at *
  clear hZ
  have hlz : w1.heap.size < Z.heap.size := cell_block_lt l0
  have hn0 : w1.heap.size ≠ Z.heap.size := by omega
  have hm0 : Z.heap.size ≠ w1.heap.size := by omega
  have hn1 : w1.heap.size ≠ Z.heap.size + 1 := by omega
  have hm1 : Z.heap.size + 1 ≠ w1.heap.size := by omega
  have hn2 : w1.heap.size ≠ Z.heap.size + 1 + 1 := by omega
  have hm2 : Z.heap.size + 1 + 1 ≠ w1.heap.size := by omega
  have hn3 : w1.heap.size ≠ Z.heap.size + 1 + 1 + 1 := by omega
  have hm3 : Z.heap.size + 1 + 1 + 1 ≠ w1.heap.size := by omega
  have hrz : w.heap.size + 1 + 1 + 1 < Z.heap.size := cell_block_lt r0
  have FR := Lib.hid (fun (X : World) (hX : Below Z.heap.size Z X) => (⟨tcell r0 hX, tcell r1 hX, tcell r2 hX, tcell r3 hX, fun o => (hX.frozen (p := ⟨w.heap.size + 1 + 1 + 1, o, none⟩) hrz).trans (hfr o)⟩ : X.cell? ⟨w.heap.size + 1 + 1 + 1, 0, none⟩ = some (.int .i64 0) ∧ X.cell? ⟨w.heap.size + 1 + 1 + 1, 1, none⟩ = some (.int .i64 0) ∧ X.cell? ⟨w.heap.size + 1 + 1 + 1, 2, none⟩ = some (.int .i64 0) ∧ X.cell? ⟨w.heap.size + 1 + 1 + 1, 3, none⟩ = some (.int .i64 0) ∧ ∀ o, X.frozen? ⟨w.heap.size + 1 + 1 + 1, o, none⟩ = false))
  have HRZ := Lib.hid hrz
  clear hfr r0 r1 r2 r3 hrl hrz
  have FL := Lib.hid (fun (X : World) (hX : Below Z.heap.size Z X) => (⟨tcell l0 hX, tcell l1 hX, tcell l2 hX, tcell l3 hX, tcell l4 hX, tcell l5 hX, tcell l6 hX, tcell l7 hX, tcell l8 hX, tcell l9 hX, tcell l10 hX, tcell l11 hX⟩ : X.cell? ⟨w1.heap.size, 0, none⟩ = some (.int .i64 A1) ∧ X.cell? ⟨w1.heap.size, 1, none⟩ = some (.int .i64 A2) ∧ X.cell? ⟨w1.heap.size, 2, none⟩ = some (.int .i64 A3) ∧ X.cell? ⟨w1.heap.size, 3, none⟩ = some (.int .i64 B1) ∧ X.cell? ⟨w1.heap.size, 4, none⟩ = some (.int .i64 B2) ∧ X.cell? ⟨w1.heap.size, 5, none⟩ = some (.int .i64 B3) ∧ X.cell? ⟨w1.heap.size, 6, none⟩ = some (.int .i64 C1) ∧ X.cell? ⟨w1.heap.size, 7, none⟩ = some (.int .i64 C2) ∧ X.cell? ⟨w1.heap.size, 8, none⟩ = some (.int .i64 C3) ∧ X.cell? ⟨w1.heap.size, 9, none⟩ = some (.int .i64 D1) ∧ X.cell? ⟨w1.heap.size, 10, none⟩ = some (.int .i64 D2) ∧ X.cell? ⟨w1.heap.size, 11, none⟩ = some (.int .i64 D3)))
  go_cut [9, 10, 11, 12] from 18 to 25 (fun p q r s wx => ∃ ga gb gc gd : Nat, p = .pointer (some ⟨ga, 0, none⟩) ∧ q = .pointer (some ⟨gb, 0, none⟩) ∧ r = .pointer (some ⟨gc, 0, none⟩) ∧ s = .pointer (some ⟨gd, 0, none⟩) ∧ Z.heap.size ≤ ga ∧ Z.heap.size ≤ gb ∧ Z.heap.size ≤ gc ∧ Z.heap.size ≤ gd ∧ Below Z.heap.size Z wx ∧
      (wx.cell? ⟨ga, 0, none⟩ = some (.int .i64 A1) ∧ wx.cell? ⟨ga, 1, none⟩ = some (.int .i64 A2) ∧ wx.cell? ⟨ga, 2, none⟩ = some (.int .i64 A3)) ∧ (wx.cell? ⟨gb, 0, none⟩ = some (.int .i64 B1) ∧ wx.cell? ⟨gb, 1, none⟩ = some (.int .i64 B2) ∧ wx.cell? ⟨gb, 2, none⟩ = some (.int .i64 B3)) ∧ (wx.cell? ⟨gc, 0, none⟩ = some (.int .i64 C1) ∧ wx.cell? ⟨gc, 1, none⟩ = some (.int .i64 C2) ∧ wx.cell? ⟨gc, 2, none⟩ = some (.int .i64 C3)) ∧ (wx.cell? ⟨gd, 0, none⟩ = some (.int .i64 D1) ∧ wx.cell? ⟨gd, 1, none⟩ = some (.int .i64 D2) ∧ wx.cell? ⟨gd, 2, none⟩ = some (.int .i64 D3)))
  case first =>
    go_region_held3 (fun w' => w'.cell? ⟨w1.heap.size, 0, none⟩ = some (.int .i64 A1) ∧ w'.cell? ⟨w1.heap.size, 1, none⟩ = some (.int .i64 A2) ∧ w'.cell? ⟨w1.heap.size, 2, none⟩ = some (.int .i64 A3) ∧ w'.cell? ⟨w1.heap.size, 3, none⟩ = some (.int .i64 B1) ∧ w'.cell? ⟨w1.heap.size, 4, none⟩ = some (.int .i64 B2) ∧ w'.cell? ⟨w1.heap.size, 5, none⟩ = some (.int .i64 B3) ∧ w'.cell? ⟨w1.heap.size, 6, none⟩ = some (.int .i64 C1) ∧ w'.cell? ⟨w1.heap.size, 7, none⟩ = some (.int .i64 C2) ∧ w'.cell? ⟨w1.heap.size, 8, none⟩ = some (.int .i64 C3) ∧ w'.cell? ⟨w1.heap.size, 9, none⟩ = some (.int .i64 D1) ∧ w'.cell? ⟨w1.heap.size, 10, none⟩ = some (.int .i64 D2) ∧ w'.cell? ⟨w1.heap.size, 11, none⟩ = some (.int .i64 D3))
      (first | (exact FL.out _ (Below.refl _ _)) | (exact FL.out _ (tbelowD (Below.refl _ _))) | (exact FL.out _ (cal (Below.refl _ _) _)) | (exact FL.out _ (tbelowD (cal (Below.refl _ _) _))) | (exact FL.out _ (cal (cal (Below.refl _ _) _) _)) | (exact FL.out _ (tbelowD (cal (cal (Below.refl _ _) _) _))) | (exact FL.out _ (cal (cal (cal (Below.refl _ _) _) _) _)) | (exact FL.out _ (tbelowD (cal (cal (cal (Below.refl _ _) _) _) _))) | (exact FL.out _ (cal (cal (cal (cal (Below.refl _ _) _) _) _) _)) | (exact FL.out _ (tbelowD (cal (cal (cal (cal (Below.refl _ _) _) _) _) _))) | go_keep | trivial)
      (fail)
    all_goals
      go_wp2_with fail
      go_meet
      case rel =>
        refine ⟨_, _, _, _, rfl, rfl, rfl, rfl, ?_, ?_, ?_, ?_, tbelowD (cal (cal (cal (cal (Below.refl _ _) _) _) _) _), ⟨?_, ?_, ?_⟩, ⟨?_, ?_, ?_⟩, ⟨?_, ?_, ?_⟩, ⟨?_, ?_, ?_⟩⟩ <;> first | omega | (simp <;> omega) | go_simp
  case rest =>
    obtain ⟨ga, gb, gc, gd, rfl, rfl, rfl, rfl, hga, hgb, hgc, hgd, hbw, ⟨a0, a1, a2⟩, ⟨b0, b1, b2⟩, ⟨c0, c1, c2⟩, ⟨d0, d1, d2⟩⟩ := hcut
    have F0 := Lib.hid (fun (X : World) (hX : Below wc.heap.size wc X) => (⟨tcell a0 hX, tcell a1 hX, tcell a2 hX, tcell b0 hX, tcell b1 hX, tcell b2 hX, tcell c0 hX, tcell c1 hX, tcell c2 hX, tcell d0 hX, tcell d1 hX, tcell d2 hX⟩ : X.cell? ⟨ga, 0, none⟩ = some (.int .i64 A1) ∧ X.cell? ⟨ga, 1, none⟩ = some (.int .i64 A2) ∧ X.cell? ⟨ga, 2, none⟩ = some (.int .i64 A3) ∧ X.cell? ⟨gb, 0, none⟩ = some (.int .i64 B1) ∧ X.cell? ⟨gb, 1, none⟩ = some (.int .i64 B2) ∧ X.cell? ⟨gb, 2, none⟩ = some (.int .i64 B3) ∧ X.cell? ⟨gc, 0, none⟩ = some (.int .i64 C1) ∧ X.cell? ⟨gc, 1, none⟩ = some (.int .i64 C2) ∧ X.cell? ⟨gc, 2, none⟩ = some (.int .i64 C3) ∧ X.cell? ⟨gd, 0, none⟩ = some (.int .i64 D1) ∧ X.cell? ⟨gd, 1, none⟩ = some (.int .i64 D2) ∧ X.cell? ⟨gd, 2, none⟩ = some (.int .i64 D3)))
    have FX := Lib.hid (fun (X : World) (hX : Below wc.heap.size wc X) => FR.out X (hbw.trans (hX.mono hbw.size)))
    have HB3 := Lib.hid (HB2.out.trans (hbw.mono HB2.out.size))
    have hrz := HRZ.out
    have har : ga ≠ w.heap.size + 1 + 1 + 1 := by omega
    have haq : w.heap.size + 1 + 1 + 1 ≠ ga := by omega
    have hbr : gb ≠ w.heap.size + 1 + 1 + 1 := by omega
    have hbq : w.heap.size + 1 + 1 + 1 ≠ gb := by omega
    have hcr : gc ≠ w.heap.size + 1 + 1 + 1 := by omega
    have hcq : w.heap.size + 1 + 1 + 1 ≠ gc := by omega
    have hdr : gd ≠ w.heap.size + 1 + 1 + 1 := by omega
    have hdq : w.heap.size + 1 + 1 + 1 ≠ gd := by omega
    have ZZ := Lib.hid (Below.refl wc.heap.size wc)
    clear hbw hga hgb hgc hgd hrz FR FL HRZ hlz HB2 l0 l1 l2 l3 l4 l5 l6 l7 l8 l9 l10 l11
    go_upto_region 3 with fail
    go_region_held3 (fun w' => w'.cell? ⟨ga, 0, none⟩ = some (.int .i64 A1) ∧ w'.cell? ⟨ga, 1, none⟩ = some (.int .i64 A2) ∧ w'.cell? ⟨ga, 2, none⟩ = some (.int .i64 A3) ∧ w'.cell? ⟨gb, 0, none⟩ = some (.int .i64 B1) ∧ w'.cell? ⟨gb, 1, none⟩ = some (.int .i64 B2) ∧ w'.cell? ⟨gb, 2, none⟩ = some (.int .i64 B3) ∧ w'.cell? ⟨gc, 0, none⟩ = some (.int .i64 C1) ∧ w'.cell? ⟨gc, 1, none⟩ = some (.int .i64 C2) ∧ w'.cell? ⟨gc, 2, none⟩ = some (.int .i64 C3) ∧ w'.cell? ⟨gd, 0, none⟩ = some (.int .i64 D1) ∧ w'.cell? ⟨gd, 1, none⟩ = some (.int .i64 D2) ∧ w'.cell? ⟨gd, 2, none⟩ = some (.int .i64 D3))
      (first | (exact F0.out _ ZZ.out) | (exact F0.out _ (tbelowD ZZ.out)) | (exact F0.out _ (below_drewN ZZ.out _)) | go_keep | trivial)
      (first
        | (go_at_call_of 39 (Value.int .i64 D1); go_at_call_of 39 (Value.int .i64 B1); go_at_call_of 39 (Value.int .i64 C1); refine (HDH.out _).mono ?_; rintro e y ⟨rfl, hy⟩; have ZZ : RowKit.Hid (Below wc.heap.size wc y) := Lib.hid (by first | exact cstep ZZ hy | exact cstepD ZZ hy); clear hy)
        | (go_at_call_of 39 (Value.int .i64 A1); go_at_call_of 39 (Value.int .i64 D1); go_at_call_of 39 (Value.int .i64 C1); refine (HDU.out _).mono ?_; rintro e y ⟨rfl, hy⟩; have ZZ : RowKit.Hid (Below wc.heap.size wc y) := Lib.hid (by first | exact cstep ZZ hy | exact cstepD ZZ hy); clear hy)
        | (go_at_call_of 39 (Value.int .i64 A1); go_at_call_of 39 (Value.int .i64 B1); go_at_call_of 39 (Value.int .i64 D1); refine (HDM.out _).mono ?_; rintro e y ⟨rfl, hy⟩; have ZZ : RowKit.Hid (Below wc.heap.size wc y) := Lib.hid (by first | exact cstep ZZ hy | exact cstepD ZZ hy); clear hy)
        | (go_at_call_of 39 (Value.int .i64 A1); go_at_call_of 39 (Value.int .i64 B1); go_at_call_of 39 (Value.int .i64 C1); refine (HDD.out _).mono ?_; rintro e y ⟨rfl, hy⟩; have ZZ : RowKit.Hid (Below wc.heap.size wc y) := Lib.hid (by first | exact cstep ZZ hy | exact cstepD ZZ hy); clear hy)
        | (go_at_call 38; refine (HMK.out _).mono ?_; rintro e y ⟨rfl, hy⟩; have ZZ : RowKit.Hid (Below wc.heap.size wc y) := Lib.hid (by first | exact cstep ZZ hy | exact cstepD ZZ hy); clear hy; obtain ⟨r0, r1, r2, r3, hfr⟩ := FX.out _ ZZ.out; obtain ⟨a0, a1, a2, b0, b1, b2, c0, c1, c2, d0, d1, d2⟩ := F0.out _ ZZ.out))
    all_goals
      have HBE := Lib.hid (HB3.out.trans (ZZ.out.mono HB3.out.size))
      go_wp2_with fail
      refine World.any (p := fun W => bodyPost _ _ _ _ _ W) (fun Q hW => ?_)
      have z0 : Q.cell? ⟨w.heap.size + 1 + 1 + 1, 0, none⟩ = some (.int .i64 ra) := by subst hW; go_simp
      have z1 : Q.cell? ⟨w.heap.size + 1 + 1 + 1, 1, none⟩ = some (.int .i64 rb) := by subst hW; go_simp
      have z2 : Q.cell? ⟨w.heap.size + 1 + 1 + 1, 2, none⟩ = some (.int .i64 rc) := by subst hW; go_simp
      have z3 : Q.cell? ⟨w.heap.size + 1 + 1 + 1, 3, none⟩ = some (.int .i64 re) := by subst hW; go_simp
      have HBW : Below w.heap.size w Q := by
        subst hW
        repeat refine Below.setCell ?_ (by simp <;> omega) _
        exact HBE.out
      refine bodyPost_ret (v := .tuple #[.agg #[.int .i64 ra, .int .i64 rb, .int .i64 rc, .int .i64 re], .bool rt]) (by simp [results, Try.results8, go_sem, z0, z1, z2, z3]) rfl ⟨by rw [HV.out], HBW⟩
end Go.Proofs.Ytibcalpkmjjilaa
