/- Three rows: the contracts of the model's functions on them. -/
import Derived.Test.YtbmlcfdilopmgaaGThree
import Derived.Test.YtbmlcfdilopmgaaGCond
import Derived.Test.YtbmlcfdilopmgaaGThrust
namespace Go.Proofs.Ytbmlcfdilopmgaa
set_option maxRecDepth 100000
open Go.ChangeShapes Go.WideShapes Go.ChangeAt Go.RowKit

set_option maxHeartbeats 2000000 in
theorem specDet (a b c d e f g h i : Int) (L : Nat) (w : World) (hL : L ≤ 1000000000000) (hx : DetBd L a b c d e f g h i) :
    Calls Try.prog 89 #[.agg #[.int .i64 a, .int .i64 b, .int .i64 c], .agg #[.int .i64 d, .int .i64 e, .int .i64 f], .agg #[.int .i64 g, .int .i64 h, .int .i64 i]] w fun e1 w' => e1 = .returned (.int .i64 (det3 a b c d e f g h i)) ∧ Below w.heap.size w w' := by
  have HB0 := Lib.hid ((((Below.refl w.heap.size w).alloc (Nat.le_refl _) (.cells #[.int .i64 a, .int .i64 b, .int .i64 c] 141)).alloc (by simp) (.cells #[.int .i64 d, .int .i64 e, .int .i64 f] 141)).alloc (by simp <;> omega) (.cells #[.int .i64 g, .int .i64 h, .int .i64 i] 141))
  obtain ⟨h1, h2, h3, h4, h5, h6, h7, h8, h9⟩ := hx
  have HV := Lib.hid (show det3 a b c d e f g h i = a * (e * i - f * h) - b * (d * i - f * g) + c * (d * h - e * g) from rfl)
  have w1 : IntKind.i64.wrap (e * i) = e * i := IntWalk.i64_in _ (by omega)
  have w2 : IntKind.i64.wrap (f * h) = f * h := IntWalk.i64_in _ (by omega)
  have w3 : IntKind.i64.wrap (d * i) = d * i := IntWalk.i64_in _ (by omega)
  have w4 : IntKind.i64.wrap (f * g) = f * g := IntWalk.i64_in _ (by omega)
  have w5 : IntKind.i64.wrap (d * h) = d * h := IntWalk.i64_in _ (by omega)
  have w6 : IntKind.i64.wrap (e * g) = e * g := IntWalk.i64_in _ (by omega)
  have w7 : IntKind.i64.wrap (e * i - f * h) = e * i - f * h := IntWalk.i64_in _ (by omega)
  have w8 : IntKind.i64.wrap (d * i - f * g) = d * i - f * g := IntWalk.i64_in _ (by omega)
  have w9 : IntKind.i64.wrap (d * h - e * g) = d * h - e * g := IntWalk.i64_in _ (by omega)
  have w10 : IntKind.i64.wrap (a * (e * i - f * h)) = a * (e * i - f * h) := IntWalk.i64_in _ (by omega)
  have w11 : IntKind.i64.wrap (b * (d * i - f * g)) = b * (d * i - f * g) := IntWalk.i64_in _ (by omega)
  have w12 : IntKind.i64.wrap (c * (d * h - e * g)) = c * (d * h - e * g) := IntWalk.i64_in _ (by omega)
  have w13 : IntKind.i64.wrap (a * (e * i - f * h) - b * (d * i - f * g)) = a * (e * i - f * h) - b * (d * i - f * g) := IntWalk.i64_in _ (by omega)
  have w14 : IntKind.i64.wrap (a * (e * i - f * h) - b * (d * i - f * g) + c * (d * h - e * g)) = a * (e * i - f * h) - b * (d * i - f * g) + c * (d * h - e * g) := IntWalk.i64_in _ (by omega)
  clear h1 h2 h3 h4 h5 h6 h7 h8 h9 hL
  go_enter Try.func89, Try.ntmps89
  go_wp2_with fail
  go_ret
  exact ⟨ret_i64 HV.out.symm, HB0.out⟩

theorem specLine (a b c d : Int) (w : World) :
    Calls Try.prog 96 #[.agg #[.int .i64 a, .int .i64 b, .int .i64 c, .int .i64 d]] w fun e w' => e = .returned (.agg #[.int .i64 a, .int .i64 b, .int .i64 c]) ∧ Below w.heap.size w w' := by
  go_enter Try.func96, Try.ntmps96
  go_wp2_with fail
  refine bodyPost_ret (v := .agg #[.int .i64 a, .int .i64 b, .int .i64 c]) (by simp [results, Try.results96, go_sem]) rfl ⟨rfl, ?_⟩
  repeat (first | refine Below.setCell ?_ (by simp <;> omega) _ | refine Below.alloc ?_ (by simp <;> omega) _ | exact Below.refl _ _)

set_option maxRecDepth 100000 in
set_option maxHeartbeats 4000000 in
theorem specDetOfRows (a1 b1 c1 d1 a2 b2 c2 d2 a3 b3 c3 d3 : Int) (w : World) :
    Calls Try.prog 88 #[.agg #[.int .i64 a1, .int .i64 b1, .int .i64 c1, .int .i64 d1], .agg #[.int .i64 a2, .int .i64 b2, .int .i64 c2, .int .i64 d2], .agg #[.int .i64 a3, .int .i64 b3, .int .i64 c3, .int .i64 d3]] w fun e1 w' => e1 = .returned (.int .i64 (dtV (a1, b1, c1, d1) (a2, b2, c2, d2) (a3, b3, c3, d3))) ∧ Below w.heap.size w w' := by
  have HB0 := Lib.hid ((((Below.refl w.heap.size w).alloc (Nat.le_refl _) (.cells #[.int .i64 a1, .int .i64 b1, .int .i64 c1, .int .i64 d1] 104)).alloc (by simp) (.cells #[.int .i64 a2, .int .i64 b2, .int .i64 c2, .int .i64 d2] 104)).alloc (by simp <;> omega) (.cells #[.int .i64 a3, .int .i64 b3, .int .i64 c3, .int .i64 d3] 104))
  have HR0 := Lib.hid (fun w => specRowOk a1 b1 c1 d1 w)
  have HR1 := Lib.hid (fun w => specRowOk a2 b2 c2 d2 w)
  have HR2 := Lib.hid (fun w => specRowOk a3 b3 c3 d3 w)
  obtain ⟨o1, ho1⟩ : ∃ o, cdOk a1 b1 c1 d1 = o := ⟨_, rfl⟩
  obtain ⟨o2, ho2⟩ : ∃ o, cdOk a2 b2 c2 d2 = o := ⟨_, rfl⟩
  obtain ⟨o3, ho3⟩ : ∃ o, cdOk a3 b3 c3 d3 = o := ⟨_, rfl⟩
  rw [ho1] at HR0
  rw [ho2] at HR1
  rw [ho3] at HR2
  cases o1 with
  | false =>
    have HV := Lib.hid (show dtV (a1, b1, c1, d1) (a2, b2, c2, d2) (a3, b3, c3, d3) = 0 from dtV_p ho1)
    clear ho1 ho2 ho3
    go_enter Try.func88, Try.ntmps88
    go_wp2_with fail
    refine (HR0.out _).mono ?_
    rintro e1 w1 ⟨rfl, hb1⟩
    have HB1 := Lib.hid (HB0.out.trans (hb1.mono HB0.out.size))
    clear hb1
    go_wp2_with fail
    go_ret
    exact ⟨ret_i64 HV.out.symm, HB1.out⟩
  | true =>
    cases o2 with
    | false =>
      have HV := Lib.hid (show dtV (a1, b1, c1, d1) (a2, b2, c2, d2) (a3, b3, c3, d3) = 0 from dtV_q ho2)
      clear ho1 ho2 ho3
      go_enter Try.func88, Try.ntmps88
      go_wp2_with fail
      refine (HR0.out _).mono ?_
      rintro e1 w1 ⟨rfl, hb1⟩
      have HB1 := Lib.hid (HB0.out.trans (hb1.mono HB0.out.size))
      have b00 : w1.cell? ⟨w.heap.size, 0, none⟩ = some (.int .i64 a1) := tcell (by go_simp) hb1
      have b01 : w1.cell? ⟨w.heap.size, 1, none⟩ = some (.int .i64 b1) := tcell (by go_simp) hb1
      have b02 : w1.cell? ⟨w.heap.size, 2, none⟩ = some (.int .i64 c1) := tcell (by go_simp) hb1
      have b03 : w1.cell? ⟨w.heap.size, 3, none⟩ = some (.int .i64 d1) := tcell (by go_simp) hb1
      have b10 : w1.cell? ⟨w.heap.size + 1, 0, none⟩ = some (.int .i64 a2) := tcell (by go_simp) hb1
      have b11 : w1.cell? ⟨w.heap.size + 1, 1, none⟩ = some (.int .i64 b2) := tcell (by go_simp) hb1
      have b12 : w1.cell? ⟨w.heap.size + 1, 2, none⟩ = some (.int .i64 c2) := tcell (by go_simp) hb1
      have b13 : w1.cell? ⟨w.heap.size + 1, 3, none⟩ = some (.int .i64 d2) := tcell (by go_simp) hb1
      have b20 : w1.cell? ⟨w.heap.size + 1 + 1, 0, none⟩ = some (.int .i64 a3) := tcell (by go_simp) hb1
      have b21 : w1.cell? ⟨w.heap.size + 1 + 1, 1, none⟩ = some (.int .i64 b3) := tcell (by go_simp) hb1
      have b22 : w1.cell? ⟨w.heap.size + 1 + 1, 2, none⟩ = some (.int .i64 c3) := tcell (by go_simp) hb1
      have b23 : w1.cell? ⟨w.heap.size + 1 + 1, 3, none⟩ = some (.int .i64 d3) := tcell (by go_simp) hb1
      clear hb1
      go_wp2_with fail
      refine (HR1.out _).mono ?_
      rintro e1 w2 ⟨rfl, hb2⟩
      have HB2 := Lib.hid (HB1.out.trans (hb2.mono HB1.out.size))
      clear hb2
      go_wp2_with fail
      go_ret
      exact ⟨ret_i64 HV.out.symm, HB2.out⟩
    | true =>
      cases o3 with
      | false =>
        have HV := Lib.hid (show dtV (a1, b1, c1, d1) (a2, b2, c2, d2) (a3, b3, c3, d3) = 0 from dtV_r ho3)
        clear ho1 ho2 ho3
        go_enter Try.func88, Try.ntmps88
        go_wp2_with fail
        refine (HR0.out _).mono ?_
        rintro e1 w1 ⟨rfl, hb1⟩
        have HB1 := Lib.hid (HB0.out.trans (hb1.mono HB0.out.size))
        have b00 : w1.cell? ⟨w.heap.size, 0, none⟩ = some (.int .i64 a1) := tcell (by go_simp) hb1
        have b01 : w1.cell? ⟨w.heap.size, 1, none⟩ = some (.int .i64 b1) := tcell (by go_simp) hb1
        have b02 : w1.cell? ⟨w.heap.size, 2, none⟩ = some (.int .i64 c1) := tcell (by go_simp) hb1
        have b03 : w1.cell? ⟨w.heap.size, 3, none⟩ = some (.int .i64 d1) := tcell (by go_simp) hb1
        have b10 : w1.cell? ⟨w.heap.size + 1, 0, none⟩ = some (.int .i64 a2) := tcell (by go_simp) hb1
        have b11 : w1.cell? ⟨w.heap.size + 1, 1, none⟩ = some (.int .i64 b2) := tcell (by go_simp) hb1
        have b12 : w1.cell? ⟨w.heap.size + 1, 2, none⟩ = some (.int .i64 c2) := tcell (by go_simp) hb1
        have b13 : w1.cell? ⟨w.heap.size + 1, 3, none⟩ = some (.int .i64 d2) := tcell (by go_simp) hb1
        have b20 : w1.cell? ⟨w.heap.size + 1 + 1, 0, none⟩ = some (.int .i64 a3) := tcell (by go_simp) hb1
        have b21 : w1.cell? ⟨w.heap.size + 1 + 1, 1, none⟩ = some (.int .i64 b3) := tcell (by go_simp) hb1
        have b22 : w1.cell? ⟨w.heap.size + 1 + 1, 2, none⟩ = some (.int .i64 c3) := tcell (by go_simp) hb1
        have b23 : w1.cell? ⟨w.heap.size + 1 + 1, 3, none⟩ = some (.int .i64 d3) := tcell (by go_simp) hb1
        clear hb1
        go_wp2_with fail
        refine (HR1.out _).mono ?_
        rintro e1 w2 ⟨rfl, hb2⟩
        have HB2 := Lib.hid (HB1.out.trans (hb2.mono HB1.out.size))
        have b00 : w2.cell? ⟨w.heap.size, 0, none⟩ = some (.int .i64 a1) := tcell b00 hb2
        have b01 : w2.cell? ⟨w.heap.size, 1, none⟩ = some (.int .i64 b1) := tcell b01 hb2
        have b02 : w2.cell? ⟨w.heap.size, 2, none⟩ = some (.int .i64 c1) := tcell b02 hb2
        have b03 : w2.cell? ⟨w.heap.size, 3, none⟩ = some (.int .i64 d1) := tcell b03 hb2
        have b10 : w2.cell? ⟨w.heap.size + 1, 0, none⟩ = some (.int .i64 a2) := tcell b10 hb2
        have b11 : w2.cell? ⟨w.heap.size + 1, 1, none⟩ = some (.int .i64 b2) := tcell b11 hb2
        have b12 : w2.cell? ⟨w.heap.size + 1, 2, none⟩ = some (.int .i64 c2) := tcell b12 hb2
        have b13 : w2.cell? ⟨w.heap.size + 1, 3, none⟩ = some (.int .i64 d2) := tcell b13 hb2
        have b20 : w2.cell? ⟨w.heap.size + 1 + 1, 0, none⟩ = some (.int .i64 a3) := tcell b20 hb2
        have b21 : w2.cell? ⟨w.heap.size + 1 + 1, 1, none⟩ = some (.int .i64 b3) := tcell b21 hb2
        have b22 : w2.cell? ⟨w.heap.size + 1 + 1, 2, none⟩ = some (.int .i64 c3) := tcell b22 hb2
        have b23 : w2.cell? ⟨w.heap.size + 1 + 1, 3, none⟩ = some (.int .i64 d3) := tcell b23 hb2
        clear hb2
        go_wp2_with fail
        refine (HR2.out _).mono ?_
        rintro e1 w3 ⟨rfl, hb3⟩
        have HB3 := Lib.hid (HB2.out.trans (hb3.mono HB2.out.size))
        clear hb3
        go_wp2_with fail
        go_ret
        exact ⟨ret_i64 HV.out.symm, HB3.out⟩
      | true =>
        have HV := Lib.hid (show dtV (a1, b1, c1, d1) (a2, b2, c2, d2) (a3, b3, c3, d3) = det3 a1 b1 c1 a2 b2 c2 a3 b3 c3 from dtV_yes ho1 ho2 ho3)
        have HD := Lib.hid (fun w => specDet a1 b1 c1 a2 b2 c2 a3 b3 c3 10000 w (by omega) (dtR_bd (p := (a1, b1, c1, d1)) (q := (a2, b2, c2, d2)) (r := (a3, b3, c3, d3)) ho1 ho2 ho3))
        have HL0 := Lib.hid (fun w => specLine a1 b1 c1 d1 w)
        have HL1 := Lib.hid (fun w => specLine a2 b2 c2 d2 w)
        have HL2 := Lib.hid (fun w => specLine a3 b3 c3 d3 w)
        clear ho1 ho2 ho3
        go_enter Try.func88, Try.ntmps88
        go_wp2_with fail
        refine (HR0.out _).mono ?_
        rintro e1 w1 ⟨rfl, hb1⟩
        have HB1 := Lib.hid (HB0.out.trans (hb1.mono HB0.out.size))
        have b00 : w1.cell? ⟨w.heap.size, 0, none⟩ = some (.int .i64 a1) := tcell (by go_simp) hb1
        have b01 : w1.cell? ⟨w.heap.size, 1, none⟩ = some (.int .i64 b1) := tcell (by go_simp) hb1
        have b02 : w1.cell? ⟨w.heap.size, 2, none⟩ = some (.int .i64 c1) := tcell (by go_simp) hb1
        have b03 : w1.cell? ⟨w.heap.size, 3, none⟩ = some (.int .i64 d1) := tcell (by go_simp) hb1
        have b10 : w1.cell? ⟨w.heap.size + 1, 0, none⟩ = some (.int .i64 a2) := tcell (by go_simp) hb1
        have b11 : w1.cell? ⟨w.heap.size + 1, 1, none⟩ = some (.int .i64 b2) := tcell (by go_simp) hb1
        have b12 : w1.cell? ⟨w.heap.size + 1, 2, none⟩ = some (.int .i64 c2) := tcell (by go_simp) hb1
        have b13 : w1.cell? ⟨w.heap.size + 1, 3, none⟩ = some (.int .i64 d2) := tcell (by go_simp) hb1
        have b20 : w1.cell? ⟨w.heap.size + 1 + 1, 0, none⟩ = some (.int .i64 a3) := tcell (by go_simp) hb1
        have b21 : w1.cell? ⟨w.heap.size + 1 + 1, 1, none⟩ = some (.int .i64 b3) := tcell (by go_simp) hb1
        have b22 : w1.cell? ⟨w.heap.size + 1 + 1, 2, none⟩ = some (.int .i64 c3) := tcell (by go_simp) hb1
        have b23 : w1.cell? ⟨w.heap.size + 1 + 1, 3, none⟩ = some (.int .i64 d3) := tcell (by go_simp) hb1
        clear hb1
        go_wp2_with fail
        refine (HR1.out _).mono ?_
        rintro e1 w2 ⟨rfl, hb2⟩
        have HB2 := Lib.hid (HB1.out.trans (hb2.mono HB1.out.size))
        have b00 : w2.cell? ⟨w.heap.size, 0, none⟩ = some (.int .i64 a1) := tcell b00 hb2
        have b01 : w2.cell? ⟨w.heap.size, 1, none⟩ = some (.int .i64 b1) := tcell b01 hb2
        have b02 : w2.cell? ⟨w.heap.size, 2, none⟩ = some (.int .i64 c1) := tcell b02 hb2
        have b03 : w2.cell? ⟨w.heap.size, 3, none⟩ = some (.int .i64 d1) := tcell b03 hb2
        have b10 : w2.cell? ⟨w.heap.size + 1, 0, none⟩ = some (.int .i64 a2) := tcell b10 hb2
        have b11 : w2.cell? ⟨w.heap.size + 1, 1, none⟩ = some (.int .i64 b2) := tcell b11 hb2
        have b12 : w2.cell? ⟨w.heap.size + 1, 2, none⟩ = some (.int .i64 c2) := tcell b12 hb2
        have b13 : w2.cell? ⟨w.heap.size + 1, 3, none⟩ = some (.int .i64 d2) := tcell b13 hb2
        have b20 : w2.cell? ⟨w.heap.size + 1 + 1, 0, none⟩ = some (.int .i64 a3) := tcell b20 hb2
        have b21 : w2.cell? ⟨w.heap.size + 1 + 1, 1, none⟩ = some (.int .i64 b3) := tcell b21 hb2
        have b22 : w2.cell? ⟨w.heap.size + 1 + 1, 2, none⟩ = some (.int .i64 c3) := tcell b22 hb2
        have b23 : w2.cell? ⟨w.heap.size + 1 + 1, 3, none⟩ = some (.int .i64 d3) := tcell b23 hb2
        clear hb2
        go_wp2_with fail
        refine (HR2.out _).mono ?_
        rintro e1 w3 ⟨rfl, hb3⟩
        have HB3 := Lib.hid (HB2.out.trans (hb3.mono HB2.out.size))
        have b00 : w3.cell? ⟨w.heap.size, 0, none⟩ = some (.int .i64 a1) := tcell b00 hb3
        have b01 : w3.cell? ⟨w.heap.size, 1, none⟩ = some (.int .i64 b1) := tcell b01 hb3
        have b02 : w3.cell? ⟨w.heap.size, 2, none⟩ = some (.int .i64 c1) := tcell b02 hb3
        have b03 : w3.cell? ⟨w.heap.size, 3, none⟩ = some (.int .i64 d1) := tcell b03 hb3
        have b10 : w3.cell? ⟨w.heap.size + 1, 0, none⟩ = some (.int .i64 a2) := tcell b10 hb3
        have b11 : w3.cell? ⟨w.heap.size + 1, 1, none⟩ = some (.int .i64 b2) := tcell b11 hb3
        have b12 : w3.cell? ⟨w.heap.size + 1, 2, none⟩ = some (.int .i64 c2) := tcell b12 hb3
        have b13 : w3.cell? ⟨w.heap.size + 1, 3, none⟩ = some (.int .i64 d2) := tcell b13 hb3
        have b20 : w3.cell? ⟨w.heap.size + 1 + 1, 0, none⟩ = some (.int .i64 a3) := tcell b20 hb3
        have b21 : w3.cell? ⟨w.heap.size + 1 + 1, 1, none⟩ = some (.int .i64 b3) := tcell b21 hb3
        have b22 : w3.cell? ⟨w.heap.size + 1 + 1, 2, none⟩ = some (.int .i64 c3) := tcell b22 hb3
        have b23 : w3.cell? ⟨w.heap.size + 1 + 1, 3, none⟩ = some (.int .i64 d3) := tcell b23 hb3
        clear hb3
        have hn1 := Since.nonempty w3
        have s00 := fun (x : Since w3) => (x.cell (w.heap.size) 0 (cell_block_lt b00)).trans b00
        have s01 := fun (x : Since w3) => (x.cell (w.heap.size) 1 (cell_block_lt b01)).trans b01
        have s02 := fun (x : Since w3) => (x.cell (w.heap.size) 2 (cell_block_lt b02)).trans b02
        have s03 := fun (x : Since w3) => (x.cell (w.heap.size) 3 (cell_block_lt b03)).trans b03
        have s10 := fun (x : Since w3) => (x.cell (w.heap.size + 1) 0 (cell_block_lt b10)).trans b10
        have s11 := fun (x : Since w3) => (x.cell (w.heap.size + 1) 1 (cell_block_lt b11)).trans b11
        have s12 := fun (x : Since w3) => (x.cell (w.heap.size + 1) 2 (cell_block_lt b12)).trans b12
        have s13 := fun (x : Since w3) => (x.cell (w.heap.size + 1) 3 (cell_block_lt b13)).trans b13
        have s20 := fun (x : Since w3) => (x.cell (w.heap.size + 1 + 1) 0 (cell_block_lt b20)).trans b20
        have s21 := fun (x : Since w3) => (x.cell (w.heap.size + 1 + 1) 1 (cell_block_lt b21)).trans b21
        have s22 := fun (x : Since w3) => (x.cell (w.heap.size + 1 + 1) 2 (cell_block_lt b22)).trans b22
        have s23 := fun (x : Since w3) => (x.cell (w.heap.size + 1 + 1) 3 (cell_block_lt b23)).trans b23
        go_wp2_with fail
        refine wp_region_since (by kernel_rfl) (by kernel_rfl) ?_
        repeat (go_big_quiet_step (first
          | (go_at_call_of 96 (Value.int .i64 a1); exact Since.call (HL0.out _))
          | (go_at_call_of 96 (Value.int .i64 a2); exact Since.call (HL1.out _))
          | (go_at_call_of 96 (Value.int .i64 a3); exact Since.call (HL2.out _))
          | (go_at_call 89; exact Since.call (HD.out _))))
        refine wpQuiet_nil ?_
        rintro w4 ⟨⟨_, hb4⟩, rfl⟩
        have HB4 := Lib.hid (HB3.out.trans (hb4.mono HB3.out.size))
        clear hb4 s00 s01 s02 s03 s10 s11 s12 s13 s20 s21 s22 s23 b00 b01 b02 b03 b10 b11 b12 b13 b20 b21 b22 b23 hn1
        go_wp2_with fail
        go_ret
        exact ⟨ret_i64 HV.out.symm, HB4.out⟩

set_option maxRecDepth 100000 in
set_option maxHeartbeats 4000000 in
theorem specSolveRows (a1 b1 c1 d1 a2 b2 c2 d2 a3 b3 c3 d3 : Int) (w : World) :
    Calls Try.prog 74 #[.agg #[.int .i64 a1, .int .i64 b1, .int .i64 c1, .int .i64 d1], .agg #[.int .i64 a2, .int .i64 b2, .int .i64 c2, .int .i64 d2], .agg #[.int .i64 a3, .int .i64 b3, .int .i64 c3, .int .i64 d3]] w fun e1 w' => e1 = .returned (mkV (dtH (a1, b1, c1, d1) (a2, b2, c2, d2) (a3, b3, c3, d3)) (dtU (a1, b1, c1, d1) (a2, b2, c2, d2) (a3, b3, c3, d3)) (dtM (a1, b1, c1, d1) (a2, b2, c2, d2) (a3, b3, c3, d3)) (dtV (a1, b1, c1, d1) (a2, b2, c2, d2) (a3, b3, c3, d3))) ∧ Below w.heap.size w w' := by
  have HB0 := Lib.hid (((((Below.refl w.heap.size w).alloc (Nat.le_refl _) (.cells #[.int .i64 a1, .int .i64 b1, .int .i64 c1, .int .i64 d1] 104)).alloc (by simp) (.cells #[.int .i64 a2, .int .i64 b2, .int .i64 c2, .int .i64 d2] 104)).alloc (by simp <;> omega) (.cells #[.int .i64 a3, .int .i64 b3, .int .i64 c3, .int .i64 d3] 104)).alloc (by simp <;> omega) (.cells #[.int .i64 0, .int .i64 0, .int .i64 0, .int .i64 0] 31))
  have HDD := Lib.hid (fun w => specDetOfRows a1 b1 c1 d1 a2 b2 c2 d2 a3 b3 c3 d3 w)
  by_cases hd0 : dtV (a1, b1, c1, d1) (a2, b2, c2, d2) (a3, b3, c3, d3) = 0
  · have HV := Lib.hid (show mkV (dtH (a1, b1, c1, d1) (a2, b2, c2, d2) (a3, b3, c3, d3)) (dtU (a1, b1, c1, d1) (a2, b2, c2, d2) (a3, b3, c3, d3)) (dtM (a1, b1, c1, d1) (a2, b2, c2, d2) (a3, b3, c3, d3)) (dtV (a1, b1, c1, d1) (a2, b2, c2, d2) (a3, b3, c3, d3)) = .tuple #[.agg #[.int .i64 0, .int .i64 0, .int .i64 0, .int .i64 0], .bool false] by rw [hd0]; exact mkV_no mkB_zero)
    rw [hd0] at HDD
    clear hd0
    go_enter Try.func74, Try.ntmps74
    go_wp2_with fail
    refine (HDD.out _).mono ?_
    rintro e1 w1 ⟨rfl, hb1⟩
    have HB1 := Lib.hid (HB0.out.trans (hb1.mono HB0.out.size))
    have r0 : w1.cell? ⟨w.heap.size + 1 + 1 + 1, 0, none⟩ = some (.int .i64 0) := tcell (by go_simp) hb1
    have r1 : w1.cell? ⟨w.heap.size + 1 + 1 + 1, 1, none⟩ = some (.int .i64 0) := tcell (by go_simp) hb1
    have r2 : w1.cell? ⟨w.heap.size + 1 + 1 + 1, 2, none⟩ = some (.int .i64 0) := tcell (by go_simp) hb1
    have r3 : w1.cell? ⟨w.heap.size + 1 + 1 + 1, 3, none⟩ = some (.int .i64 0) := tcell (by go_simp) hb1
    have hfr1 : ∀ o, w1.frozen? ⟨w.heap.size + 1 + 1 + 1, o, none⟩ = false := fun o => (hb1.frozen (p := ⟨w.heap.size + 1 + 1 + 1, o, none⟩) (by simp <;> omega)).trans (by go_simp)
    clear hb1
    go_wp2_with fail
    refine World.any (p := fun W => bodyPost _ _ _ _ _ W) (fun Q hW => ?_)
    have z0 : Q.cell? ⟨w.heap.size + 1 + 1 + 1, 0, none⟩ = some (.int .i64 0) := by subst hW; go_simp
    have z1 : Q.cell? ⟨w.heap.size + 1 + 1 + 1, 1, none⟩ = some (.int .i64 0) := by subst hW; go_simp
    have z2 : Q.cell? ⟨w.heap.size + 1 + 1 + 1, 2, none⟩ = some (.int .i64 0) := by subst hW; go_simp
    have z3 : Q.cell? ⟨w.heap.size + 1 + 1 + 1, 3, none⟩ = some (.int .i64 0) := by subst hW; go_simp
    have HBW : Below w.heap.size w Q := by
      subst hW
      repeat refine Below.setCell ?_ (by simp <;> omega) _
      exact HB1.out
    refine bodyPost_ret (v := .tuple #[.agg #[.int .i64 0, .int .i64 0, .int .i64 0, .int .i64 0], .bool false]) (by simp [results, Try.results74, go_sem, z0, z1, z2, z3]) rfl ⟨by rw [HV.out], HBW⟩
  · have hok := dtV_ok hd0
    obtain ⟨hp, hq, hr⟩ := hok
    have HDH := Lib.hid (fun w => specDet d1 b1 c1 d2 b2 c2 d3 b3 c3 100000000000 w (by omega) (dtH_bd hp hq hr))
    rw [show det3 d1 b1 c1 d2 b2 c2 d3 b3 c3 = dtH (a1, b1, c1, d1) (a2, b2, c2, d2) (a3, b3, c3, d3) from rfl] at HDH
    have HDU := Lib.hid (fun w => specDet a1 d1 c1 a2 d2 c2 a3 d3 c3 100000000000 w (by omega) (dtU_bd hp hq hr))
    rw [show det3 a1 d1 c1 a2 d2 c2 a3 d3 c3 = dtU (a1, b1, c1, d1) (a2, b2, c2, d2) (a3, b3, c3, d3) from rfl] at HDU
    have HDM := Lib.hid (fun w => specDet a1 b1 d1 a2 b2 d2 a3 b3 d3 100000000000 w (by omega) (dtM_bd hp hq hr))
    rw [show det3 a1 b1 d1 a2 b2 d2 a3 b3 d3 = dtM (a1, b1, c1, d1) (a2, b2, c2, d2) (a3, b3, c3, d3) from rfl] at HDM
    clear hp hq hr
    generalize dtH (a1, b1, c1, d1) (a2, b2, c2, d2) (a3, b3, c3, d3) = xH at *
    generalize dtU (a1, b1, c1, d1) (a2, b2, c2, d2) (a3, b3, c3, d3) = xU at *
    generalize dtM (a1, b1, c1, d1) (a2, b2, c2, d2) (a3, b3, c3, d3) = xM at *
    generalize dtV (a1, b1, c1, d1) (a2, b2, c2, d2) (a3, b3, c3, d3) = xD at *
    have hd1 : (xD == 0) = false := by simpa using hd0
    obtain ⟨ra, rb, rc, re, rt, hr⟩ := mkV_any xH xU xM xD
    have HMK := Lib.hid (fun w => specMake xH xU xM xD w)
    rw [hr] at HMK
    have HV := Lib.hid hr
    clear hr
    go_enter Try.func74, Try.ntmps74
    go_wp2_with fail
    refine (HDD.out _).mono ?_
    rintro e1 w1 ⟨rfl, hb1⟩
    have HB1 := Lib.hid (HB0.out.trans (hb1.mono HB0.out.size))
    have b00 : w1.cell? ⟨w.heap.size, 0, none⟩ = some (.int .i64 a1) := tcell (by go_simp) hb1
    have b01 : w1.cell? ⟨w.heap.size, 1, none⟩ = some (.int .i64 b1) := tcell (by go_simp) hb1
    have b02 : w1.cell? ⟨w.heap.size, 2, none⟩ = some (.int .i64 c1) := tcell (by go_simp) hb1
    have b03 : w1.cell? ⟨w.heap.size, 3, none⟩ = some (.int .i64 d1) := tcell (by go_simp) hb1
    have b10 : w1.cell? ⟨w.heap.size + 1, 0, none⟩ = some (.int .i64 a2) := tcell (by go_simp) hb1
    have b11 : w1.cell? ⟨w.heap.size + 1, 1, none⟩ = some (.int .i64 b2) := tcell (by go_simp) hb1
    have b12 : w1.cell? ⟨w.heap.size + 1, 2, none⟩ = some (.int .i64 c2) := tcell (by go_simp) hb1
    have b13 : w1.cell? ⟨w.heap.size + 1, 3, none⟩ = some (.int .i64 d2) := tcell (by go_simp) hb1
    have b20 : w1.cell? ⟨w.heap.size + 1 + 1, 0, none⟩ = some (.int .i64 a3) := tcell (by go_simp) hb1
    have b21 : w1.cell? ⟨w.heap.size + 1 + 1, 1, none⟩ = some (.int .i64 b3) := tcell (by go_simp) hb1
    have b22 : w1.cell? ⟨w.heap.size + 1 + 1, 2, none⟩ = some (.int .i64 c3) := tcell (by go_simp) hb1
    have b23 : w1.cell? ⟨w.heap.size + 1 + 1, 3, none⟩ = some (.int .i64 d3) := tcell (by go_simp) hb1
    have r0 : w1.cell? ⟨w.heap.size + 1 + 1 + 1, 0, none⟩ = some (.int .i64 0) := tcell (by go_simp) hb1
    have r1 : w1.cell? ⟨w.heap.size + 1 + 1 + 1, 1, none⟩ = some (.int .i64 0) := tcell (by go_simp) hb1
    have r2 : w1.cell? ⟨w.heap.size + 1 + 1 + 1, 2, none⟩ = some (.int .i64 0) := tcell (by go_simp) hb1
    have r3 : w1.cell? ⟨w.heap.size + 1 + 1 + 1, 3, none⟩ = some (.int .i64 0) := tcell (by go_simp) hb1
    have hfr1 : ∀ o, w1.frozen? ⟨w.heap.size + 1 + 1 + 1, o, none⟩ = false := fun o => (hb1.frozen (p := ⟨w.heap.size + 1 + 1 + 1, o, none⟩) (by simp <;> omega)).trans (by go_simp)
    have hrl1 : w.heap.size + 1 + 1 + 1 < w1.heap.size := cell_block_lt r0
    clear hb1
    go_wp2_with fail
    refine (HDH.out _).mono ?_
    rintro e1 w2 ⟨rfl, hb2⟩
    have HB2 := Lib.hid (HB1.out.trans (hb2.mono HB1.out.size))
    have b00 : w2.cell? ⟨w.heap.size, 0, none⟩ = some (.int .i64 a1) := tcell b00 hb2
    have b01 : w2.cell? ⟨w.heap.size, 1, none⟩ = some (.int .i64 b1) := tcell b01 hb2
    have b02 : w2.cell? ⟨w.heap.size, 2, none⟩ = some (.int .i64 c1) := tcell b02 hb2
    have b03 : w2.cell? ⟨w.heap.size, 3, none⟩ = some (.int .i64 d1) := tcell b03 hb2
    have b10 : w2.cell? ⟨w.heap.size + 1, 0, none⟩ = some (.int .i64 a2) := tcell b10 hb2
    have b11 : w2.cell? ⟨w.heap.size + 1, 1, none⟩ = some (.int .i64 b2) := tcell b11 hb2
    have b12 : w2.cell? ⟨w.heap.size + 1, 2, none⟩ = some (.int .i64 c2) := tcell b12 hb2
    have b13 : w2.cell? ⟨w.heap.size + 1, 3, none⟩ = some (.int .i64 d2) := tcell b13 hb2
    have b20 : w2.cell? ⟨w.heap.size + 1 + 1, 0, none⟩ = some (.int .i64 a3) := tcell b20 hb2
    have b21 : w2.cell? ⟨w.heap.size + 1 + 1, 1, none⟩ = some (.int .i64 b3) := tcell b21 hb2
    have b22 : w2.cell? ⟨w.heap.size + 1 + 1, 2, none⟩ = some (.int .i64 c3) := tcell b22 hb2
    have b23 : w2.cell? ⟨w.heap.size + 1 + 1, 3, none⟩ = some (.int .i64 d3) := tcell b23 hb2
    have r0 : w2.cell? ⟨w.heap.size + 1 + 1 + 1, 0, none⟩ = some (.int .i64 0) := tcell r0 hb2
    have r1 : w2.cell? ⟨w.heap.size + 1 + 1 + 1, 1, none⟩ = some (.int .i64 0) := tcell r1 hb2
    have r2 : w2.cell? ⟨w.heap.size + 1 + 1 + 1, 2, none⟩ = some (.int .i64 0) := tcell r2 hb2
    have r3 : w2.cell? ⟨w.heap.size + 1 + 1 + 1, 3, none⟩ = some (.int .i64 0) := tcell r3 hb2
    have hfr2 : ∀ o, w2.frozen? ⟨w.heap.size + 1 + 1 + 1, o, none⟩ = false := fun o => (hb2.frozen (p := ⟨w.heap.size + 1 + 1 + 1, o, none⟩) (hrl1)).trans (hfr1 o)
    have hrl2 : w.heap.size + 1 + 1 + 1 < w2.heap.size := cell_block_lt r0
    clear hb2 hfr1 hrl1
    go_wp2_with fail
    refine (HDU.out _).mono ?_
    rintro e1 w3 ⟨rfl, hb3⟩
    have HB3 := Lib.hid (HB2.out.trans (hb3.mono HB2.out.size))
    have b00 : w3.cell? ⟨w.heap.size, 0, none⟩ = some (.int .i64 a1) := tcell b00 hb3
    have b01 : w3.cell? ⟨w.heap.size, 1, none⟩ = some (.int .i64 b1) := tcell b01 hb3
    have b02 : w3.cell? ⟨w.heap.size, 2, none⟩ = some (.int .i64 c1) := tcell b02 hb3
    have b03 : w3.cell? ⟨w.heap.size, 3, none⟩ = some (.int .i64 d1) := tcell b03 hb3
    have b10 : w3.cell? ⟨w.heap.size + 1, 0, none⟩ = some (.int .i64 a2) := tcell b10 hb3
    have b11 : w3.cell? ⟨w.heap.size + 1, 1, none⟩ = some (.int .i64 b2) := tcell b11 hb3
    have b12 : w3.cell? ⟨w.heap.size + 1, 2, none⟩ = some (.int .i64 c2) := tcell b12 hb3
    have b13 : w3.cell? ⟨w.heap.size + 1, 3, none⟩ = some (.int .i64 d2) := tcell b13 hb3
    have b20 : w3.cell? ⟨w.heap.size + 1 + 1, 0, none⟩ = some (.int .i64 a3) := tcell b20 hb3
    have b21 : w3.cell? ⟨w.heap.size + 1 + 1, 1, none⟩ = some (.int .i64 b3) := tcell b21 hb3
    have b22 : w3.cell? ⟨w.heap.size + 1 + 1, 2, none⟩ = some (.int .i64 c3) := tcell b22 hb3
    have b23 : w3.cell? ⟨w.heap.size + 1 + 1, 3, none⟩ = some (.int .i64 d3) := tcell b23 hb3
    have r0 : w3.cell? ⟨w.heap.size + 1 + 1 + 1, 0, none⟩ = some (.int .i64 0) := tcell r0 hb3
    have r1 : w3.cell? ⟨w.heap.size + 1 + 1 + 1, 1, none⟩ = some (.int .i64 0) := tcell r1 hb3
    have r2 : w3.cell? ⟨w.heap.size + 1 + 1 + 1, 2, none⟩ = some (.int .i64 0) := tcell r2 hb3
    have r3 : w3.cell? ⟨w.heap.size + 1 + 1 + 1, 3, none⟩ = some (.int .i64 0) := tcell r3 hb3
    have hfr3 : ∀ o, w3.frozen? ⟨w.heap.size + 1 + 1 + 1, o, none⟩ = false := fun o => (hb3.frozen (p := ⟨w.heap.size + 1 + 1 + 1, o, none⟩) (hrl2)).trans (hfr2 o)
    have hrl3 : w.heap.size + 1 + 1 + 1 < w3.heap.size := cell_block_lt r0
    clear hb3 hfr2 hrl2
    go_wp2_with fail
    refine (HDM.out _).mono ?_
    rintro e1 w4 ⟨rfl, hb4⟩
    have HB4 := Lib.hid (HB3.out.trans (hb4.mono HB3.out.size))
    have b00 : w4.cell? ⟨w.heap.size, 0, none⟩ = some (.int .i64 a1) := tcell b00 hb4
    have b01 : w4.cell? ⟨w.heap.size, 1, none⟩ = some (.int .i64 b1) := tcell b01 hb4
    have b02 : w4.cell? ⟨w.heap.size, 2, none⟩ = some (.int .i64 c1) := tcell b02 hb4
    have b03 : w4.cell? ⟨w.heap.size, 3, none⟩ = some (.int .i64 d1) := tcell b03 hb4
    have b10 : w4.cell? ⟨w.heap.size + 1, 0, none⟩ = some (.int .i64 a2) := tcell b10 hb4
    have b11 : w4.cell? ⟨w.heap.size + 1, 1, none⟩ = some (.int .i64 b2) := tcell b11 hb4
    have b12 : w4.cell? ⟨w.heap.size + 1, 2, none⟩ = some (.int .i64 c2) := tcell b12 hb4
    have b13 : w4.cell? ⟨w.heap.size + 1, 3, none⟩ = some (.int .i64 d2) := tcell b13 hb4
    have b20 : w4.cell? ⟨w.heap.size + 1 + 1, 0, none⟩ = some (.int .i64 a3) := tcell b20 hb4
    have b21 : w4.cell? ⟨w.heap.size + 1 + 1, 1, none⟩ = some (.int .i64 b3) := tcell b21 hb4
    have b22 : w4.cell? ⟨w.heap.size + 1 + 1, 2, none⟩ = some (.int .i64 c3) := tcell b22 hb4
    have b23 : w4.cell? ⟨w.heap.size + 1 + 1, 3, none⟩ = some (.int .i64 d3) := tcell b23 hb4
    have r0 : w4.cell? ⟨w.heap.size + 1 + 1 + 1, 0, none⟩ = some (.int .i64 0) := tcell r0 hb4
    have r1 : w4.cell? ⟨w.heap.size + 1 + 1 + 1, 1, none⟩ = some (.int .i64 0) := tcell r1 hb4
    have r2 : w4.cell? ⟨w.heap.size + 1 + 1 + 1, 2, none⟩ = some (.int .i64 0) := tcell r2 hb4
    have r3 : w4.cell? ⟨w.heap.size + 1 + 1 + 1, 3, none⟩ = some (.int .i64 0) := tcell r3 hb4
    have hfr4 : ∀ o, w4.frozen? ⟨w.heap.size + 1 + 1 + 1, o, none⟩ = false := fun o => (hb4.frozen (p := ⟨w.heap.size + 1 + 1 + 1, o, none⟩) (hrl3)).trans (hfr3 o)
    have hrl4 : w.heap.size + 1 + 1 + 1 < w4.heap.size := cell_block_lt r0
    clear hb4 hfr3 hrl3
    go_wp2_with fail
    refine (HMK.out _).mono ?_
    rintro e1 w5 ⟨rfl, hb5⟩
    have HB5 := Lib.hid (HB4.out.trans (hb5.mono HB4.out.size))
    have r0 : w5.cell? ⟨w.heap.size + 1 + 1 + 1, 0, none⟩ = some (.int .i64 0) := tcell r0 hb5
    have r1 : w5.cell? ⟨w.heap.size + 1 + 1 + 1, 1, none⟩ = some (.int .i64 0) := tcell r1 hb5
    have r2 : w5.cell? ⟨w.heap.size + 1 + 1 + 1, 2, none⟩ = some (.int .i64 0) := tcell r2 hb5
    have r3 : w5.cell? ⟨w.heap.size + 1 + 1 + 1, 3, none⟩ = some (.int .i64 0) := tcell r3 hb5
    have hfr5 : ∀ o, w5.frozen? ⟨w.heap.size + 1 + 1 + 1, o, none⟩ = false := fun o => (hb5.frozen (p := ⟨w.heap.size + 1 + 1 + 1, o, none⟩) (hrl4)).trans (hfr4 o)
    have hrl5 : w.heap.size + 1 + 1 + 1 < w5.heap.size := cell_block_lt r0
    clear hb5 hfr4 hrl4
    go_wp2_with fail
    refine World.any (p := fun W => bodyPost _ _ _ _ _ W) (fun Q hW => ?_)
    have z0 : Q.cell? ⟨w.heap.size + 1 + 1 + 1, 0, none⟩ = some (.int .i64 ra) := by subst hW; go_simp
    have z1 : Q.cell? ⟨w.heap.size + 1 + 1 + 1, 1, none⟩ = some (.int .i64 rb) := by subst hW; go_simp
    have z2 : Q.cell? ⟨w.heap.size + 1 + 1 + 1, 2, none⟩ = some (.int .i64 rc) := by subst hW; go_simp
    have z3 : Q.cell? ⟨w.heap.size + 1 + 1 + 1, 3, none⟩ = some (.int .i64 re) := by subst hW; go_simp
    have HBW : Below w.heap.size w Q := by
      subst hW
      repeat refine Below.setCell ?_ (by simp <;> omega) _
      exact HB5.out
    refine bodyPost_ret (v := .tuple #[.agg #[.int .i64 ra, .int .i64 rb, .int .i64 rc, .int .i64 re], .bool rt]) (by simp [results, Try.results74, go_sem, z0, z1, z2, z3]) rfl ⟨by rw [HV.out], HBW⟩

set_option maxHeartbeats 2000000 in
theorem specIsJustMet (h v m d a b c e : Int) (w : World) :
    Calls Try.prog 58 #[.agg #[.int .i64 h, .int .i64 v, .int .i64 m, .int .i64 d], .agg #[.int .i64 a, .int .i64 b, .int .i64 c, .int .i64 e]] w fun e1 w' => e1 = .returned (.bool (jmB (h, v, m, d) (a, b, c, e))) ∧ Below w.heap.size w w' := by
  have hb0 := ((Below.refl w.heap.size w).alloc (Nat.le_refl _) (.cells #[.int .i64 h, .int .i64 v, .int .i64 m, .int .i64 d] 31)).alloc (by simp) (.cells #[.int .i64 a, .int .i64 b, .int .i64 c, .int .i64 e] 104)
  have HB0 := Lib.hid hb0
  clear hb0
  have HCT := Lib.hid (fun w => specThrustOk h v m d w)
  have HCR := Lib.hid (fun w => specRowOk a b c e w)
  cases ht : okT h v m d
  · have HV := Lib.hid (jmB_t (p := (a, b, c, e)) (show okTh (h, v, m, d) = false from ht))
    rw [ht] at HCT
    go_enter Try.func58, Try.ntmps58
    go_wp2_with fail
    refine (HCT.out _).mono ?_
    rintro e1 w1 ⟨rfl, hb1⟩
    go_wp2_with fail
    go_ret
    exact ⟨ret_bool HV.out.symm, HB0.out.trans (hb1.mono HB0.out.size)⟩
  cases hr : cdOk a b c e
  · have HV := Lib.hid (jmB_r (t := (h, v, m, d)) (show okR (a, b, c, e) = false from hr))
    rw [ht] at HCT
    rw [hr] at HCR
    go_enter Try.func58, Try.ntmps58
    go_wp2_with fail
    refine (HCT.out _).mono ?_
    rintro e1 w1 ⟨rfl, hb1⟩
    have HB1 := Lib.hid (HB0.out.trans (hb1.mono HB0.out.size))
    have t0 : w1.cell? ⟨w.heap.size, 0, none⟩ = some (.int .i64 h) := tcell (by go_simp) hb1
    have t1 : w1.cell? ⟨w.heap.size, 1, none⟩ = some (.int .i64 v) := tcell (by go_simp) hb1
    have t2 : w1.cell? ⟨w.heap.size, 2, none⟩ = some (.int .i64 m) := tcell (by go_simp) hb1
    have t3 : w1.cell? ⟨w.heap.size, 3, none⟩ = some (.int .i64 d) := tcell (by go_simp) hb1
    have q0 : w1.cell? ⟨w.heap.size + 1, 0, none⟩ = some (.int .i64 a) := tcell (by go_simp) hb1
    have q1 : w1.cell? ⟨w.heap.size + 1, 1, none⟩ = some (.int .i64 b) := tcell (by go_simp) hb1
    have q2 : w1.cell? ⟨w.heap.size + 1, 2, none⟩ = some (.int .i64 c) := tcell (by go_simp) hb1
    have q3 : w1.cell? ⟨w.heap.size + 1, 3, none⟩ = some (.int .i64 e) := tcell (by go_simp) hb1
    clear hb1 HB0
    go_wp2_with fail
    refine (HCR.out _).mono ?_
    rintro e1 w2 ⟨rfl, hb2⟩
    go_wp2_with fail
    go_ret
    exact ⟨ret_bool HV.out.symm, HB1.out.trans (hb2.mono HB1.out.size)⟩
  · have HV := Lib.hid (jmB_yes (t := (h, v, m, d)) (p := (a, b, c, e)) ht hr)
    dsimp only at HV
    rw [ht] at HCT
    rw [hr] at HCR
    have hx := cd_bd ht hr
    obtain ⟨h1, h2, h3, h4⟩ := hx
    have w1 : IntKind.i64.wrap (a * h) = a * h := IntWalk.i64_in _ (by omega)
    have w2 : IntKind.i64.wrap (b * v) = b * v := IntWalk.i64_in _ (by omega)
    have w3 : IntKind.i64.wrap (c * m) = c * m := IntWalk.i64_in _ (by omega)
    have w4 : IntKind.i64.wrap (e * d) = e * d := IntWalk.i64_in _ (by omega)
    have w5 : IntKind.i64.wrap (a * h + b * v) = a * h + b * v := IntWalk.i64_in _ (by omega)
    have w6 : IntKind.i64.wrap (a * h + b * v + c * m) = a * h + b * v + c * m := IntWalk.i64_in _ (by omega)
    clear h1 h2 h3 h4
    go_enter Try.func58, Try.ntmps58
    go_wp2_with fail
    refine (HCT.out _).mono ?_
    rintro e1 W1 ⟨rfl, hb1⟩
    have HB1 := Lib.hid (HB0.out.trans (hb1.mono HB0.out.size))
    have t0 : W1.cell? ⟨w.heap.size, 0, none⟩ = some (.int .i64 h) := tcell (by go_simp) hb1
    have t1 : W1.cell? ⟨w.heap.size, 1, none⟩ = some (.int .i64 v) := tcell (by go_simp) hb1
    have t2 : W1.cell? ⟨w.heap.size, 2, none⟩ = some (.int .i64 m) := tcell (by go_simp) hb1
    have t3 : W1.cell? ⟨w.heap.size, 3, none⟩ = some (.int .i64 d) := tcell (by go_simp) hb1
    have q0 : W1.cell? ⟨w.heap.size + 1, 0, none⟩ = some (.int .i64 a) := tcell (by go_simp) hb1
    have q1 : W1.cell? ⟨w.heap.size + 1, 1, none⟩ = some (.int .i64 b) := tcell (by go_simp) hb1
    have q2 : W1.cell? ⟨w.heap.size + 1, 2, none⟩ = some (.int .i64 c) := tcell (by go_simp) hb1
    have q3 : W1.cell? ⟨w.heap.size + 1, 3, none⟩ = some (.int .i64 e) := tcell (by go_simp) hb1
    clear hb1 HB0
    go_wp2_with fail
    refine (HCR.out _).mono ?_
    rintro e1 W2 ⟨rfl, hb2⟩
    have HB2 := Lib.hid (HB1.out.trans (hb2.mono HB1.out.size))
    have t0 : W2.cell? ⟨w.heap.size, 0, none⟩ = some (.int .i64 h) := tcell t0 hb2
    have t1 : W2.cell? ⟨w.heap.size, 1, none⟩ = some (.int .i64 v) := tcell t1 hb2
    have t2 : W2.cell? ⟨w.heap.size, 2, none⟩ = some (.int .i64 m) := tcell t2 hb2
    have t3 : W2.cell? ⟨w.heap.size, 3, none⟩ = some (.int .i64 d) := tcell t3 hb2
    have q0 : W2.cell? ⟨w.heap.size + 1, 0, none⟩ = some (.int .i64 a) := tcell q0 hb2
    have q1 : W2.cell? ⟨w.heap.size + 1, 1, none⟩ = some (.int .i64 b) := tcell q1 hb2
    have q2 : W2.cell? ⟨w.heap.size + 1, 2, none⟩ = some (.int .i64 c) := tcell q2 hb2
    have q3 : W2.cell? ⟨w.heap.size + 1, 3, none⟩ = some (.int .i64 e) := tcell q3 hb2
    clear hb2 HB1
    go_wp2_with fail
    go_ret
    exact ⟨ret_bool (by rw [HV.out]; first | rfl | (rw [Bool.eq_iff_iff]; simp)), HB2.out⟩
end Go.Proofs.Ytbmlcfdilopmgaa
