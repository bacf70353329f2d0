/- Three rows: the contracts of the program's linesOf, determinant, DetOfRows, SolveRows, isJustMetBy and IsJustMet. -/
import Derived.Test.YtibcalpkmjjilaaThreeP
import Derived.Test.YtibcalpkmjjilaaCondA
import Derived.Test.YtibcalpkmjjilaaThrustI
import Derived.LoopN
import Derived.BigRegion
namespace Go.Proofs.Ytibcalpkmjjilaa
set_option maxRecDepth 100000
open Go.ChangeShapes Go.WideShapes Go.ChangeAt Go.RowKit

set_option maxHeartbeats 4000000 in
theorem determinant (a d g b e h c f i : Int) (w : World) (hx : ColBd a d g b e h c f i) :
    Calls Try.prog 39 #[.agg #[.int .i64 a, .int .i64 d, .int .i64 g], .agg #[.int .i64 b, .int .i64 e, .int .i64 h], .agg #[.int .i64 c, .int .i64 f, .int .i64 i]] w fun e1 w' => e1 = .returned (.int .i64 (detC a d g b e h c f i)) ∧ Below w.heap.size w w' := by
  have HB0 := Lib.hid ((((Below.refl w.heap.size w).alloc (Nat.le_refl _) (.cells #[.int .i64 a, .int .i64 d, .int .i64 g] 74)).alloc (by simp) (.cells #[.int .i64 b, .int .i64 e, .int .i64 h] 74)).alloc (by simp <;> omega) (.cells #[.int .i64 c, .int .i64 f, .int .i64 i] 74))
  obtain ⟨h1, h2, h3, h4, h5, h6, h7, h8, h9⟩ := hx
  have HV := Lib.hid (show detC a d g b e h c f i = a * (e * i - h * f) + d * (h * c - b * i) + g * (b * f - e * c) from rfl)
  have w1 : IntKind.i64.wrap (e * i) = e * i := IntWalk.i64_in _ (by omega)
  have w2 : IntKind.i64.wrap (h * f) = h * f := IntWalk.i64_in _ (by omega)
  have w3 : IntKind.i64.wrap (h * c) = h * c := IntWalk.i64_in _ (by omega)
  have w4 : IntKind.i64.wrap (b * i) = b * i := IntWalk.i64_in _ (by omega)
  have w5 : IntKind.i64.wrap (b * f) = b * f := IntWalk.i64_in _ (by omega)
  have w6 : IntKind.i64.wrap (e * c) = e * c := IntWalk.i64_in _ (by omega)
  have v1 : IntKind.i64.wrap (e * i - h * f) = e * i - h * f := IntWalk.i64_in _ (by omega)
  have v2 : IntKind.i64.wrap (h * c - b * i) = h * c - b * i := IntWalk.i64_in _ (by omega)
  have v3 : IntKind.i64.wrap (b * f - e * c) = b * f - e * c := IntWalk.i64_in _ (by omega)
  have u1 : IntKind.i64.wrap (a * (e * i - h * f)) = a * (e * i - h * f) := IntWalk.i64_in _ (by omega)
  have u2 : IntKind.i64.wrap (d * (h * c - b * i)) = d * (h * c - b * i) := IntWalk.i64_in _ (by omega)
  have u3 : IntKind.i64.wrap (g * (b * f - e * c)) = g * (b * f - e * c) := IntWalk.i64_in _ (by omega)
  have s1 : IntKind.i64.wrap (a * (e * i - h * f) + d * (h * c - b * i)) = a * (e * i - h * f) + d * (h * c - b * i) := IntWalk.i64_in _ (by omega)
  have s2 : IntKind.i64.wrap (a * (e * i - h * f) + d * (h * c - b * i) + g * (b * f - e * c)) = a * (e * i - h * f) + d * (h * c - b * i) + g * (b * f - e * c) := IntWalk.i64_in _ (by omega)
  clear h1 h2 h3 h4 h5 h6 h7 h8 h9
  go_enter Try.func39, Try.ntmps39
  go_wp2_with fail
  refine wp_loop_rounds 4 ?_
  rw [rounds_succ]
  go_wp2_with fail
  go_quiet (fail)
  go_wp2_with fail
  rw [rounds_succ]
  go_wp2_with fail
  go_quiet (fail)
  go_wp2_with fail
  rw [rounds_succ]
  go_wp2_with fail
  go_quiet (fail)
  go_wp2_with fail
  rw [rounds_succ]
  go_wp2_with fail
  go_ret
  exact ⟨ret_i64 HV.out.symm, below_drewN HB0.out _⟩
/-- linesOf's answer: twelve cells. -/
def lnV (ok : Bool) (a1 b1 c1 d1 a2 b2 c2 d2 a3 b3 c3 d3 : Int) : Value := .agg #[.int .i64 (if ok then a1 else 0), .int .i64 (if ok then a2 else 0), .int .i64 (if ok then a3 else 0), .int .i64 (if ok then b1 else 0), .int .i64 (if ok then b2 else 0), .int .i64 (if ok then b3 else 0), .int .i64 (if ok then c1 else 0), .int .i64 (if ok then c2 else 0), .int .i64 (if ok then c3 else 0), .int .i64 (if ok then d1 else 0), .int .i64 (if ok then d2 else 0), .int .i64 (if ok then d3 else 0)]
theorem lnV_no (a1 b1 c1 d1 a2 b2 c2 d2 a3 b3 c3 d3 : Int) : lnV false a1 b1 c1 d1 a2 b2 c2 d2 a3 b3 c3 d3 = .agg #[.int .i64 0, .int .i64 0, .int .i64 0, .int .i64 0, .int .i64 0, .int .i64 0, .int .i64 0, .int .i64 0, .int .i64 0, .int .i64 0, .int .i64 0, .int .i64 0] := rfl
theorem lnV_yes (a1 b1 c1 d1 a2 b2 c2 d2 a3 b3 c3 d3 : Int) : lnV true a1 b1 c1 d1 a2 b2 c2 d2 a3 b3 c3 d3 = .agg #[.int .i64 a1, .int .i64 a2, .int .i64 a3, .int .i64 b1, .int .i64 b2, .int .i64 b3, .int .i64 c1, .int .i64 c2, .int .i64 c3, .int .i64 d1, .int .i64 d2, .int .i64 d3] := rfl
theorem rows3_ok (a1 b1 c1 d1 a2 b2 c2 d2 a3 b3 c3 d3 : Int) : cdsOk [(a1, b1, c1, d1), (a2, b2, c2, d2), (a3, b3, c3, d3)] = ok3 (a1, b1, c1, d1) (a2, b2, c2, d2) (a3, b3, c3, d3) := by
  have h : ∀ j : Nat, j < 3 → j = 0 ∨ j = 1 ∨ j = 2 := fun j hj => by omega
  rw [Bool.eq_iff_iff, ok3_iff]
  unfold cdsOk
  rw [allV_iff]
  constructor
  · intro hh
    exact ⟨hh 0 (by simp), hh 1 (by simp), hh 2 (by simp)⟩
  · rintro ⟨h0, h1, h2⟩ j hj
    rcases h j (by simpa using hj) with rfl | rfl | rfl
    · exact h0
    · exact h1
    · exact h2
set_option maxRecDepth 100000 in
set_option maxHeartbeats 8000000 in
theorem linesOf (a1 b1 c1 d1 a2 b2 c2 d2 a3 b3 c3 d3 : Int) (w : World) :
    Calls Try.prog 37 #[.agg #[.int .i64 a1, .int .i64 b1, .int .i64 c1, .int .i64 d1, .int .i64 a2, .int .i64 b2, .int .i64 c2, .int .i64 d2, .int .i64 a3, .int .i64 b3, .int .i64 c3, .int .i64 d3]] w fun e1 w' => e1 = .returned (lnV (ok3 (a1, b1, c1, d1) (a2, b2, c2, d2) (a3, b3, c3, d3)) a1 b1 c1 d1 a2 b2 c2 d2 a3 b3 c3 d3) ∧ Below w.heap.size w w' := by
  have HB0 := Lib.hid ((((Below.refl w.heap.size w).alloc (Nat.le_refl _) (.cells #[.int .i64 a1, .int .i64 b1, .int .i64 c1, .int .i64 d1, .int .i64 a2, .int .i64 b2, .int .i64 c2, .int .i64 d2, .int .i64 a3, .int .i64 b3, .int .i64 c3, .int .i64 d3] 77)).alloc (by simp) (.cells #[.int .i64 0, .int .i64 0, .int .i64 0, .int .i64 0, .int .i64 0, .int .i64 0, .int .i64 0, .int .i64 0, .int .i64 0, .int .i64 0, .int .i64 0, .int .i64 0] 75)).alloc (by simp <;> omega) (.cells #[.int .i64 0, .int .i64 0, .int .i64 0, .int .i64 0, .int .i64 0, .int .i64 0, .int .i64 0, .int .i64 0, .int .i64 0, .int .i64 0, .int .i64 0, .int .i64 0] 75))
  have HCC : RowKit.Hid (CdCells (((w.alloc (.cells #[.int .i64 a1, .int .i64 b1, .int .i64 c1, .int .i64 d1, .int .i64 a2, .int .i64 b2, .int .i64 c2, .int .i64 d2, .int .i64 a3, .int .i64 b3, .int .i64 c3, .int .i64 d3] 77)).alloc (.cells #[.int .i64 0, .int .i64 0, .int .i64 0, .int .i64 0, .int .i64 0, .int .i64 0, .int .i64 0, .int .i64 0, .int .i64 0, .int .i64 0, .int .i64 0, .int .i64 0] 75)).alloc (.cells #[.int .i64 0, .int .i64 0, .int .i64 0, .int .i64 0, .int .i64 0, .int .i64 0, .int .i64 0, .int .i64 0, .int .i64 0, .int .i64 0, .int .i64 0, .int .i64 0] 75)) (some ⟨w.heap.size, 0, none⟩) 3 3 [(a1, b1, c1, d1), (a2, b2, c2, d2), (a3, b3, c3, d3)]) := Lib.hid ⟨⟨Nat.le_refl _, by unfold maxLen; omega⟩, rfl, fun j hj => ⟨w.heap.size, rfl, trivial, by
    have : j = 0 ∨ j = 1 ∨ j = 2 := by omega
    rcases this with rfl | rfl | rfl
    · refine ⟨?_, ?_, ?_, ?_⟩ <;> go_simp <;> rfl
    · refine ⟨?_, ?_, ?_, ?_⟩ <;> go_simp <;> rfl
    · refine ⟨?_, ?_, ?_, ?_⟩ <;> go_simp <;> rfl⟩⟩
  have HOK := Lib.hid (rows3_ok a1 b1 c1 d1 a2 b2 c2 d2 a3 b3 c3 d3)
  obtain ⟨ok, hok⟩ : ∃ ok, ok3 (a1, b1, c1, d1) (a2, b2, c2, d2) (a3, b3, c3, d3) = ok := ⟨_, rfl⟩
  rw [hok] at HOK ⊢
  clear hok
  have ir0 : ∀ w, (Instr.index 77 (.agg #[.int .i64 a1, .int .i64 b1, .int .i64 c1, .int .i64 d1, .int .i64 a2, .int .i64 b2, .int .i64 c2, .int .i64 d2, .int .i64 a3, .int .i64 b3, .int .i64 c3, .int .i64 d3]) (.int .i64 0)).run Try.prog w = .ok (.agg #[.int .i64 a1, .int .i64 b1, .int .i64 c1, .int .i64 d1]) w := fun _ => by kernel_rfl
  have ir1 : ∀ w, (Instr.index 77 (.agg #[.int .i64 a1, .int .i64 b1, .int .i64 c1, .int .i64 d1, .int .i64 a2, .int .i64 b2, .int .i64 c2, .int .i64 d2, .int .i64 a3, .int .i64 b3, .int .i64 c3, .int .i64 d3]) (.int .i64 1)).run Try.prog w = .ok (.agg #[.int .i64 a2, .int .i64 b2, .int .i64 c2, .int .i64 d2]) w := fun _ => by kernel_rfl
  have ir2 : ∀ w, (Instr.index 77 (.agg #[.int .i64 a1, .int .i64 b1, .int .i64 c1, .int .i64 d1, .int .i64 a2, .int .i64 b2, .int .i64 c2, .int .i64 d2, .int .i64 a3, .int .i64 b3, .int .i64 c3, .int .i64 d3]) (.int .i64 2)).run Try.prog w = .ok (.agg #[.int .i64 a3, .int .i64 b3, .int .i64 c3, .int .i64 d3]) w := fun _ => by kernel_rfl
  have in0 : ∀ a b c d w, (Instr.index 110 (.agg #[.int .i64 a, .int .i64 b, .int .i64 c, .int .i64 d]) (.int .i64 0)).run Try.prog w = .ok (.int .i64 a) w := fun _ _ _ _ _ => by kernel_rfl
  have in1 : ∀ a b c d w, (Instr.index 110 (.agg #[.int .i64 a, .int .i64 b, .int .i64 c, .int .i64 d]) (.int .i64 1)).run Try.prog w = .ok (.int .i64 b) w := fun _ _ _ _ _ => by kernel_rfl
  have in2 : ∀ a b c d w, (Instr.index 110 (.agg #[.int .i64 a, .int .i64 b, .int .i64 c, .int .i64 d]) (.int .i64 2)).run Try.prog w = .ok (.int .i64 c) w := fun _ _ _ _ _ => by kernel_rfl
  have in3 : ∀ a b c d w, (Instr.index 110 (.agg #[.int .i64 a, .int .i64 b, .int .i64 c, .int .i64 d]) (.int .i64 3)).run Try.prog w = .ok (.int .i64 d) w := fun _ _ _ _ _ => by kernel_rfl
  go_enter Try.func37, Try.ntmps37
  go_wp2_with fail
  refine (areValidCells _ _ _ _ _ HCC.out).mono ?_
  rintro e w1 ⟨rfl, hb1⟩
  rw [HOK.out]
  have HB1 := Lib.hid (HB0.out.trans (hb1.mono HB0.out.size))
  have l0 : w1.cell? ⟨w.heap.size + 1 + 1, 0, none⟩ = some (.int .i64 0) := tcell (by go_simp) hb1
  have l1 : w1.cell? ⟨w.heap.size + 1 + 1, 1, none⟩ = some (.int .i64 0) := tcell (by go_simp) hb1
  have l2 : w1.cell? ⟨w.heap.size + 1 + 1, 2, none⟩ = some (.int .i64 0) := tcell (by go_simp) hb1
  have l3 : w1.cell? ⟨w.heap.size + 1 + 1, 3, none⟩ = some (.int .i64 0) := tcell (by go_simp) hb1
  have l4 : w1.cell? ⟨w.heap.size + 1 + 1, 4, none⟩ = some (.int .i64 0) := tcell (by go_simp) hb1
  have l5 : w1.cell? ⟨w.heap.size + 1 + 1, 5, none⟩ = some (.int .i64 0) := tcell (by go_simp) hb1
  have l6 : w1.cell? ⟨w.heap.size + 1 + 1, 6, none⟩ = some (.int .i64 0) := tcell (by go_simp) hb1
  have l7 : w1.cell? ⟨w.heap.size + 1 + 1, 7, none⟩ = some (.int .i64 0) := tcell (by go_simp) hb1
  have l8 : w1.cell? ⟨w.heap.size + 1 + 1, 8, none⟩ = some (.int .i64 0) := tcell (by go_simp) hb1
  have l9 : w1.cell? ⟨w.heap.size + 1 + 1, 9, none⟩ = some (.int .i64 0) := tcell (by go_simp) hb1
  have l10 : w1.cell? ⟨w.heap.size + 1 + 1, 10, none⟩ = some (.int .i64 0) := tcell (by go_simp) hb1
  have l11 : w1.cell? ⟨w.heap.size + 1 + 1, 11, none⟩ = some (.int .i64 0) := tcell (by go_simp) hb1
  have r0 : w1.cell? ⟨w.heap.size + 1, 0, none⟩ = some (.int .i64 0) := tcell (by go_simp) hb1
  have r1 : w1.cell? ⟨w.heap.size + 1, 1, none⟩ = some (.int .i64 0) := tcell (by go_simp) hb1
  have r2 : w1.cell? ⟨w.heap.size + 1, 2, none⟩ = some (.int .i64 0) := tcell (by go_simp) hb1
  have r3 : w1.cell? ⟨w.heap.size + 1, 3, none⟩ = some (.int .i64 0) := tcell (by go_simp) hb1
  have r4 : w1.cell? ⟨w.heap.size + 1, 4, none⟩ = some (.int .i64 0) := tcell (by go_simp) hb1
  have r5 : w1.cell? ⟨w.heap.size + 1, 5, none⟩ = some (.int .i64 0) := tcell (by go_simp) hb1
  have r6 : w1.cell? ⟨w.heap.size + 1, 6, none⟩ = some (.int .i64 0) := tcell (by go_simp) hb1
  have r7 : w1.cell? ⟨w.heap.size + 1, 7, none⟩ = some (.int .i64 0) := tcell (by go_simp) hb1
  have r8 : w1.cell? ⟨w.heap.size + 1, 8, none⟩ = some (.int .i64 0) := tcell (by go_simp) hb1
  have r9 : w1.cell? ⟨w.heap.size + 1, 9, none⟩ = some (.int .i64 0) := tcell (by go_simp) hb1
  have r10 : w1.cell? ⟨w.heap.size + 1, 10, none⟩ = some (.int .i64 0) := tcell (by go_simp) hb1
  have r11 : w1.cell? ⟨w.heap.size + 1, 11, none⟩ = some (.int .i64 0) := tcell (by go_simp) hb1
  have p0 : w1.cell? ⟨w.heap.size, 0, none⟩ = some (.int .i64 a1) := tcell (by go_simp) hb1
  have p1 : w1.cell? ⟨w.heap.size, 1, none⟩ = some (.int .i64 b1) := tcell (by go_simp) hb1
  have p2 : w1.cell? ⟨w.heap.size, 2, none⟩ = some (.int .i64 c1) := tcell (by go_simp) hb1
  have p3 : w1.cell? ⟨w.heap.size, 3, none⟩ = some (.int .i64 d1) := tcell (by go_simp) hb1
  have p4 : w1.cell? ⟨w.heap.size, 4, none⟩ = some (.int .i64 a2) := tcell (by go_simp) hb1
  have p5 : w1.cell? ⟨w.heap.size, 5, none⟩ = some (.int .i64 b2) := tcell (by go_simp) hb1
  have p6 : w1.cell? ⟨w.heap.size, 6, none⟩ = some (.int .i64 c2) := tcell (by go_simp) hb1
  have p7 : w1.cell? ⟨w.heap.size, 7, none⟩ = some (.int .i64 d2) := tcell (by go_simp) hb1
  have p8 : w1.cell? ⟨w.heap.size, 8, none⟩ = some (.int .i64 a3) := tcell (by go_simp) hb1
  have p9 : w1.cell? ⟨w.heap.size, 9, none⟩ = some (.int .i64 b3) := tcell (by go_simp) hb1
  have p10 : w1.cell? ⟨w.heap.size, 10, none⟩ = some (.int .i64 c3) := tcell (by go_simp) hb1
  have p11 : w1.cell? ⟨w.heap.size, 11, none⟩ = some (.int .i64 d3) := tcell (by go_simp) hb1
  have hfl : ∀ o, w1.frozen? ⟨w.heap.size + 1 + 1, o, none⟩ = false := fun o => (hb1.frozen (p := ⟨w.heap.size + 1 + 1, o, none⟩) (by simp <;> omega)).trans (by go_simp)
  have hfr : ∀ o, w1.frozen? ⟨w.heap.size + 1, o, none⟩ = false := fun o => (hb1.frozen (p := ⟨w.heap.size + 1, o, none⟩) (by simp <;> omega)).trans (by go_simp)
  have hlt : w.heap.size + 1 + 1 < w1.heap.size := cell_block_lt l0
  have HRR := Lib.hid (And.intro hfr (And.intro r0 (And.intro r1 (And.intro r2 (And.intro r3 (And.intro r4 (And.intro r5 (And.intro r6 (And.intro r7 (And.intro r8 (And.intro r9 (And.intro r10 r11))))))))))))
  clear hb1 HB0 HCC HOK
  cases ok
  · go_wp2_with fail
    refine World.any (p := fun W => bodyPost _ _ _ _ _ W) (fun Z hW => ?_)
    have z0 : Z.cell? ⟨w.heap.size + 1, 0, none⟩ = some (.int .i64 0) := by subst hW; go_simp
    have z1 : Z.cell? ⟨w.heap.size + 1, 1, none⟩ = some (.int .i64 0) := by subst hW; go_simp
    have z2 : Z.cell? ⟨w.heap.size + 1, 2, none⟩ = some (.int .i64 0) := by subst hW; go_simp
    have z3 : Z.cell? ⟨w.heap.size + 1, 3, none⟩ = some (.int .i64 0) := by subst hW; go_simp
    have z4 : Z.cell? ⟨w.heap.size + 1, 4, none⟩ = some (.int .i64 0) := by subst hW; go_simp
    have z5 : Z.cell? ⟨w.heap.size + 1, 5, none⟩ = some (.int .i64 0) := by subst hW; go_simp
    have z6 : Z.cell? ⟨w.heap.size + 1, 6, none⟩ = some (.int .i64 0) := by subst hW; go_simp
    have z7 : Z.cell? ⟨w.heap.size + 1, 7, none⟩ = some (.int .i64 0) := by subst hW; go_simp
    have z8 : Z.cell? ⟨w.heap.size + 1, 8, none⟩ = some (.int .i64 0) := by subst hW; go_simp
    have z9 : Z.cell? ⟨w.heap.size + 1, 9, none⟩ = some (.int .i64 0) := by subst hW; go_simp
    have z10 : Z.cell? ⟨w.heap.size + 1, 10, none⟩ = some (.int .i64 0) := by subst hW; go_simp
    have z11 : Z.cell? ⟨w.heap.size + 1, 11, none⟩ = some (.int .i64 0) := by subst hW; go_simp
    have HBW : Below w.heap.size w Z := by
      subst hW
      repeat refine Below.setCell ?_ (by simp <;> omega) _
      exact HB1.out
    refine bodyPost_ret (v := .agg #[.int .i64 0, .int .i64 0, .int .i64 0, .int .i64 0, .int .i64 0, .int .i64 0, .int .i64 0, .int .i64 0, .int .i64 0, .int .i64 0, .int .i64 0, .int .i64 0]) (by simp [results, Try.results37, go_sem, z0, z1, z2, z3, z4, z5, z6, z7, z8, z9, z10, z11]) rfl ⟨rfl, HBW⟩
  · have HBL := Lib.hid (Below.refl (w.heap.size + 1 + 1) w1)
    clear hfr r0 r1 r2 r3 r4 r5 r6 r7 r8 r9 r10 r11
    go_wp2_with fail
    refine wp_loop_rounds 4 ?_
    rw [rounds_succ]
    go_wp2_with fail
    refine (rowNumbers _ _ _ _ _).mono ?_
    rintro e w2 ⟨rfl, hb_2⟩
    have l0_2 : w2.cell? ⟨w.heap.size + 1 + 1, 0, none⟩ = some (.int .i64 0) := tcell (by go_simp) hb_2
    have l1_2 : w2.cell? ⟨w.heap.size + 1 + 1, 1, none⟩ = some (.int .i64 0) := tcell (by go_simp) hb_2
    have l2_2 : w2.cell? ⟨w.heap.size + 1 + 1, 2, none⟩ = some (.int .i64 0) := tcell (by go_simp) hb_2
    have l3_2 : w2.cell? ⟨w.heap.size + 1 + 1, 3, none⟩ = some (.int .i64 0) := tcell (by go_simp) hb_2
    have l4_2 : w2.cell? ⟨w.heap.size + 1 + 1, 4, none⟩ = some (.int .i64 0) := tcell (by go_simp) hb_2
    have l5_2 : w2.cell? ⟨w.heap.size + 1 + 1, 5, none⟩ = some (.int .i64 0) := tcell (by go_simp) hb_2
    have l6_2 : w2.cell? ⟨w.heap.size + 1 + 1, 6, none⟩ = some (.int .i64 0) := tcell (by go_simp) hb_2
    have l7_2 : w2.cell? ⟨w.heap.size + 1 + 1, 7, none⟩ = some (.int .i64 0) := tcell (by go_simp) hb_2
    have l8_2 : w2.cell? ⟨w.heap.size + 1 + 1, 8, none⟩ = some (.int .i64 0) := tcell (by go_simp) hb_2
    have l9_2 : w2.cell? ⟨w.heap.size + 1 + 1, 9, none⟩ = some (.int .i64 0) := tcell (by go_simp) hb_2
    have l10_2 : w2.cell? ⟨w.heap.size + 1 + 1, 10, none⟩ = some (.int .i64 0) := tcell (by go_simp) hb_2
    have l11_2 : w2.cell? ⟨w.heap.size + 1 + 1, 11, none⟩ = some (.int .i64 0) := tcell (by go_simp) hb_2
    have hfl_2 : ∀ o, w2.frozen? ⟨w.heap.size + 1 + 1, o, none⟩ = false := fun o => (hb_2.frozen (p := ⟨w.heap.size + 1 + 1, o, none⟩) (by simp <;> omega)).trans (by simp only [frozen?_alloc_cells]; exact hfl o)
    have HBL_2 : RowKit.Hid (Below (w.heap.size + 1 + 1) w1 w2) := Lib.hid (Below.trans (by exact (HBL.out).alloc (by first | omega | (simp; omega)) _) (hb_2.mono (by simp <;> omega)))
    have hlt_2 : w.heap.size + 1 + 1 < w2.heap.size := cell_block_lt l0_2
    clear hb_2 HBL hlt hfl l0 l1 l2 l3 l4 l5 l6 l7 l8 l9 l10 l11
    clear p0 p1 p2 p3 p4 p5 p6 p7 p8 p9 p10 p11
    go_wp2_with fail
    refine wp_loop_rounds 5 ?_
    rw [rounds_succ]
    go_wp2_with fail
    rw [rounds_succ]
    go_wp2_with fail
    rw [rounds_succ]
    go_wp2_with fail
    rw [rounds_succ]
    go_wp2_with fail
    rw [rounds_succ]
    go_wp2_with fail
    rw [rounds_succ]
    go_wp2_with fail
    refine (rowNumbers _ _ _ _ _).mono ?_
    rintro e w3 ⟨rfl, hb_3⟩
    have l0_3 : w3.cell? ⟨w.heap.size + 1 + 1, 0, none⟩ = some (.int .i64 a1) := tcell (by go_simp) hb_3
    have l1_3 : w3.cell? ⟨w.heap.size + 1 + 1, 1, none⟩ = some (.int .i64 0) := tcell (by go_simp) hb_3
    have l2_3 : w3.cell? ⟨w.heap.size + 1 + 1, 2, none⟩ = some (.int .i64 0) := tcell (by go_simp) hb_3
    have l3_3 : w3.cell? ⟨w.heap.size + 1 + 1, 3, none⟩ = some (.int .i64 b1) := tcell (by go_simp) hb_3
    have l4_3 : w3.cell? ⟨w.heap.size + 1 + 1, 4, none⟩ = some (.int .i64 0) := tcell (by go_simp) hb_3
    have l5_3 : w3.cell? ⟨w.heap.size + 1 + 1, 5, none⟩ = some (.int .i64 0) := tcell (by go_simp) hb_3
    have l6_3 : w3.cell? ⟨w.heap.size + 1 + 1, 6, none⟩ = some (.int .i64 c1) := tcell (by go_simp) hb_3
    have l7_3 : w3.cell? ⟨w.heap.size + 1 + 1, 7, none⟩ = some (.int .i64 0) := tcell (by go_simp) hb_3
    have l8_3 : w3.cell? ⟨w.heap.size + 1 + 1, 8, none⟩ = some (.int .i64 0) := tcell (by go_simp) hb_3
    have l9_3 : w3.cell? ⟨w.heap.size + 1 + 1, 9, none⟩ = some (.int .i64 d1) := tcell (by go_simp) hb_3
    have l10_3 : w3.cell? ⟨w.heap.size + 1 + 1, 10, none⟩ = some (.int .i64 0) := tcell (by go_simp) hb_3
    have l11_3 : w3.cell? ⟨w.heap.size + 1 + 1, 11, none⟩ = some (.int .i64 0) := tcell (by go_simp) hb_3
    have hfl_3 : ∀ o, w3.frozen? ⟨w.heap.size + 1 + 1, o, none⟩ = false := fun o => (hb_3.frozen (p := ⟨w.heap.size + 1 + 1, o, none⟩) (by simp <;> omega)).trans (by simp only [World.frozen?_setCell, frozen?_alloc_cells]; exact hfl_2 o)
    have HBL_3 : RowKit.Hid (Below (w.heap.size + 1 + 1) w1 w3) := Lib.hid (Below.trans (by exact (((((HBL_2.out).setCell (Nat.le_refl _) _).setCell (Nat.le_refl _) _).setCell (Nat.le_refl _) _).setCell (Nat.le_refl _) _).alloc (by first | omega | (simp; omega)) _) (hb_3.mono (by simp <;> omega)))
    have hlt_3 : w.heap.size + 1 + 1 < w3.heap.size := cell_block_lt l0_3
    clear hb_3 HBL_2 hlt_2 hfl_2 l0_2 l1_2 l2_2 l3_2 l4_2 l5_2 l6_2 l7_2 l8_2 l9_2 l10_2 l11_2
    go_wp2_with fail
    refine wp_loop_rounds 5 ?_
    rw [rounds_succ]
    go_wp2_with fail
    rw [rounds_succ]
    go_wp2_with fail
    rw [rounds_succ]
    go_wp2_with fail
    rw [rounds_succ]
    go_wp2_with fail
    rw [rounds_succ]
    go_wp2_with fail
    rw [rounds_succ]
    go_wp2_with fail
    refine (rowNumbers _ _ _ _ _).mono ?_
    rintro e w4 ⟨rfl, hb_4⟩
    have l0_4 : w4.cell? ⟨w.heap.size + 1 + 1, 0, none⟩ = some (.int .i64 a1) := tcell (by go_simp) hb_4
    have l1_4 : w4.cell? ⟨w.heap.size + 1 + 1, 1, none⟩ = some (.int .i64 a2) := tcell (by go_simp) hb_4
    have l2_4 : w4.cell? ⟨w.heap.size + 1 + 1, 2, none⟩ = some (.int .i64 0) := tcell (by go_simp) hb_4
    have l3_4 : w4.cell? ⟨w.heap.size + 1 + 1, 3, none⟩ = some (.int .i64 b1) := tcell (by go_simp) hb_4
    have l4_4 : w4.cell? ⟨w.heap.size + 1 + 1, 4, none⟩ = some (.int .i64 b2) := tcell (by go_simp) hb_4
    have l5_4 : w4.cell? ⟨w.heap.size + 1 + 1, 5, none⟩ = some (.int .i64 0) := tcell (by go_simp) hb_4
    have l6_4 : w4.cell? ⟨w.heap.size + 1 + 1, 6, none⟩ = some (.int .i64 c1) := tcell (by go_simp) hb_4
    have l7_4 : w4.cell? ⟨w.heap.size + 1 + 1, 7, none⟩ = some (.int .i64 c2) := tcell (by go_simp) hb_4
    have l8_4 : w4.cell? ⟨w.heap.size + 1 + 1, 8, none⟩ = some (.int .i64 0) := tcell (by go_simp) hb_4
    have l9_4 : w4.cell? ⟨w.heap.size + 1 + 1, 9, none⟩ = some (.int .i64 d1) := tcell (by go_simp) hb_4
    have l10_4 : w4.cell? ⟨w.heap.size + 1 + 1, 10, none⟩ = some (.int .i64 d2) := tcell (by go_simp) hb_4
    have l11_4 : w4.cell? ⟨w.heap.size + 1 + 1, 11, none⟩ = some (.int .i64 0) := tcell (by go_simp) hb_4
    have hfl_4 : ∀ o, w4.frozen? ⟨w.heap.size + 1 + 1, o, none⟩ = false := fun o => (hb_4.frozen (p := ⟨w.heap.size + 1 + 1, o, none⟩) (by simp <;> omega)).trans (by simp only [World.frozen?_setCell, frozen?_alloc_cells]; exact hfl_3 o)
    have HBL_4 : RowKit.Hid (Below (w.heap.size + 1 + 1) w1 w4) := Lib.hid (Below.trans (by exact (((((HBL_3.out).setCell (Nat.le_refl _) _).setCell (Nat.le_refl _) _).setCell (Nat.le_refl _) _).setCell (Nat.le_refl _) _).alloc (by first | omega | (simp; omega)) _) (hb_4.mono (by simp <;> omega)))
    have hlt_4 : w.heap.size + 1 + 1 < w4.heap.size := cell_block_lt l0_4
    clear hb_4 HBL_3 hlt_3 hfl_3 l0_3 l1_3 l2_3 l3_3 l4_3 l5_3 l6_3 l7_3 l8_3 l9_3 l10_3 l11_3
    go_wp2_with fail
    refine wp_loop_rounds 5 ?_
    rw [rounds_succ]
    go_wp2_with fail
    rw [rounds_succ]
    go_wp2_with fail
    rw [rounds_succ]
    go_wp2_with fail
    rw [rounds_succ]
    go_wp2_with fail
    rw [rounds_succ]
    go_wp2_with fail
    obtain ⟨hfr, r0, r1, r2, r3, r4, r5, r6, r7, r8, r9, r10, r11⟩ := HRR.out
    have r0 := (HBL_4.out.cell (p := ⟨w.heap.size + 1, 0, none⟩) (Nat.lt_succ_self _)).trans r0
    have r1 := (HBL_4.out.cell (p := ⟨w.heap.size + 1, 1, none⟩) (Nat.lt_succ_self _)).trans r1
    have r2 := (HBL_4.out.cell (p := ⟨w.heap.size + 1, 2, none⟩) (Nat.lt_succ_self _)).trans r2
    have r3 := (HBL_4.out.cell (p := ⟨w.heap.size + 1, 3, none⟩) (Nat.lt_succ_self _)).trans r3
    have r4 := (HBL_4.out.cell (p := ⟨w.heap.size + 1, 4, none⟩) (Nat.lt_succ_self _)).trans r4
    have r5 := (HBL_4.out.cell (p := ⟨w.heap.size + 1, 5, none⟩) (Nat.lt_succ_self _)).trans r5
    have r6 := (HBL_4.out.cell (p := ⟨w.heap.size + 1, 6, none⟩) (Nat.lt_succ_self _)).trans r6
    have r7 := (HBL_4.out.cell (p := ⟨w.heap.size + 1, 7, none⟩) (Nat.lt_succ_self _)).trans r7
    have r8 := (HBL_4.out.cell (p := ⟨w.heap.size + 1, 8, none⟩) (Nat.lt_succ_self _)).trans r8
    have r9 := (HBL_4.out.cell (p := ⟨w.heap.size + 1, 9, none⟩) (Nat.lt_succ_self _)).trans r9
    have r10 := (HBL_4.out.cell (p := ⟨w.heap.size + 1, 10, none⟩) (Nat.lt_succ_self _)).trans r10
    have r11 := (HBL_4.out.cell (p := ⟨w.heap.size + 1, 11, none⟩) (Nat.lt_succ_self _)).trans r11
    have hfr := fun o => (HBL_4.out.frozen (p := ⟨w.heap.size + 1, o, none⟩) (Nat.lt_succ_self _)).trans (hfr o)
    have HB4 := Lib.hid (HB1.out.trans (HBL_4.out.mono (show w.heap.size ≤ w.heap.size + 1 + 1 by omega)))
    clear HRR HBL_4
    rw [rounds_succ]
    go_wp2_with fail
    refine World.any (p := fun W => bodyPost _ _ _ _ _ W) (fun Z hW => ?_)
    have z0 : Z.cell? ⟨w.heap.size + 1, 0, none⟩ = some (.int .i64 a1) := by subst hW; go_simp
    have z1 : Z.cell? ⟨w.heap.size + 1, 1, none⟩ = some (.int .i64 a2) := by subst hW; go_simp
    have z2 : Z.cell? ⟨w.heap.size + 1, 2, none⟩ = some (.int .i64 a3) := by subst hW; go_simp
    have z3 : Z.cell? ⟨w.heap.size + 1, 3, none⟩ = some (.int .i64 b1) := by subst hW; go_simp
    have z4 : Z.cell? ⟨w.heap.size + 1, 4, none⟩ = some (.int .i64 b2) := by subst hW; go_simp
    have z5 : Z.cell? ⟨w.heap.size + 1, 5, none⟩ = some (.int .i64 b3) := by subst hW; go_simp
    have z6 : Z.cell? ⟨w.heap.size + 1, 6, none⟩ = some (.int .i64 c1) := by subst hW; go_simp
    have z7 : Z.cell? ⟨w.heap.size + 1, 7, none⟩ = some (.int .i64 c2) := by subst hW; go_simp
    have z8 : Z.cell? ⟨w.heap.size + 1, 8, none⟩ = some (.int .i64 c3) := by subst hW; go_simp
    have z9 : Z.cell? ⟨w.heap.size + 1, 9, none⟩ = some (.int .i64 d1) := by subst hW; go_simp
    have z10 : Z.cell? ⟨w.heap.size + 1, 10, none⟩ = some (.int .i64 d2) := by subst hW; go_simp
    have z11 : Z.cell? ⟨w.heap.size + 1, 11, none⟩ = some (.int .i64 d3) := by subst hW; go_simp
    have HBW : Below w.heap.size w Z := by
      subst hW
      repeat refine Below.setCell ?_ (by simp <;> omega) _
      exact HB4.out
    refine bodyPost_ret (v := .agg #[.int .i64 a1, .int .i64 a2, .int .i64 a3, .int .i64 b1, .int .i64 b2, .int .i64 b3, .int .i64 c1, .int .i64 c2, .int .i64 c3, .int .i64 d1, .int .i64 d2, .int .i64 d3]) (by simp [results, Try.results37, go_sem, z0, z1, z2, z3, z4, z5, z6, z7, z8, z9, z10, z11]) rfl ⟨rfl, HBW⟩
end Go.Proofs.Ytibcalpkmjjilaa
