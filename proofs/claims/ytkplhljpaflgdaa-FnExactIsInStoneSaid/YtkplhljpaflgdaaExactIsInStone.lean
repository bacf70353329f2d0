/- The exact law of IsInStone: the program's answer is the model's, and the argument is as before. -/
import Derived.Test.YtkplhljpaflgdaaStoneL
import Derived.Test.YtkplhljpaflgdaaStoneI
import Derived.Test.YtkplhljpaflgdaaStoneS
import Derived.Test.YtkplhljpaflgdaaRows
import Derived.WalkKit
import Derived.ProofKit
import Derived.OpenShut
import Derived.ShutString
import Derived.ChangeOld
import Derived.Below
namespace Go.Proofs.Ytkplhljpaflgdaa.fnExactIsInStone
open Go.ChangeShapes Go.WideShapes Go.ChangeAt Go.RowKit
open Go.ChangeMaps (open_string shut_string)
set_option linter.unusedVariables false

theorem own : ownKnob Try.prog.godebug = none := by kernel_rfl
theorem laidOut : laidOutB Try.prog = true := by kernel_rfl

/-! ### THE WALK: the Go text returns true, and writes nothing that was there. -/
theorem walk (p0 : Option Addr) (n0 cap0 : Nat) (c0 : List (Int × Int)) (x1 y1 : Int) (w : World) (g0 : InPts w p0 n0 cap0 c0) (g1 : I64 x1 ∧ I64 y1) :
    Calls Try.prog 4 #[.agg #[.slice p0 n0 cap0], .agg #[.int .i64 x1, .int .i64 y1]] w fun e w' => e = .returned (.bool true) ∧ Below w.heap.size w w' := by
  have hm : n0 ≤ maxLen := Nat.le_trans g0.2.1 g0.2.2.1
  have hcl := g0.1
  have G0 := Lib.hid g0
  clear g0
  generalize hV : inV c0 (x1, y1) = V
  have HV := Lib.hid hV
  clear hV
  have hb0 := ((Below.refl w.heap.size w).alloc (Nat.le_refl _) (.cells #[.slice p0 n0 cap0] 24)).alloc (by simp) (.cells #[.int .i64 x1, .int .i64 y1] 34)
  have HB0 := Lib.hid hb0
  have hs0 : ((w.alloc (.cells #[.slice p0 n0 cap0] 24)).alloc (.cells #[.int .i64 x1, .int .i64 y1] 34)).cell? ⟨w.heap.size, 0, none⟩ = some (.slice p0 n0 cap0) := by go_simp
  have hp0 : ((w.alloc (.cells #[.slice p0 n0 cap0] 24)).alloc (.cells #[.int .i64 x1, .int .i64 y1] 34)).cell? ⟨w.heap.size + 1, 0, none⟩ = some (.int .i64 x1) := by go_simp
  have hp1 : ((w.alloc (.cells #[.slice p0 n0 cap0] 24)).alloc (.cells #[.int .i64 x1, .int .i64 y1] 34)).cell? ⟨w.heap.size + 1, 1, none⟩ = some (.int .i64 y1) := by go_simp
  have HS0 := Lib.hid hs0
  have HP0 := Lib.hid hp0
  have HP1 := Lib.hid hp1
  clear hb0 hs0 hp0 hp1
  by_cases hs : n0 ≤ 1048576
  · have hz : szV n0 = 1048576 - (n0 : Int) := by unfold szV; rw [if_pos hs]
    have HZ := Lib.hid hz
    clear hz
    go_enter Try.func4, Try.ntmps4
    go_wp2_with fail
    refine (szStone _ _ _ _ hm).mono ?_
    rintro e w1 ⟨rfl, hb1⟩
    rw [HZ.out]
    have HB1 := Lib.hid (HB0.out.trans (hb1.mono (by simp <;> omega)))
    have s1 : w1.cell? ⟨w.heap.size, 0, none⟩ = some (.slice p0 n0 cap0) := cell_kept HS0.out hb1
    have p1 : w1.cell? ⟨w.heap.size + 1, 0, none⟩ = some (.int .i64 x1) := cell_kept HP0.out hb1
    have q1 : w1.cell? ⟨w.heap.size + 1, 1, none⟩ = some (.int .i64 y1) := cell_kept HP1.out hb1
    clear hb1
    go_wp2_with fail
    go_region_held3 (fun w' => w'.cell? ⟨w.heap.size, 0, none⟩ = some (.slice p0 n0 cap0) ∧ w'.cell? ⟨w.heap.size + 1, 0, none⟩ = some (.int .i64 x1) ∧ w'.cell? ⟨w.heap.size + 1, 1, none⟩ = some (.int .i64 y1))
      (first | go_keep | trivial)
      (first | (go_at_call 10
                refine (toStone _ _ _ c0 _ (G0.out.below (below_drewN HB1.out _)) hs).mono ?_
                rintro e w2 ⟨ga, -, rfl, ra, hb2⟩
                have s2 : w2.cell? ⟨w.heap.size, 0, none⟩ = some (.slice p0 n0 cap0) := cell_after s1 hb2
                have p2 : w2.cell? ⟨w.heap.size + 1, 0, none⟩ = some (.int .i64 x1) := cell_after p1 hb2
                have q2 : w2.cell? ⟨w.heap.size + 1, 1, none⟩ = some (.int .i64 y1) := cell_after q1 hb2
                rw [← hcl] at ra
                have RA := Lib.hid ra.row
                rw [hcl] at RA
                have HB2 := Lib.hid (below_after HB1.out hb2)
                clear ra hb2)
             | (go_at_call 14
                refine (toPoint _ _ _).mono ?_
                rintro e w3 ⟨rfl, hb3⟩
                have s3 : w3.cell? ⟨w.heap.size, 0, none⟩ = some (.slice p0 n0 cap0) := cell_kept s2 hb3
                have p3 : w3.cell? ⟨w.heap.size + 1, 0, none⟩ = some (.int .i64 x1) := cell_kept p2 hb3
                have q3 : w3.cell? ⟨w.heap.size + 1, 1, none⟩ = some (.int .i64 y1) := cell_kept q2 hb3
                have RA3 := Lib.hid (RA.out.below hb3)
                have HB3 := Lib.hid (HB2.out.trans (hb3.mono HB2.out.size))
                clear hb3)
             | (go_at_call 13
                refine (specIsInStone _ _ _ c0 x1 y1 RA3.out).mono ?_
                rintro e w4 ⟨rfl, hb4⟩
                have s4 : w4.cell? ⟨w.heap.size, 0, none⟩ = some (.slice p0 n0 cap0) := cell_kept s3 hb4
                have p4 : w4.cell? ⟨w.heap.size + 1, 0, none⟩ = some (.int .i64 x1) := cell_kept p3 hb4
                have q4 : w4.cell? ⟨w.heap.size + 1, 1, none⟩ = some (.int .i64 y1) := cell_kept q3 hb4
                have HB4 := Lib.hid (HB3.out.trans (hb4.mono HB3.out.size))
                clear hb4))
    rw [HV.out]
    clear s1 p1 q1 s2 p2 q2 s3 p3 q3 HB1 HB2 HB3 RA RA3
    go_wp2_with fail
    refine (toStone _ _ _ c0 _ (G0.out.below HB4.out) hs).mono ?_
    rintro e w5 ⟨gx, -, rfl, rx, hb5⟩
    have s5 := cell_kept s4 hb5
    have p5 := cell_kept p4 hb5
    have q5 := cell_kept q4 hb5
    have hz5 := cell_block_lt s5
    have hy5 := cell_block_lt p5
    rw [← hcl] at rx
    have RX := Lib.hid (rx.alloc (.cells #[.slice (some ⟨gx, 0, none⟩) n0 n0] 29)).row
    rw [hcl] at RX
    have HB5 := Lib.hid ((HB4.out.trans (hb5.mono HB4.out.size)).alloc (Nat.le_trans HB4.out.size hb5.size) (.cells #[.slice (some ⟨gx, 0, none⟩) n0 n0] 29))
    clear s4 p4 q4 hb5 HB4 rx
    have s6 : (w5.alloc (.cells #[.slice (some ⟨gx, 0, none⟩) n0 n0] 29)).cell? ⟨w.heap.size, 0, none⟩ = some (.slice p0 n0 cap0) := by rw [World.cell?_alloc_lt _ _ _ (by simpa using hz5)]; exact s5
    have p6 : (w5.alloc (.cells #[.slice (some ⟨gx, 0, none⟩) n0 n0] 29)).cell? ⟨w.heap.size + 1, 0, none⟩ = some (.int .i64 x1) := by rw [World.cell?_alloc_lt _ _ _ (by simpa using hy5)]; exact p5
    have q6 : (w5.alloc (.cells #[.slice (some ⟨gx, 0, none⟩) n0 n0] 29)).cell? ⟨w.heap.size + 1, 1, none⟩ = some (.int .i64 y1) := by rw [World.cell?_alloc_lt _ _ _ (by simpa using hy5)]; exact q5
    have x6 : (w5.alloc (.cells #[.slice (some ⟨gx, 0, none⟩) n0 n0] 29)).cell? ⟨w5.heap.size, 0, none⟩ = some (.slice (some ⟨gx, 0, none⟩) n0 n0) := by go_simp
    go_wp2_with fail
    go_region_held3 (fun w' => w'.cell? ⟨w.heap.size, 0, none⟩ = some (.slice p0 n0 cap0) ∧ w'.cell? ⟨w.heap.size + 1, 0, none⟩ = some (.int .i64 x1) ∧ w'.cell? ⟨w.heap.size + 1, 1, none⟩ = some (.int .i64 y1) ∧ w'.cell? ⟨w5.heap.size, 0, none⟩ = some (.slice (some ⟨gx, 0, none⟩) n0 n0))
      (first | go_keep | trivial)
      (first | (go_at_call 14
                refine (toPoint _ _ _).mono ?_
                rintro e w7 ⟨rfl, hb7⟩
                have s7 : w7.cell? ⟨w.heap.size, 0, none⟩ = some (.slice p0 n0 cap0) := cell_after s6 hb7
                have p7 : w7.cell? ⟨w.heap.size + 1, 0, none⟩ = some (.int .i64 x1) := cell_after p6 hb7
                have q7 : w7.cell? ⟨w.heap.size + 1, 1, none⟩ = some (.int .i64 y1) := cell_after q6 hb7
                have x7 : w7.cell? ⟨w5.heap.size, 0, none⟩ = some (.slice (some ⟨gx, 0, none⟩) n0 n0) := cell_after x6 hb7
                have RX7 := Lib.hid (RX.out.after hb7)
                have HB7 := Lib.hid (below_after HB5.out hb7)
                clear hb7)
             | (go_at_call 15
                refine (implIsInStone _ _ _ c0 x1 y1 RX7.out).mono ?_
                rintro e w8 ⟨rfl, hb8⟩
                have s8 : w8.cell? ⟨w.heap.size, 0, none⟩ = some (.slice p0 n0 cap0) := cell_kept s7 hb8
                have p8 : w8.cell? ⟨w.heap.size + 1, 0, none⟩ = some (.int .i64 x1) := cell_kept p7 hb8
                have q8 : w8.cell? ⟨w.heap.size + 1, 1, none⟩ = some (.int .i64 y1) := cell_kept q7 hb8
                have x8 : w8.cell? ⟨w5.heap.size, 0, none⟩ = some (.slice (some ⟨gx, 0, none⟩) n0 n0) := cell_kept x7 hb8
                have RX8 := Lib.hid (RX7.out.below hb8)
                have HB8 := Lib.hid (HB7.out.trans (hb8.mono HB7.out.size))
                clear hb8))
    rw [HV.out]
    clear s5 p5 q5 s6 p6 q6 x6 s7 p7 q7 x7 p8 q8 HB5 HB7 RX RX7
    go_wp2_with fail
    go_region_held3 (fun w' => w'.cell? ⟨w.heap.size, 0, none⟩ = some (.slice p0 n0 cap0) ∧ w'.cell? ⟨w5.heap.size, 0, none⟩ = some (.slice (some ⟨gx, 0, none⟩) n0 n0))
      (first | go_keep | trivial)
      (first | (go_at_call 10
                refine (toStone _ _ _ c0 _ (G0.out.below (below_drewN HB8.out _)) hs).mono ?_
                rintro e w9 ⟨gy, -, rfl, ry, hb9⟩
                have s9 : w9.cell? ⟨w.heap.size, 0, none⟩ = some (.slice p0 n0 cap0) := cell_after s8 hb9
                have x9 : w9.cell? ⟨w5.heap.size, 0, none⟩ = some (.slice (some ⟨gx, 0, none⟩) n0 n0) := cell_after x8 hb9
                rw [← hcl] at ry
                have RY := Lib.hid ry.row
                rw [hcl] at RY
                have RX9 := Lib.hid (RX8.out.after hb9)
                have HB9 := Lib.hid (below_after HB8.out hb9)
                clear ry hb9)
             | (go_at_call 12
                refine (eqStone_same _ _ _ _ _ c0 RX9.out RY.out).mono ?_
                rintro e w10 ⟨rfl, hb10⟩
                have s10 : w10.cell? ⟨w.heap.size, 0, none⟩ = some (.slice p0 n0 cap0) := cell_kept s9 hb10
                have x10 : w10.cell? ⟨w5.heap.size, 0, none⟩ = some (.slice (some ⟨gx, 0, none⟩) n0 n0) := cell_kept x9 hb10
                have HB10 := Lib.hid (HB9.out.trans (hb10.mono HB9.out.size))
                clear hb10))
    go_wp2_with fail
    go_ret
    exact ⟨rfl, HB10.out⟩
  · have hz : szV n0 = -1 := by unfold szV; rw [if_neg hs]
    have HZ := Lib.hid hz
    clear hz
    go_enter Try.func4, Try.ntmps4
    go_wp2_with fail
    refine (szStone _ _ _ _ hm).mono ?_
    rintro e w1 ⟨rfl, hb1⟩
    rw [HZ.out]
    go_wp2_with fail
    go_ret
    exact ⟨rfl, HB0.out.trans (hb1.mono (by simp <;> omega))⟩

/-! ### THE ROW's STEP -/
set_option maxRecDepth 100000 in
theorem lifted (os : Os) (started : os.Started) (H : Type) (enc : TypeId × Value → H) :
    ReturnsInHanded {} Try.checked os 4 .any (Rows.fnExactIsInStoneSpec.pre6 enc Try.prog Try.f4 Rows.fnExactIsInStoneRow.domain false) (Rows.fnExactIsInStoneSpec.post enc Try.prog Try.f4 false true false false) := by
  refine returnsInHanded_of_change (C := Try.checked) own started (by kernel_rfl) Try.func4
    (ChangeSpec.witness6 (enc := enc) (C := Try.checked) false ⟨#[], #[.agg #[.slice none 0 0], .agg #[.int .i64 0, .int .i64 0]], []⟩ 8 (by kernel_rfl) (by kernel_rfl) (by kernel_rfl) (by kernel_rfl)) ?_
  intro W base args ds gs before hval0 hW hcnd _
  have hval : ∀ (j : Nat) t v, Try.f4.params[j]? = some t → args[j]? = some v → Value.okWide Try.prog W .any base t v := hval0
  have hW' := hW
  obtain ⟨p, q, hA0, hV, rfl, hfz, hnd⟩ := hW
  have hA : DataW.TrodAll enc Try.prog W 0 (fun _ => true) true Try.f4.params.toList args.toList ds p := hA0
  rw [Try.params4] at hA hval
  obtain ⟨v0, vs0, d0, ds0, p0, q0, hargs, rfl, rfl, h0, r0⟩ := trodAll_cons hA
  obtain ⟨v1, vs1, d1, ds1, p1, q1, rfl, rfl, rfl, h1, r1⟩ := trodAll_cons r0
  obtain ⟨rfl, rfl, rfl⟩ := trodAll_nil r1
  obtain rfl : args = #[v0, v1] := by cases args; simp_all
  obtain ⟨rfl, rfl⟩ := trodVars_none hV
  have k0 := h0
  have lt0 : ∀ x ∈ p0, x.block < W.heap.size := by obtain ⟨m, hm⟩ := k0; exact DataW.trod_lt m _ _ _ hm
  obtain ⟨p0, n0, cap0, c0, rfl, g0⟩ := open_stone (hval 0 24 v0 rfl rfl) h0
  have k1 := h1
  have lt1 : ∀ x ∈ p1, x.block < W.heap.size := by obtain ⟨m, hm⟩ := k1; exact DataW.trod_lt m _ _ _ hm
  obtain ⟨x1, y1, rfl, g1⟩ := open_point (hval 1 34 v1 rfl rfl) h1
  clear hA0 hval0
  refine (walk p0 n0 cap0 c0 x1 y1 W g0 g1).mono fun e W' ⟨he, bel⟩ => ?_
  subst he
  exact ⟨_, rfl, _, _, _, [], _, [], hW', trodAll_mk1 (shut_bool Try.underlying4 _), (trodAll_cons_mk (Below.trod laidOut (by kernel_rfl) (of_decide_eq_true (by kernel_rfl)) k0 bel lt0) (trodAll_cons_mk (Below.trod laidOut (by kernel_rfl) (of_decide_eq_true (by kernel_rfl)) k1 bel lt1) trodAll_mk0)), rfl, bel.frame _, fun h => by cases h⟩

theorem over : Rows.fnExactIsInStoneRow.holds Try.pinned (OpenSpec.ofChange Rows.fnExactIsInStoneSpec) :=
  OpenClaim.holds_of_wide 4 Try.f4 rfl rfl rfl rfl rfl rfl rfl ⟨rfl, rfl, rfl, rfl, rfl⟩ rfl rfl rfl rfl rfl (by kernel_rfl) Try.func4 (by kernel_rfl)
    (of_decide_eq_true (by kernel_rfl)) (by unfold Func.isWrapper; first | (rw [if_pos (by decide +kernel)]; kernel_rfl) | (rw [if_neg (by decide +kernel)]; exact ⟨rfl, rfl⟩))
    (fun os started H enc _ => lifted os started H enc)

/-- THE STATEMENT. -/
theorem proved : Rows.FnExactIsInStoneSaid := over
#print axioms proved
end Go.Proofs.Ytkplhljpaflgdaa.fnExactIsInStone
