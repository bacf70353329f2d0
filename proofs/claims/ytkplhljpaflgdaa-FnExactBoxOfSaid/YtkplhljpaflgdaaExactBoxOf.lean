/- The exact law of BoxOf: the program's answer is the model's, and the argument is as before. -/
import Derived.Test.YtkplhljpaflgdaaStoneL
import Derived.Test.YtkplhljpaflgdaaStoneD
import Derived.Test.YtkplhljpaflgdaaRows
import Derived.WalkKit
import Derived.ProofKit
import Derived.OpenShut
import Derived.ShutString
import Derived.ChangeOld
import Derived.Below
namespace Go.Proofs.Ytkplhljpaflgdaa.fnExactBoxOf
open Go.ChangeShapes Go.WideShapes Go.ChangeAt Go.RowKit
open Go.ChangeMaps (open_string shut_string)
set_option linter.unusedVariables false

theorem own : ownKnob Try.prog.godebug = none := by kernel_rfl
theorem laidOut : laidOutB Try.prog = true := by kernel_rfl

/-! ### THE WALK: the Go text returns true, and writes nothing that was there. -/
theorem walk (p0 : Option Addr) (n0 cap0 : Nat) (c0 : List (Int × Int)) (w : World) (g0 : InPts w p0 n0 cap0 c0) :
    Calls Try.prog 6 #[.agg #[.slice p0 n0 cap0]] w fun e w' => e = .returned (.bool true) ∧ Below w.heap.size w w' := by
  have hm : n0 ≤ maxLen := Nat.le_trans g0.2.1 g0.2.2.1
  have hcl := g0.1
  have G0 := Lib.hid g0
  clear g0
  generalize hV1 : boxV c0 loX = V1
  generalize hV2 : boxV c0 loY = V2
  generalize hV3 : boxV c0 hiX = V3
  generalize hV4 : boxV c0 hiY = V4
  have HV1 := Lib.hid hV1
  have HV2 := Lib.hid hV2
  have HV3 := Lib.hid hV3
  have HV4 := Lib.hid hV4
  clear hV1 hV2 hV3 hV4
  have hb0 := (Below.refl w.heap.size w).alloc (Nat.le_refl _) (.cells #[.slice p0 n0 cap0] 24)
  have HB0 := Lib.hid hb0
  have hs0 : (w.alloc (.cells #[.slice p0 n0 cap0] 24)).cell? ⟨w.heap.size, 0, none⟩ = some (.slice p0 n0 cap0) := by go_simp
  have HS0 := Lib.hid hs0
  clear hb0 hs0
  by_cases hs : n0 ≤ 1048576
  · have hz : szV n0 = 1048576 - (n0 : Int) := by unfold szV; rw [if_pos hs]
    have HZ := Lib.hid hz
    clear hz
    go_enter Try.func6, Try.ntmps6
    go_wp2_with fail
    refine (szStone _ _ _ _ hm).mono ?_
    rintro e w1 ⟨rfl, hb1⟩
    rw [HZ.out]
    have HB1 := Lib.hid (HB0.out.trans (hb1.mono (by simp)))
    have s1 : w1.cell? ⟨w.heap.size, 0, none⟩ = some (.slice p0 n0 cap0) := (hb1.cell (p := ⟨w.heap.size, 0, none⟩) (by simp)).trans HS0.out
    clear hb1
    go_wp2_with fail
    refine (toStone _ _ _ c0 _ (G0.out.below HB1.out) hs).mono ?_
    rintro e w2 ⟨ga, -, rfl, ra, hb2⟩
    have HB2 := Lib.hid (HB1.out.trans (hb2.mono HB1.out.size))
    have s2 : w2.cell? ⟨w.heap.size, 0, none⟩ = some (.slice p0 n0 cap0) := (hb2.cell (p := ⟨w.heap.size, 0, none⟩) (cell_block_lt s1)).trans s1
    clear hb2 s1 HB1
    rw [← hcl] at ra
    go_wp2_with fail
    rw [← hcl]
    refine (specBoxOf _ _ _ c0 ra.row).mono ?_
    rintro e w3 ⟨rfl, hb3⟩
    rw [HV1.out, HV2.out, HV3.out, HV4.out]
    have hb23 := HB2.out.trans (hb3.mono HB2.out.size)
    have s3 := cell_kept s2 hb3
    have l3 := cell_block_lt s3
    dsimp only at l3
    have HB3 := Lib.hid (below_al (below_al hb23 (.cells #[.int .i64 V1, .int .i64 V2] 36)) (.cells #[.int .i64 V3, .int .i64 V4] 36))
    have t3 : ((w3.alloc (.cells #[.int .i64 V1, .int .i64 V2] 36)).alloc (.cells #[.int .i64 V3, .int .i64 V4] 36)).cell? ⟨w.heap.size, 0, none⟩ = some (.slice p0 n0 cap0) := by rw [World.cell?_alloc_lt _ _ _ (by simp; omega), World.cell?_alloc_lt _ _ _ (by simpa using l3)]; exact s3
    have k0 : ((w3.alloc (.cells #[.int .i64 V1, .int .i64 V2] 36)).alloc (.cells #[.int .i64 V3, .int .i64 V4] 36)).cell? ⟨w3.heap.size, 0, none⟩ = some (.int .i64 V1) := by go_simp
    have k1 : ((w3.alloc (.cells #[.int .i64 V1, .int .i64 V2] 36)).alloc (.cells #[.int .i64 V3, .int .i64 V4] 36)).cell? ⟨w3.heap.size, 1, none⟩ = some (.int .i64 V2) := by go_simp
    have k2 : ((w3.alloc (.cells #[.int .i64 V1, .int .i64 V2] 36)).alloc (.cells #[.int .i64 V3, .int .i64 V4] 36)).cell? ⟨w3.heap.size + 1, 0, none⟩ = some (.int .i64 V3) := by go_simp
    have k3 : ((w3.alloc (.cells #[.int .i64 V1, .int .i64 V2] 36)).alloc (.cells #[.int .i64 V3, .int .i64 V4] 36)).cell? ⟨w3.heap.size + 1, 1, none⟩ = some (.int .i64 V4) := by go_simp
    clear hb3 s2 HB2 ra hb23 s3
    rw [hcl]
    go_wp2_with fail
    refine (toStone _ _ _ c0 _ (G0.out.below HB3.out) hs).mono ?_
    rintro e w4 ⟨gx, -, rfl, rx, hb4⟩
    have hb34 := HB3.out.trans (hb4.mono HB3.out.size)
    have s4 := cell_kept t3 hb4
    have l4 := cell_block_lt s4
    dsimp only at l4
    have l4' : w3.heap.size + 1 < w4.heap.size := by have := hb4.size; simp at this; omega
    have m0 : w4.cell? ⟨w3.heap.size, 0, none⟩ = some (.int .i64 V1) := cell_kept k0 hb4
    have m1 : w4.cell? ⟨w3.heap.size, 1, none⟩ = some (.int .i64 V2) := cell_kept k1 hb4
    have m2 : w4.cell? ⟨w3.heap.size + 1, 0, none⟩ = some (.int .i64 V3) := cell_kept k2 hb4
    have m3 : w4.cell? ⟨w3.heap.size + 1, 1, none⟩ = some (.int .i64 V4) := cell_kept k3 hb4
    rw [← hcl] at rx
    have RX := Lib.hid (rx.alloc (.cells #[.slice (some ⟨gx, 0, none⟩) n0 n0] 29)).row
    rw [hcl] at RX
    have HB4 := Lib.hid (below_al hb34 (.cells #[.slice (some ⟨gx, 0, none⟩) n0 n0] 29))
    have s5 : (w4.alloc (.cells #[.slice (some ⟨gx, 0, none⟩) n0 n0] 29)).cell? ⟨w.heap.size, 0, none⟩ = some (.slice p0 n0 cap0) := by rw [World.cell?_alloc_lt _ _ _ (by simpa using l4)]; exact s4
    have x5 : (w4.alloc (.cells #[.slice (some ⟨gx, 0, none⟩) n0 n0] 29)).cell? ⟨w4.heap.size, 0, none⟩ = some (.slice (some ⟨gx, 0, none⟩) n0 n0) := by go_simp
    have q0 : (w4.alloc (.cells #[.slice (some ⟨gx, 0, none⟩) n0 n0] 29)).cell? ⟨w3.heap.size, 0, none⟩ = some (.int .i64 V1) := by rw [World.cell?_alloc_lt _ _ _ (by simp; omega)]; exact m0
    have q1 : (w4.alloc (.cells #[.slice (some ⟨gx, 0, none⟩) n0 n0] 29)).cell? ⟨w3.heap.size, 1, none⟩ = some (.int .i64 V2) := by rw [World.cell?_alloc_lt _ _ _ (by simp; omega)]; exact m1
    have q2 : (w4.alloc (.cells #[.slice (some ⟨gx, 0, none⟩) n0 n0] 29)).cell? ⟨w3.heap.size + 1, 0, none⟩ = some (.int .i64 V3) := by rw [World.cell?_alloc_lt _ _ _ (by simp; omega)]; exact m2
    have q3 : (w4.alloc (.cells #[.slice (some ⟨gx, 0, none⟩) n0 n0] 29)).cell? ⟨w3.heap.size + 1, 1, none⟩ = some (.int .i64 V4) := by rw [World.cell?_alloc_lt _ _ _ (by simp; omega)]; exact m3
    clear hb4 hb34 t3 HB3 rx s4 k0 k1 k2 k3 m0 m1 m2 m3
    go_wp2_with fail
    refine (implBoxOf _ _ _ c0 RX.out).mono ?_
    rintro e w6 ⟨rfl, hb6⟩
    rw [HV1.out, HV2.out, HV3.out, HV4.out]
    have hb46 := HB4.out.trans (hb6.mono HB4.out.size)
    have s6 := cell_kept s5 hb6
    have x6 := cell_kept x5 hb6
    have l6 := cell_block_lt x6
    dsimp only at l6
    have r0 : w6.cell? ⟨w3.heap.size, 0, none⟩ = some (.int .i64 V1) := cell_kept q0 hb6
    have r1 : w6.cell? ⟨w3.heap.size, 1, none⟩ = some (.int .i64 V2) := cell_kept q1 hb6
    have r2 : w6.cell? ⟨w3.heap.size + 1, 0, none⟩ = some (.int .i64 V3) := cell_kept q2 hb6
    have r3 : w6.cell? ⟨w3.heap.size + 1, 1, none⟩ = some (.int .i64 V4) := cell_kept q3 hb6
    have HB6 := Lib.hid (below_al (below_al hb46 (.cells #[.int .i64 V1, .int .i64 V2] 36)) (.cells #[.int .i64 V3, .int .i64 V4] 36))
    have RX6 := Lib.hid ((RX.out.below hb6).below ((Below.refl w6.heap.size w6).alloc (Nat.le_refl _) (.cells #[.int .i64 V1, .int .i64 V2] 36) |>.alloc (by simp) (.cells #[.int .i64 V3, .int .i64 V4] 36)))
    have s7 : ((w6.alloc (.cells #[.int .i64 V1, .int .i64 V2] 36)).alloc (.cells #[.int .i64 V3, .int .i64 V4] 36)).cell? ⟨w.heap.size, 0, none⟩ = some (.slice p0 n0 cap0) := by rw [World.cell?_alloc_lt _ _ _ (by simp; omega), World.cell?_alloc_lt _ _ _ (by simp; omega)]; exact s6
    have x7 : ((w6.alloc (.cells #[.int .i64 V1, .int .i64 V2] 36)).alloc (.cells #[.int .i64 V3, .int .i64 V4] 36)).cell? ⟨w4.heap.size, 0, none⟩ = some (.slice (some ⟨gx, 0, none⟩) n0 n0) := by rw [World.cell?_alloc_lt _ _ _ (by simp; omega), World.cell?_alloc_lt _ _ _ (by simpa using l6)]; exact x6
    have u0 : ((w6.alloc (.cells #[.int .i64 V1, .int .i64 V2] 36)).alloc (.cells #[.int .i64 V3, .int .i64 V4] 36)).cell? ⟨w3.heap.size, 0, none⟩ = some (.int .i64 V1) := by rw [World.cell?_alloc_lt _ _ _ (by simp; omega), World.cell?_alloc_lt _ _ _ (by simp; omega)]; exact r0
    have u1 : ((w6.alloc (.cells #[.int .i64 V1, .int .i64 V2] 36)).alloc (.cells #[.int .i64 V3, .int .i64 V4] 36)).cell? ⟨w3.heap.size, 1, none⟩ = some (.int .i64 V2) := by rw [World.cell?_alloc_lt _ _ _ (by simp; omega), World.cell?_alloc_lt _ _ _ (by simp; omega)]; exact r1
    have u2 : ((w6.alloc (.cells #[.int .i64 V1, .int .i64 V2] 36)).alloc (.cells #[.int .i64 V3, .int .i64 V4] 36)).cell? ⟨w3.heap.size + 1, 0, none⟩ = some (.int .i64 V3) := by rw [World.cell?_alloc_lt _ _ _ (by simp; omega), World.cell?_alloc_lt _ _ _ (by simp; omega)]; exact r2
    have u3 : ((w6.alloc (.cells #[.int .i64 V1, .int .i64 V2] 36)).alloc (.cells #[.int .i64 V3, .int .i64 V4] 36)).cell? ⟨w3.heap.size + 1, 1, none⟩ = some (.int .i64 V4) := by rw [World.cell?_alloc_lt _ _ _ (by simp; omega), World.cell?_alloc_lt _ _ _ (by simp; omega)]; exact r3
    have v0 : ((w6.alloc (.cells #[.int .i64 V1, .int .i64 V2] 36)).alloc (.cells #[.int .i64 V3, .int .i64 V4] 36)).cell? ⟨w6.heap.size, 0, none⟩ = some (.int .i64 V1) := by go_simp
    have v1 : ((w6.alloc (.cells #[.int .i64 V1, .int .i64 V2] 36)).alloc (.cells #[.int .i64 V3, .int .i64 V4] 36)).cell? ⟨w6.heap.size, 1, none⟩ = some (.int .i64 V2) := by go_simp
    have v2 : ((w6.alloc (.cells #[.int .i64 V1, .int .i64 V2] 36)).alloc (.cells #[.int .i64 V3, .int .i64 V4] 36)).cell? ⟨w6.heap.size + 1, 0, none⟩ = some (.int .i64 V3) := by go_simp
    have v3 : ((w6.alloc (.cells #[.int .i64 V1, .int .i64 V2] 36)).alloc (.cells #[.int .i64 V3, .int .i64 V4] 36)).cell? ⟨w6.heap.size + 1, 1, none⟩ = some (.int .i64 V4) := by go_simp
    clear hb6 hb46 s5 x5 HB4 RX q0 q1 q2 q3 r0 r1 r2 r3 s6 x6
    go_wp2_with fail
    refine (eqPoint_same _ _ _).mono ?_
    rintro e w8 ⟨rfl, hb8⟩
    have s8 := cell_kept s7 hb8
    have x8 := cell_kept x7 hb8
    have u28 := cell_kept u2 hb8
    have u38 := cell_kept u3 hb8
    have v28 := cell_kept v2 hb8
    have v38 := cell_kept v3 hb8
    have HB8 := Lib.hid (HB6.out.trans (hb8.mono HB6.out.size))
    have RX8 := Lib.hid (RX6.out.below hb8)
    clear hb8 s7 x7 u0 u1 u2 u3 v0 v1 v2 v3 HB6 RX6
    go_wp2_with fail
    refine (eqPoint_same _ _ _).mono ?_
    rintro e w9 ⟨rfl, hb9⟩
    have s9 := cell_kept s8 hb9
    have x9 := cell_kept x8 hb9
    have HB9 := Lib.hid (HB8.out.trans (hb9.mono HB8.out.size))
    have RX9 := Lib.hid (RX8.out.below hb9)
    clear hb9 s8 x8 u28 u38 v28 v38 HB8 RX8
    go_wp2_with fail
    go_region_held3 (fun w' => w'.cell? ⟨w.heap.size, 0, none⟩ = some (.slice p0 n0 cap0) ∧ w'.cell? ⟨w4.heap.size, 0, none⟩ = some (.slice (some ⟨gx, 0, none⟩) n0 n0))
      (first | go_keep | trivial)
      (first | (go_at_call 10
                refine (toStone _ _ _ c0 _ (G0.out.below (below_drewN HB9.out _)) hs).mono ?_
                rintro e w10 ⟨gy, -, rfl, ry, hb10⟩
                have s10 : w10.cell? ⟨w.heap.size, 0, none⟩ = some (.slice p0 n0 cap0) := cell_after s9 hb10
                have x10 : w10.cell? ⟨w4.heap.size, 0, none⟩ = some (.slice (some ⟨gx, 0, none⟩) n0 n0) := cell_after x9 hb10
                rw [← hcl] at ry
                have RY := Lib.hid ry.row
                rw [hcl] at RY
                have RX10 := Lib.hid (RX9.out.after hb10)
                have HB10 := Lib.hid (below_after HB9.out hb10)
                clear ry hb10)
             | (go_at_call 12
                refine (eqStone_same _ _ _ _ _ c0 RX10.out RY.out).mono ?_
                rintro e w11 ⟨rfl, hb11⟩
                have s11 : w11.cell? ⟨w.heap.size, 0, none⟩ = some (.slice p0 n0 cap0) := cell_kept s10 hb11
                have x11 : w11.cell? ⟨w4.heap.size, 0, none⟩ = some (.slice (some ⟨gx, 0, none⟩) n0 n0) := cell_kept x10 hb11
                have HB11 := Lib.hid (HB10.out.trans (hb11.mono HB10.out.size))
                clear hb11))
    go_wp2_with fail
    go_ret
    exact ⟨rfl, HB11.out⟩
  · have hz : szV n0 = -1 := by unfold szV; rw [if_neg hs]
    have HZ := Lib.hid hz
    clear hz
    go_enter Try.func6, Try.ntmps6
    go_wp2_with fail
    refine (szStone _ _ _ _ hm).mono ?_
    rintro e w1 ⟨rfl, hb1⟩
    rw [HZ.out]
    go_wp2_with fail
    go_ret
    exact ⟨rfl, HB0.out.trans (hb1.mono (by simp))⟩

/-! ### THE ROW's STEP -/
set_option maxRecDepth 100000 in
theorem lifted (os : Os) (started : os.Started) (H : Type) (enc : TypeId × Value → H) :
    ReturnsInHanded {} Try.checked os 6 .any (Rows.fnExactBoxOfSpec.pre6 enc Try.prog Try.f6 Rows.fnExactBoxOfRow.domain false) (Rows.fnExactBoxOfSpec.post enc Try.prog Try.f6 false true false false) := by
  refine returnsInHanded_of_change (C := Try.checked) own started (by kernel_rfl) Try.func6
    (ChangeSpec.witness6 (enc := enc) (C := Try.checked) false ⟨#[], #[.agg #[.slice none 0 0]], []⟩ 8 (by kernel_rfl) (by kernel_rfl) (by kernel_rfl) (by kernel_rfl)) ?_
  intro W base args ds gs before hval0 hW hcnd _
  have hval : ∀ (j : Nat) t v, Try.f6.params[j]? = some t → args[j]? = some v → Value.okWide Try.prog W .any base t v := hval0
  have hW' := hW
  obtain ⟨p, q, hA0, hV, rfl, hfz, hnd⟩ := hW
  have hA : DataW.TrodAll enc Try.prog W 0 (fun _ => true) true Try.f6.params.toList args.toList ds p := hA0
  rw [Try.params6] at hA hval
  obtain ⟨v0, vs0, d0, ds0, p0, q0, hargs, rfl, rfl, h0, r0⟩ := trodAll_cons hA
  obtain ⟨rfl, rfl, rfl⟩ := trodAll_nil r0
  obtain rfl : args = #[v0] := by cases args; simp_all
  obtain ⟨rfl, rfl⟩ := trodVars_none hV
  have k0 := h0
  have lt0 : ∀ x ∈ p0, x.block < W.heap.size := by obtain ⟨m, hm⟩ := k0; exact DataW.trod_lt m _ _ _ hm
  obtain ⟨p0, n0, cap0, c0, rfl, g0⟩ := open_stone (hval 0 24 v0 rfl rfl) h0
  clear hA0 hval0
  refine (walk p0 n0 cap0 c0 W g0).mono fun e W' ⟨he, bel⟩ => ?_
  subst he
  exact ⟨_, rfl, _, _, _, [], _, [], hW', trodAll_mk1 (shut_bool Try.underlying4 _), (trodAll_cons_mk (Below.trod laidOut (by kernel_rfl) (of_decide_eq_true (by kernel_rfl)) k0 bel lt0) trodAll_mk0), rfl, bel.frame _, fun h => by cases h⟩

theorem over : Rows.fnExactBoxOfRow.holds Try.pinned (OpenSpec.ofChange Rows.fnExactBoxOfSpec) :=
  OpenClaim.holds_of_wide 6 Try.f6 rfl rfl rfl rfl rfl rfl rfl ⟨rfl, rfl, rfl, rfl, rfl⟩ rfl rfl rfl rfl rfl (by kernel_rfl) Try.func6 (by kernel_rfl)
    (of_decide_eq_true (by kernel_rfl)) (by unfold Func.isWrapper; first | (rw [if_pos (by decide +kernel)]; kernel_rfl) | (rw [if_neg (by decide +kernel)]; exact ⟨rfl, rfl⟩))
    (fun os started H enc _ => lifted os started H enc)

/-- THE STATEMENT. -/
theorem proved : Rows.FnExactBoxOfSaid := over
#print axioms proved
end Go.Proofs.Ytkplhljpaflgdaa.fnExactBoxOf
