/- The exact law of IsLeftOf: the program's answer is the model's, and the argument is as before. -/
import Derived.Test.YtikdjcmdeapikaaStoneL
import Derived.Test.YtikdjcmdeapikaaWeightI
import Derived.Test.YtikdjcmdeapikaaWeightS
import Derived.Test.YtikdjcmdeapikaaRows
import Derived.WalkKit
import Derived.ProofKit
import Derived.OpenShut
import Derived.ShutString
import Derived.ChangeOld
import Derived.Below
namespace Go.Proofs.Ytikdjcmdeapikaa.fnExactIsLeftOf
open Go.ChangeShapes Go.WideShapes Go.ChangeAt Go.RowKit
open Go.ChangeMaps (open_string shut_string)
set_option linter.unusedVariables false

theorem own : ownKnob Try.prog.godebug = none := by kernel_rfl
theorem laidOut : laidOutB Try.prog = true := by kernel_rfl

/-! ### THE WALK: the Go text returns true, and writes nothing that was there. -/
set_option maxRecDepth 100000 in
set_option maxHeartbeats 1000000 in
theorem walk (p0 : Option Addr) (n0 cap0 : Nat) (c0 : List (Int × Int)) (a1 : Int) (w : World) (g0 : InPts w p0 n0 cap0 c0) (g1 : (Lit.int .i64 a1).wf = true) :
    Calls Try.prog 8 #[.agg #[.slice p0 n0 cap0], .int .i64 a1] w fun e w' => e = .returned (.bool true) ∧ Below w.heap.size w w' := by
  have hm : n0 ≤ maxLen := Nat.le_trans g0.2.1 g0.2.2.1
  have hcl := g0.1
  have G0 := Lib.hid g0
  clear g0
  generalize hV : leftV c0 a1 = V
  have HV := Lib.hid hV
  have hne : (V != V) = false := by simp
  clear hV
  have hb0 := (Below.refl w.heap.size w).alloc (Nat.le_refl _) (.cells #[.slice p0 n0 cap0] 40)
  have HB0 := Lib.hid hb0
  have hs0 : (w.alloc (.cells #[.slice p0 n0 cap0] 40)).cell? ⟨w.heap.size, 0, none⟩ = some (.slice p0 n0 cap0) := by go_simp
  have HS0 := Lib.hid hs0
  clear hb0 hs0
  by_cases hs : n0 ≤ 1048576
  · have hz : szV n0 = 1048576 - (n0 : Int) := by unfold szV; rw [if_pos hs]
    have HZ := Lib.hid hz
    clear hz
    go_enter Try.func8, Try.ntmps8
    go_wp2_with fail
    refine (szStone _ _ _ _ hm).mono ?_
    rintro e w1 ⟨rfl, hb1⟩
    rw [HZ.out]
    have HB1 := Lib.hid (HB0.out.trans (hb1.mono (by simp)))
    have s1 : w1.cell? ⟨w.heap.size, 0, none⟩ = some (.slice p0 n0 cap0) := (hb1.cell (p := ⟨w.heap.size, 0, none⟩) (by simp)).trans HS0.out
    clear hb1
    go_wp2_with fail
    refine (toStone _ _ _ c0 _ (G0.out.below HB1.out) hs).mono ?_
    rintro e w2 ⟨ga, -, rfl, ra, hb2⟩
    have HB2 := Lib.hid (HB1.out.trans (hb2.mono HB1.out.size))
    have s2 : w2.cell? ⟨w.heap.size, 0, none⟩ = some (.slice p0 n0 cap0) := (hb2.cell (p := ⟨w.heap.size, 0, none⟩) (cell_block_lt s1)).trans s1
    clear hb2 s1 HB1
    rw [← hcl] at ra
    go_wp2_with fail
    rw [← hcl]
    refine (specIsLeftOf _ _ _ c0 a1 ra.row).mono ?_
    rintro e w3 ⟨rfl, hb3⟩
    rw [HV.out]
    have HB3 := Lib.hid (HB2.out.trans (hb3.mono HB2.out.size))
    have s3 : w3.cell? ⟨w.heap.size, 0, none⟩ = some (.slice p0 n0 cap0) := (hb3.cell (p := ⟨w.heap.size, 0, none⟩) (cell_block_lt s2)).trans s2
    clear hb3 s2 HB2 ra
    rw [hcl]
    go_wp2_with fail
    refine (toStone _ _ _ c0 _ (G0.out.below HB3.out) hs).mono ?_
    rintro e w4 ⟨gx, -, rfl, rx, hb4⟩
    have HB4 := Lib.hid (HB3.out.trans (hb4.mono HB3.out.size))
    have s4 : w4.cell? ⟨w.heap.size, 0, none⟩ = some (.slice p0 n0 cap0) := (hb4.cell (p := ⟨w.heap.size, 0, none⟩) (cell_block_lt s3)).trans s3
    clear hb4 s3 HB3
    go_wp2_with fail
    have hb5 := HB4.out.alloc HB4.out.size (.cells #[.slice (some ⟨gx, 0, none⟩) n0 n0] 26)
    have HB5 := Lib.hid hb5
    clear hb5
    have RX := Lib.hid rx
    refine (implIsLeftOf _ _ _ c0 a1 (by have := (RX.out.alloc (.cells #[.slice (some ⟨gx, 0, none⟩) n0 n0] 26)).row; rw [hcl] at this; exact this)).mono ?_
    rintro e w6 ⟨rfl, hb6⟩
    rw [HV.out]
    have s6 : w6.cell? ⟨w.heap.size, 0, none⟩ = some (.slice p0 n0 cap0) := (hb6.cell (p := ⟨w.heap.size, 0, none⟩) (by have := cell_block_lt s4; simp at this ⊢; omega)).trans (by have := cell_block_lt s4; rw [World.cell?_alloc_lt _ _ _ (by simpa using this)]; exact s4)
    have x6 : w6.cell? ⟨w4.heap.size, 0, none⟩ = some (.slice (some ⟨gx, 0, none⟩) n0 n0) := (hb6.cell (p := ⟨w4.heap.size, 0, none⟩) (by simp)).trans (by go_simp)
    have HB6 := Lib.hid (HB5.out.trans (hb6.mono HB5.out.size))
    have RX6 := Lib.hid ((RX.out.alloc (.cells #[.slice (some ⟨gx, 0, none⟩) n0 n0] 26)).below hb6)
    have hne : w.heap.size < w4.heap.size := cell_block_lt s4
    clear hb6 s4 HB5 RX rx HB4
    go_wp2_with fail
    go_region_held3 (fun w' => w'.cell? ⟨w.heap.size, 0, none⟩ = some (.slice p0 n0 cap0) ∧ w'.cell? ⟨w4.heap.size, 0, none⟩ = some (.slice (some ⟨gx, 0, none⟩) n0 n0))
      (first | go_keep | trivial)
      (first | (go_at_call 23
                refine (toStone _ _ _ c0 _ (G0.out.below (below_drewN HB6.out _)) hs).mono ?_
                rintro e w7 ⟨gy, -, rfl, ry, hb7⟩
                have s7 : w7.cell? ⟨w.heap.size, 0, none⟩ = some (.slice p0 n0 cap0) := cell_after s6 hb7
                have x7 : w7.cell? ⟨w4.heap.size, 0, none⟩ = some (.slice (some ⟨gx, 0, none⟩) n0 n0) := cell_after x6 hb7
                have RY := Lib.hid ry
                have RX7 := Lib.hid (RX6.out.after hb7)
                have HB7 := Lib.hid (below_after HB6.out hb7)
                clear ry hb7)
             | (go_at_call 24
                refine (eqStone_same _ _ _ _ _ c0 (by have := RX7.out.row; rw [hcl] at this; exact this) (by have := RY.out; rw [← hcl] at this; have h2 := this.row; rw [hcl] at h2; exact h2)).mono ?_
                rintro e w8 ⟨rfl, hb8⟩
                have s8 : w8.cell? ⟨w.heap.size, 0, none⟩ = some (.slice p0 n0 cap0) := cell_kept s7 hb8
                have x8 : w8.cell? ⟨w4.heap.size, 0, none⟩ = some (.slice (some ⟨gx, 0, none⟩) n0 n0) := cell_kept x7 hb8
                have HB8 := Lib.hid (HB7.out.trans (hb8.mono HB7.out.size))
                clear hb8))
    go_wp2_with fail
    go_ret
    exact ⟨rfl, HB8.out⟩
  · have hz : szV n0 = -1 := by unfold szV; rw [if_neg hs]
    have HZ := Lib.hid hz
    clear hz
    go_enter Try.func8, Try.ntmps8
    go_wp2_with fail
    refine (szStone _ _ _ _ hm).mono ?_
    rintro e w1 ⟨rfl, hb1⟩
    rw [HZ.out]
    go_wp2_with fail
    go_ret
    exact ⟨rfl, HB0.out.trans (hb1.mono (by simp))⟩

/-! ### THE ROW's STEP -/
set_option maxRecDepth 100000 in
theorem lifted (os : Os) (started : os.Started) (H : Type) (enc : TypeId × Value → H) :
    ReturnsInHanded {} Try.checked os 8 .any (Rows.fnExactIsLeftOfSpec.pre6 enc Try.prog Try.f8 Rows.fnExactIsLeftOfRow.domain false) (Rows.fnExactIsLeftOfSpec.post enc Try.prog Try.f8 false true false false) := by
  refine returnsInHanded_of_change (C := Try.checked) own started (by kernel_rfl) Try.func8
    (ChangeSpec.witness6 (enc := enc) (C := Try.checked) false ⟨#[], #[.agg #[.slice none 0 0], .int .i64 0], []⟩ 8 (by kernel_rfl) (by kernel_rfl) (by kernel_rfl) (by kernel_rfl)) ?_
  intro W base args ds gs before hval0 hW hcnd _
  have hval : ∀ (j : Nat) t v, Try.f8.params[j]? = some t → args[j]? = some v → Value.okWide Try.prog W .any base t v := hval0
  have hW' := hW
  obtain ⟨p, q, hA0, hV, rfl, hfz, hnd⟩ := hW
  have hA : DataW.TrodAll enc Try.prog W 0 (fun _ => true) true Try.f8.params.toList args.toList ds p := hA0
  rw [Try.params8] at hA hval
  obtain ⟨v0, vs0, d0, ds0, p0, q0, hargs, rfl, rfl, h0, r0⟩ := trodAll_cons hA
  obtain ⟨v1, vs1, d1, ds1, p1, q1, rfl, rfl, rfl, h1, r1⟩ := trodAll_cons r0
  obtain ⟨rfl, rfl, rfl⟩ := trodAll_nil r1
  obtain rfl : args = #[v0, v1] := by cases args; simp_all
  obtain ⟨rfl, rfl⟩ := trodVars_none hV
  have k0 := h0
  have lt0 : ∀ x ∈ p0, x.block < W.heap.size := by obtain ⟨m, hm⟩ := k0; exact DataW.trod_lt m _ _ _ hm
  obtain ⟨p0, n0, cap0, c0, rfl, g0⟩ := open_stone (hval 0 40 v0 rfl rfl) h0
  have k1 := h1
  have lt1 : ∀ x ∈ p1, x.block < W.heap.size := by obtain ⟨m, hm⟩ := k1; exact DataW.trod_lt m _ _ _ hm
  obtain ⟨a1, rfl, rfl, rfl, g1⟩ := open_int Try.underlying3 (hval 1 3 v1 rfl rfl) h1
  clear hA0 hval0
  refine (walk p0 n0 cap0 c0 a1 W g0 g1).mono fun e W' ⟨he, bel⟩ => ?_
  subst he
  exact ⟨_, rfl, _, _, _, [], _, [], hW', trodAll_mk1 (shut_bool Try.underlying4 _), (trodAll_cons_mk (Below.trod laidOut (by kernel_rfl) (of_decide_eq_true (by kernel_rfl)) k0 bel lt0) (trodAll_cons_mk (Below.trod laidOut (by kernel_rfl) (of_decide_eq_true (by kernel_rfl)) k1 bel lt1) trodAll_mk0)), rfl, bel.frame _, fun h => by cases h⟩

theorem over : Rows.fnExactIsLeftOfRow.holds Try.pinned (OpenSpec.ofChange Rows.fnExactIsLeftOfSpec) :=
  OpenClaim.holds_of_wide 8 Try.f8 rfl rfl rfl rfl rfl rfl rfl ⟨rfl, rfl, rfl, rfl, rfl⟩ rfl rfl rfl rfl rfl (by kernel_rfl) Try.func8 (by kernel_rfl)
    (of_decide_eq_true (by kernel_rfl)) (by unfold Func.isWrapper; first | (rw [if_pos (by decide +kernel)]; kernel_rfl) | (rw [if_neg (by decide +kernel)]; exact ⟨rfl, rfl⟩))
    (fun os started H enc _ => lifted os started H enc)

/-- THE STATEMENT. -/
theorem proved : Rows.FnExactIsLeftOfSaid := over
#print axioms proved
end Go.Proofs.Ytikdjcmdeapikaa.fnExactIsLeftOf
