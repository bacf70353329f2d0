/- The exact law of IsStraight: the program's answer is the model's; the arguments are as before. -/
import Derived.Test.YtoholdpobkgffaaArchL
import Derived.Test.YtoholdpobkgffaaStraS
import Derived.Test.YtoholdpobkgffaaStraI
import Derived.Test.YtoholdpobkgffaaRows
import Derived.WalkKit
import Derived.ProofKit
import Derived.OpenShut
import Derived.ShutString
import Derived.ChangeOld
import Derived.Below
namespace Go.Proofs.Ytoholdpobkgffaa.fnExactIsStraight
set_option maxRecDepth 100000
open Go.ChangeShapes Go.WideShapes Go.ChangeAt Go.RowKit
open Go.ChangeMaps (open_string shut_string)
set_option linter.unusedVariables false

theorem own : ownKnob Try.prog.godebug = none := by kernel_rfl
theorem laidOut : laidOutB Try.prog = true := by kernel_rfl

/-! ### THE WALK: the Go text returns true, and writes nothing that was there. -/
set_option maxRecDepth 100000 in
set_option maxHeartbeats 1000000 in
theorem walk (p0 : Option Addr) (n0 cap0 : Nat) (c0 : List Jt) (w : World) (g0 : InJts w p0 n0 cap0 c0) :
    Calls Try.prog 3 #[.agg #[.slice p0 n0 cap0]] w fun e w' => e = .returned (.bool true) ∧ Below w.heap.size w w' := by
  have hm : n0 ≤ maxLen := Nat.le_trans g0.2.1 g0.2.2.1
  have hcl := g0.1
  have G0 := Lib.hid g0
  have HCL := Lib.hid hcl
  clear g0 hcl
  generalize hV : strV c0 = V
  have HV := Lib.hid hV
  clear hV
  have hb0 := (Below.refl w.heap.size w).alloc (Nat.le_refl _) (.cells #[.slice p0 n0 cap0] 24)
  have HB0 := Lib.hid hb0
  have hs0 : (w.alloc (.cells #[.slice p0 n0 cap0] 24)).cell? ⟨w.heap.size, 0, none⟩ = some (.slice p0 n0 cap0) := by go_simp
  have HS0 := Lib.hid hs0
  clear hb0 hs0
  by_cases hs : n0 ≤ 1048576
  · have hz : szJ n0 = 1048576 - (n0 : Int) := by unfold szJ; rw [if_pos hs]
    have HZ := Lib.hid hz
    clear hz
    go_enter Try.func3, Try.ntmps3
    go_wp2_with fail
    refine (szArch _ _ _ _ hm).mono ?_
    rintro e w1 ⟨rfl, hb1⟩
    rw [HZ.out]
    have HB1 := Lib.hid (HB0.out.trans (hb1.mono (by simp)))
    have s1 := cell_kept HS0.out hb1
    clear hb1
    go_wp2_with fail
    refine (toArch _ _ _ c0 _ (G0.out.below HB1.out) hs).mono ?_
    rintro e w2 ⟨ga, -, rfl, ra, hb2⟩
    have HB2 := Lib.hid (HB1.out.trans (hb2.mono HB1.out.size))
    have RA := Lib.hid ra
    have s2 := cell_kept s1 hb2
    clear hb2 s1 HB1 ra
    go_wp2_with fail
    refine (specIsStraight _ _ _ _ _ c0 RA.out HCL.out hs).mono ?_
    rintro e w3 ⟨rfl, hb3⟩
    rw [HV.out]
    have HB3 := Lib.hid (HB2.out.trans (hb3.mono HB2.out.size))
    have s3 := cell_kept s2 hb3
    clear hb3 s2 HB2 RA
    go_wp2_with fail
    refine (toArch _ _ _ c0 _ (G0.out.below HB3.out) hs).mono ?_
    rintro e w4 ⟨gx, -, rfl, rx, hb4⟩
    have HB4 := Lib.hid (HB3.out.trans (hb4.mono HB3.out.size))
    have s4 := cell_kept s3 hb4
    clear hb4 s3 HB3
    go_wp2_with fail
    have hb5 := HB4.out.alloc HB4.out.size (.cells #[.slice (some ⟨gx, 0, none⟩) n0 n0] 29)
    have HB5 := Lib.hid hb5
    clear hb5
    have RX := Lib.hid rx
    refine (implIsStraight _ _ _ _ _ c0 (RX.out.alloc (.cells #[.slice (some ⟨gx, 0, none⟩) n0 n0] 29)) HCL.out).mono ?_
    rintro e w6 ⟨rfl, hb6⟩
    rw [HV.out]
    have s6 : w6.cell? ⟨w.heap.size, 0, none⟩ = some (.slice p0 n0 cap0) := (hb6.cell (p := ⟨w.heap.size, 0, none⟩) (by have := cell_block_lt s4; simp at this ⊢; omega)).trans (by have := cell_block_lt s4; rw [World.cell?_alloc_lt _ _ _ (by simpa using this)]; exact s4)
    have x6 : w6.cell? ⟨w4.heap.size, 0, none⟩ = some (.slice (some ⟨gx, 0, none⟩) n0 n0) := (hb6.cell (p := ⟨w4.heap.size, 0, none⟩) (by simp)).trans (by go_simp)
    have HB6 := Lib.hid (HB5.out.trans (hb6.mono HB5.out.size))
    have hrx := ((RX.out.alloc (.cells #[.slice (some ⟨gx, 0, none⟩) n0 n0] 29)).below hb6).row
    rw [HCL.out] at hrx
    have RX6 := Lib.hid hrx
    have hne1 : w.heap.size < w4.heap.size := cell_block_lt s4
    clear hb6 s4 HB5 RX rx HB4 hrx
    go_wp2_with fail
    go_region_held3 (fun w' => w'.cell? ⟨w.heap.size, 0, none⟩ = some (.slice p0 n0 cap0) ∧ w'.cell? ⟨w4.heap.size, 0, none⟩ = some (.slice (some ⟨gx, 0, none⟩) n0 n0))
      (first | go_keep | trivial)
      (first | (go_at_call 6
                refine (toArch _ _ _ c0 _ (G0.out.below (below_drewN HB6.out _)) hs).mono ?_
                rintro e w7 ⟨gy, -, rfl, ry, hb7⟩
                have s7 : w7.cell? ⟨w.heap.size, 0, none⟩ = some (.slice p0 n0 cap0) := cell_after s6 hb7
                have x7 : w7.cell? ⟨w4.heap.size, 0, none⟩ = some (.slice (some ⟨gx, 0, none⟩) n0 n0) := cell_after x6 hb7
                have hry := ry.row
                rw [HCL.out] at hry
                have RY := Lib.hid hry
                have RX7 := Lib.hid (RX6.out.after hb7)
                have HB7 := Lib.hid (below_after HB6.out hb7)
                clear ry hry hb7)
             | (go_at_call 8
                refine (eqArch_same _ _ _ _ _ c0 RX7.out RY.out).mono ?_
                rintro e w8 ⟨rfl, hb8⟩
                have s8 : w8.cell? ⟨w.heap.size, 0, none⟩ = some (.slice p0 n0 cap0) := cell_kept s7 hb8
                have x8 : w8.cell? ⟨w4.heap.size, 0, none⟩ = some (.slice (some ⟨gx, 0, none⟩) n0 n0) := cell_kept x7 hb8
                have HB8 := Lib.hid (HB7.out.trans (hb8.mono HB7.out.size))
                clear hb8))
    go_wp2_with fail
    go_ret
    exact ⟨rfl, HB8.out⟩
  · have hz : szJ n0 = -1 := by unfold szJ; rw [if_neg hs]
    have HZ := Lib.hid hz
    clear hz
    go_enter Try.func3, Try.ntmps3
    go_wp2_with fail
    refine (szArch _ _ _ _ hm).mono ?_
    rintro e w1 ⟨rfl, hb1⟩
    rw [HZ.out]
    go_wp2_with fail
    go_ret
    exact ⟨rfl, HB0.out.trans (hb1.mono (by simp))⟩

/-! ### THE ROW's STEP -/
set_option maxRecDepth 100000 in
theorem lifted (os : Os) (started : os.Started) (H : Type) (enc : TypeId × Value → H) :
    ReturnsInHanded {} Try.checked os 3 .any (Rows.fnExactIsStraightSpec.pre6 enc Try.prog Try.f3 Rows.fnExactIsStraightRow.domain false) (Rows.fnExactIsStraightSpec.post enc Try.prog Try.f3 false true false false) := by
  refine returnsInHanded_of_change (C := Try.checked) own started (by kernel_rfl) Try.func3
    (ChangeSpec.witness6 (enc := enc) (C := Try.checked) false ⟨#[], #[.agg #[.slice none 0 0]], []⟩ 8 (by kernel_rfl) (by kernel_rfl) (by kernel_rfl) (by kernel_rfl)) ?_
  intro W base args ds gs before hval0 hW hcnd _
  have hval : ∀ (j : Nat) t v, Try.f3.params[j]? = some t → args[j]? = some v → Value.okWide Try.prog W .any base t v := hval0
  have hW' := hW
  obtain ⟨p, q, hA0, hV, rfl, hfz, hnd⟩ := hW
  have hA : DataW.TrodAll enc Try.prog W 0 (fun _ => true) true Try.f3.params.toList args.toList ds p := hA0
  rw [Try.params3] at hA hval
  obtain ⟨v0, vs0, d0, ds0, p0, q0, hargs, rfl, rfl, h0, r0⟩ := trodAll_cons hA
  obtain ⟨rfl, rfl, rfl⟩ := trodAll_nil r0
  obtain rfl : args = #[v0] := by cases args; simp_all
  obtain ⟨rfl, rfl⟩ := trodVars_none hV
  have k0 := h0
  have lt0 : ∀ x ∈ p0, x.block < W.heap.size := by obtain ⟨m, hm⟩ := k0; exact DataW.trod_lt m _ _ _ hm
  obtain ⟨p0, n0, cap0, c0, rfl, g0⟩ := open_arch (hval 0 24 v0 rfl rfl) h0
  clear hA0 hval0
  refine (walk p0 n0 cap0 c0 W g0).mono fun e W' ⟨he, bel⟩ => ?_
  subst he
  exact ⟨_, rfl, _, _, _, [], _, [], hW', trodAll_mk1 (shut_bool Try.underlying4 _), (trodAll_cons_mk (Below.trod laidOut (by kernel_rfl) (of_decide_eq_true (by kernel_rfl)) k0 bel lt0) trodAll_mk0), rfl, bel.frame _, fun h => by cases h⟩

theorem over : Rows.fnExactIsStraightRow.holds Try.pinned (OpenSpec.ofChange Rows.fnExactIsStraightSpec) :=
  OpenClaim.holds_of_wide 3 Try.f3 rfl rfl rfl rfl rfl rfl rfl ⟨rfl, rfl, rfl, rfl, rfl⟩ rfl rfl rfl rfl rfl (by kernel_rfl) Try.func3 (by kernel_rfl)
    (of_decide_eq_true (by kernel_rfl)) (by unfold Func.isWrapper; first | (rw [if_pos (by decide +kernel)]; kernel_rfl) | (rw [if_neg (by decide +kernel)]; exact ⟨rfl, rfl⟩))
    (fun os started H enc _ => lifted os started H enc)

/-- THE STATEMENT. -/
theorem proved : Rows.FnExactIsStraightSaid := over
#print axioms proved
end Go.Proofs.Ytoholdpobkgffaa.fnExactIsStraight
