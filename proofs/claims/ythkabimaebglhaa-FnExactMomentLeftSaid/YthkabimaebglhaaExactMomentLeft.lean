/- The exact law of MomentLeft: the program's answer is the model's; the arguments are as before. -/
import Derived.Test.YthkabimaebglhaaLoadW
import Derived.Test.YthkabimaebglhaaLoadI
import Derived.Test.YthkabimaebglhaaRows
import Derived.WalkKit
import Derived.ProofKit
import Derived.OpenShut
import Derived.ShutString
import Derived.ChangeOld
import Derived.Below
namespace Go.Proofs.Ythkabimaebglhaa.fnExactMomentLeft
set_option maxRecDepth 100000
open Go.ChangeShapes Go.WideShapes Go.ChangeAt Go.RowKit
open Go.ChangeMaps (open_string shut_string)
set_option linter.unusedVariables false

theorem own : ownKnob Try.prog.godebug = none := by kernel_rfl
theorem laidOut : laidOutB Try.prog = true := by kernel_rfl

/-! ### THE WALK: the Go text returns true, and writes nothing that was there. -/
set_option maxRecDepth 100000 in
set_option maxHeartbeats 1000000 in
theorem walk (p0 : Option Addr) (n0 cap0 : Nat) (c0 : List Jt) (p1 : Option Addr) (n1 cap1 : Nat) (c1 : List Ld) (a2 : Int) (w : World) (g0 : InJts w p0 n0 cap0 c0) (g1 : InLds w p1 n1 cap1 c1) (g2 : (Lit.int .i64 a2).wf = true) :
    Calls Try.prog 6 #[.agg #[.slice p0 n0 cap0], .slice p1 n1 cap1, .int .i64 a2] w fun e w' => e = .returned (.bool true) ∧ Below w.heap.size w w' := by
  have hm : n0 ≤ maxLen := Nat.le_trans g0.2.1 g0.2.2.1
  have hm1 : n1 ≤ maxLen := Nat.le_trans g1.2.1 g1.2.2.1
  have hcl := g0.1
  have G0 := Lib.hid g0
  have G1 := Lib.hid g1
  have HCL := Lib.hid hcl
  clear g0 g1 hcl
  generalize hV : leftF mL c0 c1 a2 = V
  have HV := Lib.hid hV
  have hne : (V != V) = false := by simp
  clear hV
  have hb0 := (Below.refl w.heap.size w).alloc (Nat.le_refl _) (.cells #[.slice p0 n0 cap0] 44)
  have HB0 := Lib.hid hb0
  have hs0 : (w.alloc (.cells #[.slice p0 n0 cap0] 44)).cell? ⟨w.heap.size, 0, none⟩ = some (.slice p0 n0 cap0) := by go_simp
  have HS0 := Lib.hid hs0
  clear hb0 hs0
  by_cases hs : n0 ≤ 1048576
  · have hz : szJ n0 = 1048576 - (n0 : Int) := by unfold szJ; rw [if_pos hs]
    have HZ := Lib.hid hz
    clear hz
    by_cases ht : (n1 : Int) ≤ 1048576 - (n0 : Int)
    · have hy : szL n1 (1048576 - (n0 : Int)) = 1048576 - (n0 : Int) - (n1 : Int) := by unfold szL; rw [if_pos ht]
      have HY := Lib.hid hy
      have ht1 : n1 ≤ 1048576 := by omega
      clear hy
      go_enter Try.func6, Try.ntmps6
      go_wp2_with fail
      refine (szArch _ _ _ _ hm).mono ?_
      rintro e w1 ⟨rfl, hb1⟩
      rw [HZ.out]
      have HB1 := Lib.hid (HB0.out.trans (hb1.mono (by simp)))
      have s1 := cell_kept HS0.out hb1
      clear hb1
      go_wp2_with fail
      refine (szLoadS _ _ _ _ _ hm1 ⟨by omega, by omega⟩).mono ?_
      rintro e wq ⟨rfl, rfl⟩
      rw [HY.out]
      go_wp2_with fail
      refine (toArch _ _ _ c0 _ (G0.out.below HB1.out) hs).mono ?_
      rintro e w2 ⟨ga, -, rfl, ra, hb2⟩
      have HB2 := Lib.hid (HB1.out.trans (hb2.mono HB1.out.size))
      have RA := Lib.hid ra
      have s2 := cell_kept s1 hb2
      clear hb2 s1 HB1 ra
      go_wp2_with fail
      refine (toLoadS _ _ _ c1 _ (G1.out.below HB2.out) ht1).mono ?_
      rintro e w3 ⟨gb, -, rfl, rb, hb3⟩
      have HB3 := Lib.hid (HB2.out.trans (hb3.mono HB2.out.size))
      have RA3 := Lib.hid (JRowAt.below RA.out hb3)
      have RB := Lib.hid rb
      have s3 := cell_kept s2 hb3
      clear hb3 s2 HB2 RA rb
      go_wp2_with fail
      refine (specMomentLeft _ _ _ _ _ _ _ _ _ c0 c1 a2 RA3.out HCL.out hs RB.out).mono ?_
      rintro e w4 ⟨rfl, hb4⟩
      rw [HV.out]
      have HB4 := Lib.hid (HB3.out.trans (hb4.mono HB3.out.size))
      have s4 := cell_kept s3 hb4
      clear hb4 s3 HB3 RA3 RB
      go_wp2_with fail
      refine (toArch _ _ _ c0 _ (G0.out.below HB4.out) hs).mono ?_
      rintro e w5 ⟨gx, -, rfl, rx, hb5⟩
      have hal : Below w5.heap.size w5 (w5.alloc (.cells #[.slice (some ⟨gx, 0, none⟩) n0 n0] 26)) := (Below.refl _ _).alloc (Nat.le_refl _) _
      have hb5' := HB4.out.trans (hb5.mono HB4.out.size)
      have HB5 := Lib.hid (hb5'.alloc hb5'.size (.cells #[.slice (some ⟨gx, 0, none⟩) n0 n0] 26))
      have s5 := cell_kept (cell_kept s4 hb5) hal
      have x5 : (w5.alloc (.cells #[.slice (some ⟨gx, 0, none⟩) n0 n0] 26)).cell? ⟨w5.heap.size, 0, none⟩ = some (.slice (some ⟨gx, 0, none⟩) n0 n0) := by go_simp
      have RX := Lib.hid (JRowAt.below rx hal)
      have hne1 : w.heap.size < w5.heap.size := by have := cell_block_lt (cell_kept s4 hb5); simpa using this
      clear hb5 hb5' s4 HB4 rx hal
      go_wp2_with fail
      refine (toLoadS _ _ _ c1 _ (G1.out.below HB5.out) ht1).mono ?_
      rintro e w6 ⟨gy, -, rfl, ry, hb6⟩
      have HB6 := Lib.hid (HB5.out.trans (hb6.mono HB5.out.size))
      have RX6 := Lib.hid (JRowAt.below RX.out hb6)
      have RY := Lib.hid ry
      have s6 := cell_kept s5 hb6
      have x6 := cell_kept x5 hb6
      clear hb6 s5 x5 HB5 RX ry
      go_wp2_with fail
      refine (implMomentLeft _ _ _ _ _ _ _ _ _ c0 c1 a2 RX6.out HCL.out RY.out).mono ?_
      rintro e w7 ⟨rfl, hb7⟩
      rw [HV.out]
      have HB7 := Lib.hid (HB6.out.trans (hb7.mono HB6.out.size))
      have hrx := (JRowAt.below RX6.out hb7).row
      rw [HCL.out] at hrx
      have RX7 := Lib.hid hrx
      have RY7 := Lib.hid (RY.out.below hb7)
      have s7 := cell_kept s6 hb7
      have x7 := cell_kept x6 hb7
      clear hb7 s6 x6 HB6 RX6 RY hrx
      go_wp2_with fail
      go_region_held3 (fun w' => w'.cell? ⟨w.heap.size, 0, none⟩ = some (.slice p0 n0 cap0) ∧ w'.cell? ⟨w5.heap.size, 0, none⟩ = some (.slice (some ⟨gx, 0, none⟩) n0 n0))
        (first | go_keep | trivial)
        (first | (go_at_call 22
                  refine (toArch _ _ _ c0 _ (G0.out.below (below_drewN HB7.out _)) hs).mono ?_
                  rintro e w8 ⟨gz, -, rfl, rz, hb8⟩
                  have s8 : w8.cell? ⟨w.heap.size, 0, none⟩ = some (.slice p0 n0 cap0) := cell_after s7 hb8
                  have x8 : w8.cell? ⟨w5.heap.size, 0, none⟩ = some (.slice (some ⟨gx, 0, none⟩) n0 n0) := cell_after x7 hb8
                  have hrz := rz.row
                  rw [HCL.out] at hrz
                  have RZ := Lib.hid hrz
                  have RX8 := Lib.hid (RX7.out.after hb8)
                  have RY8 : RowKit.Hid (Lds w8 _ _ _ _ c1) := Lib.hid ⟨RY7.out.1.after hb8, RY7.out.2⟩
                  have HB8 := Lib.hid (below_after HB7.out hb8)
                  clear rz hrz hb8)
               | (go_at_call 24
                  refine (eqArch_same _ _ _ _ _ c0 RX8.out RZ.out).mono ?_
                  rintro e w9 ⟨rfl, hb9⟩
                  have s9 : w9.cell? ⟨w.heap.size, 0, none⟩ = some (.slice p0 n0 cap0) := cell_kept s8 hb9
                  have x9 : w9.cell? ⟨w5.heap.size, 0, none⟩ = some (.slice (some ⟨gx, 0, none⟩) n0 n0) := cell_kept x8 hb9
                  have RY9 := Lib.hid (RY8.out.below hb9)
                  have HB9 := Lib.hid (HB8.out.trans (hb9.mono HB8.out.size))
                  clear hb9))
      go_wp2_with fail
      refine (toLoadS _ _ _ c1 _ (G1.out.below HB9.out) ht1).mono ?_
      rintro e w10 ⟨gu, -, rfl, ru, hb10⟩
      have HB10 := Lib.hid (HB9.out.trans (hb10.mono HB9.out.size))
      have RY10 := Lib.hid (RY9.out.below hb10)
      have RU := Lib.hid ru
      clear hb10 ru
      go_wp2_with fail
      refine (eqLoadS_same _ _ _ _ _ _ _ _ c1 RY10.out RU.out).mono ?_
      rintro e w11 ⟨rfl, hb11⟩
      have HB11 := Lib.hid (HB10.out.trans (hb11.mono HB10.out.size))
      clear hb11
      go_wp2_with fail
      go_ret
      exact ⟨rfl, HB11.out⟩
    · have hy : szL n1 (1048576 - (n0 : Int)) = -1 := by unfold szL; rw [if_neg ht]
      have HY := Lib.hid hy
      clear hy
      go_enter Try.func6, Try.ntmps6
      go_wp2_with fail
      refine (szArch _ _ _ _ hm).mono ?_
      rintro e w1 ⟨rfl, hb1⟩
      rw [HZ.out]
      go_wp2_with fail
      refine (szLoadS _ _ _ _ _ hm1 ⟨by omega, by omega⟩).mono ?_
      rintro e wq ⟨rfl, rfl⟩
      rw [HY.out]
      go_wp2_with fail
      go_ret
      exact ⟨rfl, HB0.out.trans (hb1.mono (by simp))⟩
  · have hz : szJ n0 = -1 := by unfold szJ; rw [if_neg hs]
    have HZ := Lib.hid hz
    clear hz
    go_enter Try.func6, Try.ntmps6
    go_wp2_with fail
    refine (szArch _ _ _ _ hm).mono ?_
    rintro e w1 ⟨rfl, hb1⟩
    rw [HZ.out]
    go_wp2_with fail
    go_ret
    exact ⟨rfl, HB0.out.trans (hb1.mono (by simp))⟩

/-! ### THE ROW's STEP -/
set_option maxRecDepth 100000 in
theorem lifted (os : Os) (started : os.Started) (H : Type) (enc : TypeId × Value → H) :
    ReturnsInHanded {} Try.checked os 6 .any (Rows.fnExactMomentLeftSpec.pre6 enc Try.prog Try.f6 Rows.fnExactMomentLeftRow.domain false) (Rows.fnExactMomentLeftSpec.post enc Try.prog Try.f6 false true false false) := by
  refine returnsInHanded_of_change (C := Try.checked) own started (by kernel_rfl) Try.func6
    (ChangeSpec.witness6 (enc := enc) (C := Try.checked) false ⟨#[], #[.agg #[.slice none 0 0], .slice none 0 0, .int .i64 0], []⟩ 8 (by kernel_rfl) (by kernel_rfl) (by kernel_rfl) (by kernel_rfl)) ?_
  intro W base args ds gs before hval0 hW hcnd _
  have hval : ∀ (j : Nat) t v, Try.f6.params[j]? = some t → args[j]? = some v → Value.okWide Try.prog W .any base t v := hval0
  have hW' := hW
  obtain ⟨p, q, hA0, hV, rfl, hfz, hnd⟩ := hW
  have hA : DataW.TrodAll enc Try.prog W 0 (fun _ => true) true Try.f6.params.toList args.toList ds p := hA0
  rw [Try.params6] at hA hval
  obtain ⟨v0, vs0, d0, ds0, p0, q0, hargs, rfl, rfl, h0, r0⟩ := trodAll_cons hA
  obtain ⟨v1, vs1, d1, ds1, p1, q1, rfl, rfl, rfl, h1, r1⟩ := trodAll_cons r0
  obtain ⟨v2, vs2, d2, ds2, p2, q2, rfl, rfl, rfl, h2, r2⟩ := trodAll_cons r1
  obtain ⟨rfl, rfl, rfl⟩ := trodAll_nil r2
  obtain rfl : args = #[v0, v1, v2] := by cases args; simp_all
  obtain ⟨rfl, rfl⟩ := trodVars_none hV
  have k0 := h0
  have lt0 : ∀ x ∈ p0, x.block < W.heap.size := by obtain ⟨m, hm⟩ := k0; exact DataW.trod_lt m _ _ _ hm
  obtain ⟨p0, n0, cap0, c0, rfl, g0⟩ := open_arch (hval 0 44 v0 rfl rfl) h0
  have k1 := h1
  have lt1 : ∀ x ∈ p1, x.block < W.heap.size := by obtain ⟨m, hm⟩ := k1; exact DataW.trod_lt m _ _ _ hm
  obtain ⟨p1, n1, cap1, c1, rfl, g1⟩ := open_loads (hval 1 45 v1 rfl rfl) h1
  have k2 := h2
  have lt2 : ∀ x ∈ p2, x.block < W.heap.size := by obtain ⟨m, hm⟩ := k2; exact DataW.trod_lt m _ _ _ hm
  obtain ⟨a2, rfl, rfl, rfl, g2⟩ := open_int Try.underlying3 (hval 2 3 v2 rfl rfl) h2
  clear hA0 hval0
  refine (walk p0 n0 cap0 c0 p1 n1 cap1 c1 a2 W g0 g1 g2).mono fun e W' ⟨he, bel⟩ => ?_
  subst he
  exact ⟨_, rfl, _, _, _, [], _, [], hW', trodAll_mk1 (shut_bool Try.underlying4 _), (trodAll_cons_mk (Below.trod laidOut (by kernel_rfl) (of_decide_eq_true (by kernel_rfl)) k0 bel lt0) (trodAll_cons_mk (Below.trod laidOut (by kernel_rfl) (of_decide_eq_true (by kernel_rfl)) k1 bel lt1) (trodAll_cons_mk (Below.trod laidOut (by kernel_rfl) (of_decide_eq_true (by kernel_rfl)) k2 bel lt2) trodAll_mk0))), rfl, bel.frame _, fun h => by cases h⟩

theorem over : Rows.fnExactMomentLeftRow.holds Try.pinned (OpenSpec.ofChange Rows.fnExactMomentLeftSpec) :=
  OpenClaim.holds_of_wide 6 Try.f6 rfl rfl rfl rfl rfl rfl rfl ⟨rfl, rfl, rfl, rfl, rfl⟩ rfl rfl rfl rfl rfl (by kernel_rfl) Try.func6 (by kernel_rfl)
    (of_decide_eq_true (by kernel_rfl)) (by unfold Func.isWrapper; first | (rw [if_pos (by decide +kernel)]; kernel_rfl) | (rw [if_neg (by decide +kernel)]; exact ⟨rfl, rfl⟩))
    (fun os started H enc _ => lifted os started H enc)

/-- THE STATEMENT. -/
theorem proved : Rows.FnExactMomentLeftSaid := over
#print axioms proved
end Go.Proofs.Ythkabimaebglhaa.fnExactMomentLeft
