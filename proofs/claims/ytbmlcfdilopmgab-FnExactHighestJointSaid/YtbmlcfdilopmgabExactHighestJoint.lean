/- For every arch, loads and thrust, FnExactHighestJoint answers true: the program's HighestJoint answers what the model's answers; the arguments read as before. -/
import Derived.Test.YtbmlcfdilopmgabGLine
import Derived.Test.YtbmlcfdilopmgabLineS
import Derived.Test.YtbmlcfdilopmgabRows
import Derived.WalkKit
import Derived.ProofKit
import Derived.OpenShut
import Derived.ShutString
import Derived.ChangeOld
import Derived.Below
namespace Go.Proofs.Ytbmlcfdilopmgab.fnExactHighestJoint
set_option maxRecDepth 100000
open Go.ChangeShapes Go.WideShapes Go.ChangeAt Go.RowKit
open Go.ChangeMaps (open_string shut_string)
set_option linter.unusedVariables false

theorem own : ownKnob Try.prog.godebug = none := by kernel_rfl
theorem laidOut : laidOutB Try.prog = true := by kernel_rfl

/-! ### THE WALK: the Go text returns true, and writes nothing that was there. -/
set_option maxRecDepth 100000 in
set_option maxHeartbeats 4000000 in
theorem walk (p0 : Option Addr) (n0 cap0 : Nat) (c0 : List Jt) (p1 : Option Addr) (n1 cap1 : Nat) (c1 : List Ld) (jx2 jy2 jz2 ju2 : Int) (w : World) (g0 : InJts w p0 n0 cap0 c0) (g1 : InLds w p1 n1 cap1 c1) (g2 : I64 jx2 ∧ I64 jy2 ∧ I64 jz2 ∧ I64 ju2) :
    Calls Try.prog 5 #[.agg #[.slice p0 n0 cap0], .slice p1 n1 cap1, .agg #[.int .i64 jx2, .int .i64 jy2, .int .i64 jz2, .int .i64 ju2]] w fun e w' => e = .returned (.bool true) ∧ Below w.heap.size w w' := by
  have hm : n0 ≤ maxLen := Nat.le_trans g0.2.1 g0.2.2.1
  have hm1 : n1 ≤ maxLen := Nat.le_trans g1.2.1 g1.2.2.1
  have hcl := g0.1
  have G0 := Lib.hid g0
  have G1 := Lib.hid g1
  have HCL := Lib.hid hcl
  clear g0 g1 hcl
  have HS := Lib.hid (fun (hs : n0 ≤ 1048576) (W : World) (B B2 g cap : Nat) (la : Option Addr) (m lc : Nat) hr hl => specHighestJoint W B B2 g cap n0 la m lc c0 c1 jx2 jy2 jz2 ju2 hr HCL.out hs hl)
  have HI := Lib.hid (fun (W : World) (B B2 g cap : Nat) (la : Option Addr) (m lc : Nat) hr hl => implHighestJoint W B B2 g cap n0 la m lc c0 c1 jx2 jy2 jz2 ju2 hr HCL.out hl)
  generalize hiV (lineV c0 c1 jx2 jy2 jz2 ju2) = V0 at HS HI
  have hneV0 : (V0 != V0) = false := by simp
  have hb0 := ((Below.refl w.heap.size w).alloc (Nat.le_refl _) (.cells #[.slice p0 n0 cap0] 24)).alloc (by simp) (.cells #[.int .i64 jx2, .int .i64 jy2, .int .i64 jz2, .int .i64 ju2] 27)
  have HB0 := Lib.hid hb0
  have s0 : ((w.alloc (.cells #[.slice p0 n0 cap0] 24)).alloc (.cells #[.int .i64 jx2, .int .i64 jy2, .int .i64 jz2, .int .i64 ju2] 27)).cell? ⟨w.heap.size, 0, none⟩ = some (.slice p0 n0 cap0) := by go_simp
  have ta0 : ((w.alloc (.cells #[.slice p0 n0 cap0] 24)).alloc (.cells #[.int .i64 jx2, .int .i64 jy2, .int .i64 jz2, .int .i64 ju2] 27)).cell? ⟨w.heap.size + 1, 0, none⟩ = some (.int .i64 jx2) := by go_simp
  have tb0 : ((w.alloc (.cells #[.slice p0 n0 cap0] 24)).alloc (.cells #[.int .i64 jx2, .int .i64 jy2, .int .i64 jz2, .int .i64 ju2] 27)).cell? ⟨w.heap.size + 1, 1, none⟩ = some (.int .i64 jy2) := by go_simp
  have tc0 : ((w.alloc (.cells #[.slice p0 n0 cap0] 24)).alloc (.cells #[.int .i64 jx2, .int .i64 jy2, .int .i64 jz2, .int .i64 ju2] 27)).cell? ⟨w.heap.size + 1, 2, none⟩ = some (.int .i64 jz2) := by go_simp
  have td0 : ((w.alloc (.cells #[.slice p0 n0 cap0] 24)).alloc (.cells #[.int .i64 jx2, .int .i64 jy2, .int .i64 jz2, .int .i64 ju2] 27)).cell? ⟨w.heap.size + 1, 3, none⟩ = some (.int .i64 ju2) := by go_simp
  clear hb0
  by_cases hs : n0 ≤ 1048576
  · have hz : szJ n0 = 1048576 - (n0 : Int) := by unfold szJ; rw [if_pos hs]
    have HZ := Lib.hid hz
    clear hz
    by_cases ht : (n1 : Int) ≤ 1048576 - (n0 : Int)
    · have hy : szL n1 (1048576 - (n0 : Int)) = 1048576 - (n0 : Int) - (n1 : Int) := by unfold szL; rw [if_pos ht]
      have HY := Lib.hid hy
      have ht1 : n1 ≤ 1048576 := by omega
      clear hy
      go_enter Try.func5, Try.ntmps5
      go_wp2_with fail
      refine (szArch _ _ _ _ hm).mono ?_
      rintro e w1 ⟨rfl, hb1⟩
      rw [HZ.out]
      have HB1 := Lib.hid (HB0.out.trans (hb1.mono HB0.out.size))
      have s1 := cell_kept s0 hb1
      have ta1 := cell_kept ta0 hb1
      have tb1 := cell_kept tb0 hb1
      have tc1 := cell_kept tc0 hb1
      have td1 := cell_kept td0 hb1
      clear hb1 s0 ta0 tb0 tc0 td0 HB0
      go_wp2_with fail
      refine (szLoadS _ _ _ _ _ hm1 ⟨by omega, by omega⟩).mono ?_
      rintro e wq ⟨rfl, rfl⟩
      rw [HY.out]
      go_wp2_with fail
      go_region_held3 (fun w' => w'.cell? ⟨w.heap.size, 0, none⟩ = some (.slice p0 n0 cap0) ∧ w'.cell? ⟨w.heap.size + 1, 0, none⟩ = some (.int .i64 jx2) ∧ w'.cell? ⟨w.heap.size + 1, 1, none⟩ = some (.int .i64 jy2) ∧ w'.cell? ⟨w.heap.size + 1, 2, none⟩ = some (.int .i64 jz2) ∧ w'.cell? ⟨w.heap.size + 1, 3, none⟩ = some (.int .i64 ju2))
        (first | go_keep | trivial)
        (first
          | (go_at_call 10; refine (toArch _ _ _ c0 _ (G0.out.below (by first | exact HB1.out | exact below_drewN HB1.out _)) hs).mono ?_; rintro e w2 ⟨ga, -, rfl, ra, hb2⟩; have s2 : w2.cell? ⟨w.heap.size, 0, none⟩ = some (.slice p0 n0 cap0) := (by first | exact cell_kept s1 hb2 | exact cell_after s1 hb2); have ta2 : w2.cell? ⟨w.heap.size + 1, 0, none⟩ = some (.int .i64 jx2) := (by first | exact cell_kept ta1 hb2 | exact cell_after ta1 hb2); have tb2 : w2.cell? ⟨w.heap.size + 1, 1, none⟩ = some (.int .i64 jy2) := (by first | exact cell_kept tb1 hb2 | exact cell_after tb1 hb2); have tc2 : w2.cell? ⟨w.heap.size + 1, 2, none⟩ = some (.int .i64 jz2) := (by first | exact cell_kept tc1 hb2 | exact cell_after tc1 hb2); have td2 : w2.cell? ⟨w.heap.size + 1, 3, none⟩ = some (.int .i64 ju2) := (by first | exact cell_kept td1 hb2 | exact cell_after td1 hb2); have HB2 : RowKit.Hid (Below w.heap.size w w2) := Lib.hid (by first | exact HB1.out.trans (hb2.mono HB1.out.size) | exact below_after HB1.out hb2); have RA2 := Lib.hid ra; clear ra hb2)
          | (go_at_call 11; refine (toLoadS _ _ _ c1 _ (G1.out.below (by first | exact HB2.out | exact below_drewN HB2.out _)) ht1).mono ?_; rintro e w3 ⟨gb, -, rfl, rb, hb3⟩; have s3 : w3.cell? ⟨w.heap.size, 0, none⟩ = some (.slice p0 n0 cap0) := (by first | exact cell_kept s2 hb3 | exact cell_after s2 hb3); have ta3 : w3.cell? ⟨w.heap.size + 1, 0, none⟩ = some (.int .i64 jx2) := (by first | exact cell_kept ta2 hb3 | exact cell_after ta2 hb3); have tb3 : w3.cell? ⟨w.heap.size + 1, 1, none⟩ = some (.int .i64 jy2) := (by first | exact cell_kept tb2 hb3 | exact cell_after tb2 hb3); have tc3 : w3.cell? ⟨w.heap.size + 1, 2, none⟩ = some (.int .i64 jz2) := (by first | exact cell_kept tc2 hb3 | exact cell_after tc2 hb3); have td3 : w3.cell? ⟨w.heap.size + 1, 3, none⟩ = some (.int .i64 ju2) := (by first | exact cell_kept td2 hb3 | exact cell_after td2 hb3); have HB3 : RowKit.Hid (Below w.heap.size w w3) := Lib.hid (by first | exact HB2.out.trans (hb3.mono HB2.out.size) | exact below_after HB2.out hb3); have RA3 : RowKit.Hid (JRowAt w3 _ ga n0 c0) := Lib.hid (by first | exact JRowAt.below RA2.out hb3 | exact JRowAt.after RA2.out hb3); have RB3 := Lib.hid rb; clear rb hb3)
          | (go_at_call 12; refine (toThrust _ _ _ _ _).mono ?_; rintro e w4 ⟨rfl, hb4⟩; have s4 : w4.cell? ⟨w.heap.size, 0, none⟩ = some (.slice p0 n0 cap0) := (by first | exact cell_kept s3 hb4 | exact cell_after s3 hb4); have ta4 : w4.cell? ⟨w.heap.size + 1, 0, none⟩ = some (.int .i64 jx2) := (by first | exact cell_kept ta3 hb4 | exact cell_after ta3 hb4); have tb4 : w4.cell? ⟨w.heap.size + 1, 1, none⟩ = some (.int .i64 jy2) := (by first | exact cell_kept tb3 hb4 | exact cell_after tb3 hb4); have tc4 : w4.cell? ⟨w.heap.size + 1, 2, none⟩ = some (.int .i64 jz2) := (by first | exact cell_kept tc3 hb4 | exact cell_after tc3 hb4); have td4 : w4.cell? ⟨w.heap.size + 1, 3, none⟩ = some (.int .i64 ju2) := (by first | exact cell_kept td3 hb4 | exact cell_after td3 hb4); have HB4 : RowKit.Hid (Below w.heap.size w w4) := Lib.hid (by first | exact HB3.out.trans (hb4.mono HB3.out.size) | exact below_after HB3.out hb4); have RA4 : RowKit.Hid (JRowAt w4 _ ga n0 c0) := Lib.hid (by first | exact JRowAt.below RA3.out hb4 | exact JRowAt.after RA3.out hb4); have RB4 : RowKit.Hid (Lds w4 _ (some ⟨gb, 0, none⟩) n1 n1 c1) := Lib.hid (by first | exact RB3.out.below hb4 | exact ⟨RB3.out.1.after hb4, RB3.out.2⟩); clear hb4)
          | (go_at_call 18; refine (HS.out hs _ _ _ _ _ _ _ _ RA4.out RB4.out).mono ?_; rintro e wv ⟨rfl, hbv⟩; have sv : wv.cell? ⟨w.heap.size, 0, none⟩ = some (.slice p0 n0 cap0) := (by first | exact cell_kept s4 hbv | exact cell_after s4 hbv); have tav : wv.cell? ⟨w.heap.size + 1, 0, none⟩ = some (.int .i64 jx2) := (by first | exact cell_kept ta4 hbv | exact cell_after ta4 hbv); have tbv : wv.cell? ⟨w.heap.size + 1, 1, none⟩ = some (.int .i64 jy2) := (by first | exact cell_kept tb4 hbv | exact cell_after tb4 hbv); have tcv : wv.cell? ⟨w.heap.size + 1, 2, none⟩ = some (.int .i64 jz2) := (by first | exact cell_kept tc4 hbv | exact cell_after tc4 hbv); have tdv : wv.cell? ⟨w.heap.size + 1, 3, none⟩ = some (.int .i64 ju2) := (by first | exact cell_kept td4 hbv | exact cell_after td4 hbv); have HBv : RowKit.Hid (Below w.heap.size w wv) := Lib.hid (by first | exact HB4.out.trans (hbv.mono HB4.out.size) | exact below_after HB4.out hbv); clear hbv))
      clear HS s1 ta1 tb1 tc1 td1 s2 ta2 tb2 tc2 td2 s3 ta3 tb3 tc3 td3 s4 ta4 tb4 tc4 td4
      go_wp2_with fail
      refine (toArch _ _ _ c0 _ (G0.out.below (by first | exact HBv.out | exact below_drewN HBv.out _)) hs).mono ?_
      rintro e w5 ⟨gx, -, rfl, rx, hb5⟩
      have hal : Below w5.heap.size w5 (w5.alloc (.cells #[.slice (some ⟨gx, 0, none⟩) n0 n0] 34)) := (Below.refl _ _).alloc (Nat.le_refl _) _
      have hb5' : Below w.heap.size w w5 := by first | exact HBv.out.trans (hb5.mono HBv.out.size) | exact below_after HBv.out hb5
      have HB5 := Lib.hid (hb5'.alloc hb5'.size (.cells #[.slice (some ⟨gx, 0, none⟩) n0 n0] 34))
      have s5' : w5.cell? ⟨w.heap.size, 0, none⟩ = some (.slice p0 n0 cap0) := by first | exact cell_kept sv hb5 | exact cell_after sv hb5
      have ta5' : w5.cell? ⟨w.heap.size + 1, 0, none⟩ = some (.int .i64 jx2) := by first | exact cell_kept tav hb5 | exact cell_after tav hb5
      have tb5' : w5.cell? ⟨w.heap.size + 1, 1, none⟩ = some (.int .i64 jy2) := by first | exact cell_kept tbv hb5 | exact cell_after tbv hb5
      have tc5' : w5.cell? ⟨w.heap.size + 1, 2, none⟩ = some (.int .i64 jz2) := by first | exact cell_kept tcv hb5 | exact cell_after tcv hb5
      have td5' : w5.cell? ⟨w.heap.size + 1, 3, none⟩ = some (.int .i64 ju2) := by first | exact cell_kept tdv hb5 | exact cell_after tdv hb5
      have s5 := cell_kept s5' hal
      have ta5 := cell_kept ta5' hal
      have tb5 := cell_kept tb5' hal
      have tc5 := cell_kept tc5' hal
      have td5 := cell_kept td5' hal
      have x5 : (w5.alloc (.cells #[.slice (some ⟨gx, 0, none⟩) n0 n0] 34)).cell? ⟨w5.heap.size, 0, none⟩ = some (.slice (some ⟨gx, 0, none⟩) n0 n0) := by go_simp
      have RX5 := Lib.hid (JRowAt.below rx hal)
      have hne1 : w.heap.size < w5.heap.size := by have := cell_block_lt s5'; simpa using this
      have hne2 : w.heap.size + 1 < w5.heap.size := by have := cell_block_lt ta5'; simpa using this
      clear hb5 hb5' rx hal HBv sv tav tbv tcv tdv s5' ta5' tb5' tc5' td5'
      go_wp2_with fail
      refine (toLoadS _ _ _ c1 _ (G1.out.below HB5.out) ht1).mono ?_
      rintro e w6 ⟨gy, -, rfl, ry, hb6⟩
      have HB6 := Lib.hid (HB5.out.trans (hb6.mono HB5.out.size))
      have RX6 := Lib.hid (JRowAt.below RX5.out hb6)
      have RY6 := Lib.hid ry
      have s6 := cell_kept s5 hb6
      have ta6 := cell_kept ta5 hb6
      have tb6 := cell_kept tb5 hb6
      have tc6 := cell_kept tc5 hb6
      have td6 := cell_kept td5 hb6
      have x6 := cell_kept x5 hb6
      clear hb6 HB5 RX5 ry s5 ta5 tb5 tc5 td5 x5
      go_wp2_with fail
      go_region_held3 (fun w' => w'.cell? ⟨w.heap.size, 0, none⟩ = some (.slice p0 n0 cap0) ∧ w'.cell? ⟨w.heap.size + 1, 0, none⟩ = some (.int .i64 jx2) ∧ w'.cell? ⟨w.heap.size + 1, 1, none⟩ = some (.int .i64 jy2) ∧ w'.cell? ⟨w.heap.size + 1, 2, none⟩ = some (.int .i64 jz2) ∧ w'.cell? ⟨w.heap.size + 1, 3, none⟩ = some (.int .i64 ju2) ∧ w'.cell? ⟨w5.heap.size, 0, none⟩ = some (.slice (some ⟨gx, 0, none⟩) n0 n0))
        (first | go_keep | trivial)
        (first
          | (go_at_call 12; refine (toThrust _ _ _ _ _).mono ?_; rintro e wa ⟨rfl, hba⟩; have sa : wa.cell? ⟨w.heap.size, 0, none⟩ = some (.slice p0 n0 cap0) := (by first | exact cell_kept s6 hba | exact cell_after s6 hba); have taa : wa.cell? ⟨w.heap.size + 1, 0, none⟩ = some (.int .i64 jx2) := (by first | exact cell_kept ta6 hba | exact cell_after ta6 hba); have tba : wa.cell? ⟨w.heap.size + 1, 1, none⟩ = some (.int .i64 jy2) := (by first | exact cell_kept tb6 hba | exact cell_after tb6 hba); have tca : wa.cell? ⟨w.heap.size + 1, 2, none⟩ = some (.int .i64 jz2) := (by first | exact cell_kept tc6 hba | exact cell_after tc6 hba); have tda : wa.cell? ⟨w.heap.size + 1, 3, none⟩ = some (.int .i64 ju2) := (by first | exact cell_kept td6 hba | exact cell_after td6 hba); have xa : wa.cell? ⟨w5.heap.size, 0, none⟩ = some (.slice (some ⟨gx, 0, none⟩) n0 n0) := (by first | exact cell_kept x6 hba | exact cell_after x6 hba); have HBa : RowKit.Hid (Below w.heap.size w wa) := Lib.hid (by first | exact HB6.out.trans (hba.mono HB6.out.size) | exact below_after HB6.out hba); have RXa : RowKit.Hid (JRowAt wa _ gx n0 c0) := Lib.hid (by first | exact JRowAt.below RX6.out hba | exact JRowAt.after RX6.out hba); have RYa : RowKit.Hid (Lds wa _ (some ⟨gy, 0, none⟩) n1 n1 c1) := Lib.hid (by first | exact RY6.out.below hba | exact ⟨RY6.out.1.after hba, RY6.out.2⟩); clear hba)
          | (go_at_call 19; refine (HI.out _ _ _ _ _ _ _ _ RXa.out RYa.out).mono ?_; rintro e w7 ⟨rfl, hb7⟩; have s7 : w7.cell? ⟨w.heap.size, 0, none⟩ = some (.slice p0 n0 cap0) := (by first | exact cell_kept sa hb7 | exact cell_after sa hb7); have ta7 : w7.cell? ⟨w.heap.size + 1, 0, none⟩ = some (.int .i64 jx2) := (by first | exact cell_kept taa hb7 | exact cell_after taa hb7); have tb7 : w7.cell? ⟨w.heap.size + 1, 1, none⟩ = some (.int .i64 jy2) := (by first | exact cell_kept tba hb7 | exact cell_after tba hb7); have tc7 : w7.cell? ⟨w.heap.size + 1, 2, none⟩ = some (.int .i64 jz2) := (by first | exact cell_kept tca hb7 | exact cell_after tca hb7); have td7 : w7.cell? ⟨w.heap.size + 1, 3, none⟩ = some (.int .i64 ju2) := (by first | exact cell_kept tda hb7 | exact cell_after tda hb7); have x7 : w7.cell? ⟨w5.heap.size, 0, none⟩ = some (.slice (some ⟨gx, 0, none⟩) n0 n0) := (by first | exact cell_kept xa hb7 | exact cell_after xa hb7); have HB7 : RowKit.Hid (Below w.heap.size w w7) := Lib.hid (by first | exact HBa.out.trans (hb7.mono HBa.out.size) | exact below_after HBa.out hb7); have RX7 : RowKit.Hid (JRowAt w7 _ gx n0 c0) := Lib.hid (by first | exact JRowAt.below RXa.out hb7 | exact JRowAt.after RXa.out hb7); have RY7 : RowKit.Hid (Lds w7 _ (some ⟨gy, 0, none⟩) n1 n1 c1) := Lib.hid (by first | exact RYa.out.below hb7 | exact ⟨RYa.out.1.after hb7, RYa.out.2⟩); clear hb7))
      clear HI s6 ta6 tb6 tc6 td6 x6 sa taa tba tca tda xa ta7 tb7 tc7 td7
      have hrx := RX7.out.row
      rw [HCL.out] at hrx
      have RX7 := Lib.hid hrx
      clear hrx
      go_wp2_with fail
      go_region_held3 (fun w' => w'.cell? ⟨w.heap.size, 0, none⟩ = some (.slice p0 n0 cap0) ∧ w'.cell? ⟨w5.heap.size, 0, none⟩ = some (.slice (some ⟨gx, 0, none⟩) n0 n0))
        (first | go_keep | trivial)
        (first | (go_at_call 10; refine (toArch _ _ _ c0 _ (G0.out.below (by first | exact HB7.out | exact below_drewN HB7.out _)) hs).mono ?_; rintro e w8 ⟨gz, -, rfl, rz, hb8⟩; have s8 : w8.cell? ⟨w.heap.size, 0, none⟩ = some (.slice p0 n0 cap0) := (by first | exact cell_kept s7 hb8 | exact cell_after s7 hb8); have x8 : w8.cell? ⟨w5.heap.size, 0, none⟩ = some (.slice (some ⟨gx, 0, none⟩) n0 n0) := (by first | exact cell_kept x7 hb8 | exact cell_after x7 hb8); have HB8 : RowKit.Hid (Below w.heap.size w w8) := Lib.hid (by first | exact HB7.out.trans (hb8.mono HB7.out.size) | exact below_after HB7.out hb8); have hrz := rz.row; rw [HCL.out] at hrz; have RZ := Lib.hid hrz; have RX8 : RowKit.Hid (JRow w8 _ _ c0) := Lib.hid (by first | exact RX7.out.below hb8 | exact RX7.out.after hb8); have RY8 : RowKit.Hid (Lds w8 _ (some ⟨gy, 0, none⟩) n1 n1 c1) := Lib.hid (by first | exact RY7.out.below hb8 | exact ⟨RY7.out.1.after hb8, RY7.out.2⟩); clear rz hrz hb8)
               | (go_at_call 14; refine (eqArch_same _ _ _ _ _ c0 RX8.out RZ.out).mono ?_; rintro e w9 ⟨rfl, hb9⟩; have s9 : w9.cell? ⟨w.heap.size, 0, none⟩ = some (.slice p0 n0 cap0) := (by first | exact cell_kept s8 hb9 | exact cell_after s8 hb9); have x9 : w9.cell? ⟨w5.heap.size, 0, none⟩ = some (.slice (some ⟨gx, 0, none⟩) n0 n0) := (by first | exact cell_kept x8 hb9 | exact cell_after x8 hb9); have HB9 : RowKit.Hid (Below w.heap.size w w9) := Lib.hid (by first | exact HB8.out.trans (hb9.mono HB8.out.size) | exact below_after HB8.out hb9); have RY9 : RowKit.Hid (Lds w9 _ (some ⟨gy, 0, none⟩) n1 n1 c1) := Lib.hid (by first | exact RY8.out.below hb9 | exact ⟨RY8.out.1.after hb9, RY8.out.2⟩); clear hb9))
      go_wp2_with fail
      refine (toLoadS _ _ _ c1 _ (G1.out.below HB9.out) ht1).mono ?_
      rintro e w10 ⟨gu, -, rfl, ru, hb10⟩
      have HB10 := Lib.hid (HB9.out.trans (hb10.mono HB9.out.size))
      have RY10 := Lib.hid (RY9.out.below hb10)
      have RU := Lib.hid ru
      clear hb10 ru
      go_wp2_with fail
      refine (eqLoadS_same _ _ _ _ _ _ _ _ c1 RY10.out RU.out).mono ?_
      rintro e w11 ⟨rfl, hb11⟩
      have HB11 := Lib.hid (HB10.out.trans (hb11.mono HB10.out.size))
      clear hb11
      go_wp2_with fail
      go_ret
      exact ⟨rfl, HB11.out⟩
    · have hy : szL n1 (1048576 - (n0 : Int)) = -1 := by unfold szL; rw [if_neg ht]
      have HY := Lib.hid hy
      clear hy
      go_enter Try.func5, Try.ntmps5
      go_wp2_with fail
      refine (szArch _ _ _ _ hm).mono ?_
      rintro e w1 ⟨rfl, hb1⟩
      rw [HZ.out]
      go_wp2_with fail
      refine (szLoadS _ _ _ _ _ hm1 ⟨by omega, by omega⟩).mono ?_
      rintro e wq ⟨rfl, rfl⟩
      rw [HY.out]
      go_wp2_with fail
      go_ret
      exact ⟨rfl, HB0.out.trans (hb1.mono HB0.out.size)⟩
  · have hz : szJ n0 = -1 := by unfold szJ; rw [if_neg hs]
    have HZ := Lib.hid hz
    clear hz
    go_enter Try.func5, Try.ntmps5
    go_wp2_with fail
    refine (szArch _ _ _ _ hm).mono ?_
    rintro e w1 ⟨rfl, hb1⟩
    rw [HZ.out]
    go_wp2_with fail
    go_ret
    exact ⟨rfl, HB0.out.trans (hb1.mono HB0.out.size)⟩

/-! ### THE ROW's STEP -/
set_option maxRecDepth 100000 in
theorem lifted (os : Os) (started : os.Started) (H : Type) (enc : TypeId × Value → H) :
    ReturnsInHanded {} Try.checked os 5 .any (Rows.fnExactHighestJointSpec.pre6 enc Try.prog Try.f5 Rows.fnExactHighestJointRow.domain false) (Rows.fnExactHighestJointSpec.post enc Try.prog Try.f5 false true false false) := by
  refine returnsInHanded_of_change (C := Try.checked) own started (by kernel_rfl) Try.func5
    (ChangeSpec.witness6 (enc := enc) (C := Try.checked) false ⟨#[], #[.agg #[.slice none 0 0], .slice none 0 0, .agg #[.int .i64 0, .int .i64 0, .int .i64 0, .int .i64 0]], []⟩ 8 (by kernel_rfl) (by kernel_rfl) (by kernel_rfl) (by kernel_rfl)) ?_
  intro W base args ds gs before hval0 hW hcnd _
  have hval : ∀ (j : Nat) t v, Try.f5.params[j]? = some t → args[j]? = some v → Value.okWide Try.prog W .any base t v := hval0
  have hW' := hW
  obtain ⟨p, q, hA0, hV, rfl, hfz, hnd⟩ := hW
  have hA : DataW.TrodAll enc Try.prog W 0 (fun _ => true) true Try.f5.params.toList args.toList ds p := hA0
  rw [Try.params5] at hA hval
  obtain ⟨v0, vs0, d0, ds0, p0, q0, hargs, rfl, rfl, h0, r0⟩ := trodAll_cons hA
  obtain ⟨v1, vs1, d1, ds1, p1, q1, rfl, rfl, rfl, h1, r1⟩ := trodAll_cons r0
  obtain ⟨v2, vs2, d2, ds2, p2, q2, rfl, rfl, rfl, h2, r2⟩ := trodAll_cons r1
  obtain ⟨rfl, rfl, rfl⟩ := trodAll_nil r2
  obtain rfl : args = #[v0, v1, v2] := by cases args; simp_all
  obtain ⟨rfl, rfl⟩ := trodVars_none hV
  have k0 := h0
  have lt0 : ∀ x ∈ p0, x.block < W.heap.size := by obtain ⟨m, hm⟩ := k0; exact DataW.trod_lt m _ _ _ hm
  obtain ⟨p0, n0, cap0, c0, rfl, g0⟩ := open_arch (hval 0 24 v0 rfl rfl) h0
  have k1 := h1
  have lt1 : ∀ x ∈ p1, x.block < W.heap.size := by obtain ⟨m, hm⟩ := k1; exact DataW.trod_lt m _ _ _ hm
  obtain ⟨p1, n1, cap1, c1, rfl, g1⟩ := open_loads (hval 1 25 v1 rfl rfl) h1
  have k2 := h2
  have lt2 : ∀ x ∈ p2, x.block < W.heap.size := by obtain ⟨m, hm⟩ := k2; exact DataW.trod_lt m _ _ _ hm
  obtain ⟨jx2, jy2, jz2, ju2, rfl, g2⟩ := open_thrust (hval 2 27 v2 rfl rfl) h2
  clear hA0 hval0
  refine (walk p0 n0 cap0 c0 p1 n1 cap1 c1 jx2 jy2 jz2 ju2 W g0 g1 g2).mono fun e W' ⟨he, bel⟩ => ?_
  subst he
  exact ⟨_, rfl, _, _, _, [], _, [], hW', trodAll_mk1 (shut_bool Try.underlying4 _), (trodAll_cons_mk (Below.trod laidOut (by kernel_rfl) (of_decide_eq_true (by kernel_rfl)) k0 bel lt0) (trodAll_cons_mk (Below.trod laidOut (by kernel_rfl) (of_decide_eq_true (by kernel_rfl)) k1 bel lt1) (trodAll_cons_mk (Below.trod laidOut (by kernel_rfl) (of_decide_eq_true (by kernel_rfl)) k2 bel lt2) trodAll_mk0))), rfl, bel.frame _, fun h => by cases h⟩

theorem over : Rows.fnExactHighestJointRow.holds Try.pinned (OpenSpec.ofChange Rows.fnExactHighestJointSpec) :=
  OpenClaim.holds_of_wide 5 Try.f5 rfl rfl rfl rfl rfl rfl rfl ⟨rfl, rfl, rfl, rfl, rfl⟩ rfl rfl rfl rfl rfl (by kernel_rfl) Try.func5 (by kernel_rfl)
    (of_decide_eq_true (by kernel_rfl)) (by unfold Func.isWrapper; first | (rw [if_pos (by decide +kernel)]; kernel_rfl) | (rw [if_neg (by decide +kernel)]; exact ⟨rfl, rfl⟩))
    (fun os started H enc _ => lifted os started H enc)

/-- THE STATEMENT. -/
theorem proved : Rows.FnExactHighestJointSaid := over
#print axioms proved
end Go.Proofs.Ytbmlcfdilopmgab.fnExactHighestJoint
