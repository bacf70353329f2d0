/- For every list of conditions and every proof, FnExactSumOfRows answers true: the program's SumOfRows answers what the model's answers, all four sums, and writes into no argument. No condition. -/
import Derived.Test.YtidmhpeaehmmhabProofK
import Derived.Test.YtidmhpeaehmmhabProofS
import Derived.Test.YtidmhpeaehmmhabCdL
import Derived.Test.YtidmhpeaehmmhabThrustX
import Derived.Test.YtidmhpeaehmmhabStepC
import Derived.Test.YtidmhpeaehmmhabRows
import Derived.WalkKit
import Derived.ProofKit
import Derived.OpenShut
import Derived.ShutString
import Derived.ChangeOld
import Derived.Below
namespace Go.Proofs.Ytidmhpeaehmmhab.fnExactSumOfRows
set_option maxRecDepth 100000
open Go.ChangeShapes Go.WideShapes Go.ChangeAt Go.RowKit
open Go.ChangeMaps (open_string shut_string)
set_option linter.unusedVariables false

theorem own : ownKnob Try.prog.godebug = none := by kernel_rfl
theorem laidOut : laidOutB Try.prog = true := by kernel_rfl

/-! ### THE WALK: the Go text returns true, and writes nothing that was there. -/
set_option maxRecDepth 100000 in
set_option maxHeartbeats 4000000 in
theorem walk (p0 : Option Addr) (n0 cap0 : Nat) (c0 : List Cd) (p1 : Option Addr) (n1 cap1 : Nat) (c1 : List Int) (q1 : Option Addr) (m1 kap1 : Nat) (e1 : List Int) (w : World) (g0 : InCds w p0 n0 cap0 c0) (g1 : InNs w p1 n1 cap1 c1 ∧ InNs w q1 m1 kap1 e1) :
    Calls Try.prog 3 #[.slice p0 n0 cap0, .agg #[.slice p1 n1 cap1, .slice q1 m1 kap1]] w fun e w' => e = .returned (.bool true) ∧ Below w.heap.size w w' := by
  obtain ⟨g1a, g1b⟩ := g1
  have hm0 : n0 ≤ maxLen := Nat.le_trans g0.2.1 g0.2.2.1
  have hm1 : n1 ≤ maxLen := Nat.le_trans g1a.room.1 g1a.room.2
  have hm2 : m1 ≤ maxLen := Nat.le_trans g1b.room.1 g1b.room.2
  have G0 := Lib.hid g0
  have GA := Lib.hid g1a
  have GB := Lib.hid g1b
  clear g0 g1a g1b
  have HB0 := Lib.hid ((Below.refl w.heap.size w).alloc (Nat.le_refl _) (.cells #[.slice p1 n1 cap1, .slice q1 m1 kap1] 25))
  have HX0 := Lib.hid (pbox_alloc w p1 q1 n1 cap1 m1 kap1 25)
  by_cases hs : n0 ≤ 1048576
  case neg =>
    have HY := Lib.hid (show szCd n0 1048576 = -1 by unfold szCd; rw [if_neg (by omega)])
    go_enter Try.func3, Try.ntmps3
    go_wp2_with fail
    refine (szRowS _ _ _ _ _ hm0 ⟨by omega, by omega⟩).mono ?_
    rintro e wq ⟨rfl, rfl⟩
    rw [HY.out]
    go_wp2_with fail
    go_ret
    exact ⟨rfl, HB0.out⟩
  have HY := Lib.hid (show szCd n0 1048576 = 1048576 - (n0 : Int) by unfold szCd; rw [if_pos (by omega)])
  obtain ⟨L, hL⟩ : ∃ L : Int, L = 1048576 - (n0 : Int) := ⟨_, rfl⟩
  rw [← hL] at HY
  have hL0 : ¬ L < 0 := by omega
  have hL1 : decide (L < 0) = false := decide_eq_false hL0
  have HLB := Lib.hid (show 0 ≤ L ∧ L ≤ 1048576 by omega)
  have HLQ := Lib.hid hL
  clear hL
  go_enter Try.func3, Try.ntmps3
  go_wp2_with fail
  refine (szRowS _ _ _ _ _ hm0 ⟨by omega, by omega⟩).mono ?_
  rintro e wq ⟨rfl, rfl⟩
  rw [HY.out]
  obtain ⟨k0, k1⟩ := id HX0.out
  go_wp2_with fail
  refine (szProof _ _ _ _ _ _ _ _ hm1 hm2 HLB.out).mono ?_
  rintro e w1 ⟨rfl, hb1⟩
  have HB1 := Lib.hid (HB0.out.trans (hb1.mono HB0.out.size))
  have HX1 := Lib.hid (HX0.out.below hb1)
  clear hb1 HB0 HX0 k0 k1
  by_cases hs1 : (n1 : Int) + m1 ≤ L
  case neg =>
    have HZ := Lib.hid (show szP n1 m1 L = -1 from if_neg hs1)
    rw [HZ.out]
    clear hs1
    go_wp2_with fail
    go_ret
    exact ⟨rfl, HB1.out⟩
  have HZ := Lib.hid (show szP n1 m1 L = L - n1 - m1 from if_pos hs1)
  obtain ⟨Q, hQ⟩ : ∃ Q : Int, Q = L - n1 - m1 := ⟨_, rfl⟩
  rw [← hQ] at HZ
  have hQ0 : ¬ Q < 0 := by omega
  have hQ1 : decide (Q < 0) = false := decide_eq_false hQ0
  have hLb := HLB.out
  have hn1 : n1 ≤ 1048576 := by omega
  have hn2 : m1 ≤ 1048576 := by omega
  rw [HZ.out]
  clear hQ hs1 hLb
  have HT := Lib.hid (show smT c0 c1 e1 = .tuple #[.int .i64 (smV c0 c1 e1 0), .int .i64 (smV c0 c1 e1 1), .int .i64 (smV c0 c1 e1 2), .int .i64 (smV c0 c1 e1 3)] from rfl)
  have HTS := Lib.hid (show smTs c0 c1 e1 = .tuple #[.int .i64 (smV c0 c1 e1 0), .int .i64 (smV c0 c1 e1 1), .int .i64 (smV c0 c1 e1 2), .int .i64 (smV c0 c1 e1 3)] from rfl)
  generalize smV c0 c1 e1 0 = t0 at *
  generalize smV c0 c1 e1 1 = t1 at *
  generalize smV c0 c1 e1 2 = t2 at *
  generalize smV c0 c1 e1 3 = t3 at *
  have ne0 : (t0 != t0) = false := by simp
  have ne1 : (t1 != t1) = false := by simp
  have ne2 : (t2 != t2) = false := by simp
  have ne3 : (t3 != t3) = false := by simp
  obtain ⟨k0, k1⟩ := id HX1.out
  go_upto_region 8 with fail
  generalize hW : w1 = W at *
  clear hW
  have F0 := Lib.hid (fun (U : World) (hU : Below W.heap.size W U) => HX1.out.below hU)
  have ZZ := Lib.hid (Below.refl W.heap.size W)
  have G0W := Lib.hid (G0.out.below HB1.out)
  have GAW := Lib.hid (GA.out.below HB1.out)
  have GBW := Lib.hid (GB.out.below HB1.out)
  go_cut [6, 7, 8, 9] from 26 to 35 (fun r0 r1 r2 r3 wx => r0 = .int .i64 t0 ∧ r1 = .int .i64 t1 ∧ r2 = .int .i64 t2 ∧ r3 = .int .i64 t3 ∧ Below W.heap.size W wx)
  case first =>
    go_region_held3 (fun w' => w'.cell? ⟨w.heap.size, 0, none⟩ = some (.slice p1 n1 cap1) ∧ w'.cell? ⟨w.heap.size, 1, none⟩ = some (.slice q1 m1 kap1))
      (first | (exact F0.out _ ZZ.out) | (exact F0.out _ (tbelowD ZZ.out)) | (exact F0.out _ (below_drewN ZZ.out _)) | go_keep | trivial)
      (first
        | (go_at_call 9; refine (toRowS _ _ _ c0 _ (G0W.out.below (by first | exact ZZ.out | exact tbelowD ZZ.out | exact below_drewN ZZ.out _)) hs).mono ?_; rintro e y ⟨ga, hga, rfl, ra, hy⟩; have ZZ : RowKit.Hid (Below W.heap.size W y) := Lib.hid (by first | exact cstep ZZ hy | exact cstepD ZZ hy); have RA := Lib.hid ra; clear hy ra hga; obtain ⟨k0, k1⟩ := F0.out _ ZZ.out)
        | (go_at_call 10; refine (toProof _ _ _ _ _ _ c1 e1 _ (GAW.out.below (by first | exact ZZ.out | exact tbelowD ZZ.out | exact below_drewN ZZ.out _)) (GBW.out.below (by first | exact ZZ.out | exact tbelowD ZZ.out | exact below_drewN ZZ.out _)) hn1 hn2).mono ?_; rintro e y ⟨gp, gf, hgp, hgf, rfl, rp, rf, hy⟩; have RA := Lib.hid (RA.out.below (by first | exact hy | exact ts_drew hy)); have ZZ : RowKit.Hid (Below W.heap.size W y) := Lib.hid (by first | exact cstep ZZ hy | exact cstepD ZZ hy); have RP := Lib.hid rp; have RF := Lib.hid rf; clear hy rp rf hgp hgf; obtain ⟨k0, k1⟩ := F0.out _ ZZ.out)
        | (go_at_call 8; refine (specSumOfRows _ _ _ _ _ _ _ _ _ _ _ _ _ c0 c1 e1 (by first | exact RP.out | exact RP.out.below (tbelowD (Below.refl _ _)) | exact RP.out.below (below_drewN (Below.refl _ _) _)) (by first | exact RF.out | exact RF.out.below (tbelowD (Below.refl _ _)) | exact RF.out.below (below_drewN (Below.refl _ _) _)) (by first | exact RA.out | exact RA.out.below (tbelowD (Below.refl _ _)) | exact RA.out.below (below_drewN (Below.refl _ _) _))).mono ?_; rintro e y ⟨rfl, hy⟩; rw [HTS.out]; have ZZ : RowKit.Hid (Below W.heap.size W y) := Lib.hid (by first | exact cstep ZZ hy | exact cstepD ZZ hy); clear hy; obtain ⟨k0, k1⟩ := F0.out _ ZZ.out))
    all_goals
      go_wp2_with fail
      go_meet
      exact ⟨rfl, rfl, rfl, rfl, ZZ.out⟩
  case rest =>
    obtain ⟨rfl, rfl, rfl, rfl, hbx⟩ := hcut
    have HB2 := Lib.hid (HB1.out.trans (hbx.mono HB1.out.size))
    have HX2 := Lib.hid (HX1.out.below hbx)
    clear hbx F0 ZZ HB1 HX1 k0 k1 G0W GAW GBW
    go_wp2_with fail
    refine (toRowS _ _ _ c0 _ (G0.out.below HB2.out) hs).mono ?_
    rintro e w3 ⟨gx, -, rfl, rx, hb3⟩
    have RX3 := Lib.hid rx
    have HB3 := Lib.hid (HB2.out.trans (hb3.mono HB2.out.size))
    have HX3 := Lib.hid (HX2.out.below hb3)
    clear hb3 rx HB2 HX2
    obtain ⟨k0, k1⟩ := id HX3.out
    go_wp2_with fail
    refine (toProof _ _ _ _ _ _ c1 e1 _ (GA.out.below HB3.out) (GB.out.below HB3.out) hn1 hn2).mono ?_
    rintro e w4 ⟨gp, gf, -, -, rfl, rp, rf, hb4⟩
    have hal := pr_al w4 (.cells #[.slice (some ⟨gp, 0, none⟩) n1 n1, .slice (some ⟨gf, 0, none⟩) m1 m1] 32)
    have hb5 : Below w3.heap.size w3 _ := hb4.trans (hal.mono hb4.size)
    have RX5 := Lib.hid (RX3.out.below hb5)
    have RP5 := Lib.hid (rp.below hal)
    have RF5 := Lib.hid (rf.below hal)
    have HB5 := Lib.hid (HB3.out.trans (hb5.mono HB3.out.size))
    have HX5 := Lib.hid (HX3.out.below hb5)
    have HI5 := Lib.hid (pbox_alloc w4 (some ⟨gp, 0, none⟩) (some ⟨gf, 0, none⟩) n1 n1 m1 m1 32)
    clear hb4 hal hb5 rp rf RX3 HB3 HX3 k0 k1
    obtain ⟨bi, hbi⟩ : ∃ bi, w4.heap.size = bi := ⟨_, rfl⟩
    obtain ⟨i0, i1⟩ := id HI5.out
    go_wp2_with fail
    refine (implSumOfRows _ _ _ _ _ _ _ _ _ _ _ _ _ c0 c1 e1 RP5.out RF5.out RX5.out).mono ?_
    rintro e w6 ⟨rfl, hb6⟩
    rw [HT.out]
    have RX6 := Lib.hid (RX5.out.below hb6)
    have RP6 := Lib.hid (RP5.out.below hb6)
    have RF6 := Lib.hid (RF5.out.below hb6)
    have HB6 := Lib.hid (HB5.out.trans (hb6.mono HB5.out.size))
    have HX6 := Lib.hid (HX5.out.below hb6)
    have HI6 := Lib.hid (HI5.out.below hb6)
    rw [hbi] at HI6
    clear hb6 RX5 RP5 RF5 HB5 HX5 HI5 i0 i1 hbi
    go_wp2_with fail
    refine (toRowS _ _ _ c0 _ (G0.out.below HB6.out) hs).mono ?_
    rintro e w7 ⟨gy, -, rfl, ry, hb7⟩
    have RY := Lib.hid ry
    have RX7 := Lib.hid (RX6.out.below hb7)
    have RP7 := Lib.hid (RP6.out.below hb7)
    have RF7 := Lib.hid (RF6.out.below hb7)
    have HB7 := Lib.hid (HB6.out.trans (hb7.mono HB6.out.size))
    have HX7 := Lib.hid (HX6.out.below hb7)
    have HI7 := Lib.hid (HI6.out.below hb7)
    clear hb7 ry RX6 RP6 RF6 HB6 HX6 HI6
    go_wp2_with fail
    refine (eqRowS_same _ _ _ _ _ _ _ _ c0 RX7.out RY.out).mono ?_
    rintro e w8 ⟨rfl, hb8⟩
    have RP8 := Lib.hid (RP7.out.below hb8)
    have RF8 := Lib.hid (RF7.out.below hb8)
    have HB8 := Lib.hid (HB7.out.trans (hb8.mono HB7.out.size))
    have HX8 := Lib.hid (HX7.out.below hb8)
    have HI8 := Lib.hid (HI7.out.below hb8)
    clear hb8 RX7 RY RP7 RF7 HB7 HX7 HI7
    obtain ⟨k0, k1⟩ := id HX8.out
    obtain ⟨i0, i1⟩ := id HI8.out
    go_upto_region 16 with fail
    generalize hW : w8 = W at *
    clear hW
    have F0 := Lib.hid (fun (U : World) (hU : Below W.heap.size W U) => (⟨(HX8.out.below hU).1, (HX8.out.below hU).2, (HI8.out.below hU).1, (HI8.out.below hU).2⟩ : U.cell? ⟨w.heap.size, 0, none⟩ = some (.slice p1 n1 cap1) ∧ U.cell? ⟨w.heap.size, 1, none⟩ = some (.slice q1 m1 kap1) ∧ U.cell? ⟨bi, 0, none⟩ = some (.slice (some ⟨gp, 0, none⟩) n1 n1) ∧ U.cell? ⟨bi, 1, none⟩ = some (.slice (some ⟨gf, 0, none⟩) m1 m1)))
    have ZZ := Lib.hid (Below.refl W.heap.size W)
    have GAW := Lib.hid (GA.out.below HB8.out)
    have GBW := Lib.hid (GB.out.below HB8.out)
    go_cut [75] from 71 to 74 (fun r wx => r = .bool false ∧ Below W.heap.size W wx)
    case first =>
      go_region_held3 (fun w' => w'.cell? ⟨w.heap.size, 0, none⟩ = some (.slice p1 n1 cap1) ∧ w'.cell? ⟨w.heap.size, 1, none⟩ = some (.slice q1 m1 kap1) ∧ w'.cell? ⟨bi, 0, none⟩ = some (.slice (some ⟨gp, 0, none⟩) n1 n1) ∧ w'.cell? ⟨bi, 1, none⟩ = some (.slice (some ⟨gf, 0, none⟩) m1 m1))
        (first | (exact F0.out _ ZZ.out) | (exact F0.out _ (tbelowD ZZ.out)) | (exact F0.out _ (below_drewN ZZ.out _)) | go_keep | trivial)
        (first
          | (go_at_call 10; refine (toProof _ _ _ _ _ _ c1 e1 _ (GAW.out.below (by first | exact ZZ.out | exact tbelowD ZZ.out | exact below_drewN ZZ.out _)) (GBW.out.below (by first | exact ZZ.out | exact tbelowD ZZ.out | exact below_drewN ZZ.out _)) hn1 hn2).mono ?_; rintro e y ⟨gp2, gf2, hgp2, hgf2, rfl, rp2, rf2, hy⟩; have ZZ : RowKit.Hid (Below W.heap.size W y) := Lib.hid (by first | exact cstep ZZ hy | exact cstepD ZZ hy); have RP2 := Lib.hid rp2; have RF2 := Lib.hid rf2; have RP9 := Lib.hid (RP8.out.below ZZ.out); have RF9 := Lib.hid (RF8.out.below ZZ.out); clear hy rp2 rf2 hgp2 hgf2; obtain ⟨k0, k1, i0, i1⟩ := F0.out _ ZZ.out)
          | (go_at_call 13; refine (eqProof_same _ _ _ _ _ _ _ _ _ _ _ _ _ _ _ c1 e1 (by first | exact RP9.out | exact RP9.out.below (tbelowD (Below.refl _ _)) | exact RP9.out.below (below_drewN (Below.refl _ _) _)) (by first | exact RF9.out | exact RF9.out.below (tbelowD (Below.refl _ _)) | exact RF9.out.below (below_drewN (Below.refl _ _) _)) (by first | exact RP2.out | exact RP2.out.below (tbelowD (Below.refl _ _)) | exact RP2.out.below (below_drewN (Below.refl _ _) _)) (by first | exact RF2.out | exact RF2.out.below (tbelowD (Below.refl _ _)) | exact RF2.out.below (below_drewN (Below.refl _ _) _))).mono ?_; rintro e y ⟨rfl, hy⟩; have ZZ : RowKit.Hid (Below W.heap.size W y) := Lib.hid (by first | exact cstep ZZ hy | exact cstepD ZZ hy); clear hy; obtain ⟨k0, k1, i0, i1⟩ := F0.out _ ZZ.out))
      all_goals
        go_wp2_with fail
        go_meet
        exact ⟨rfl, ZZ.out⟩
    case rest =>
      obtain ⟨rfl, hbx⟩ := hcut
      have HB9 := Lib.hid (HB8.out.trans (hbx.mono HB8.out.size))
      clear hbx F0 ZZ HB8 HX8 HI8 k0 k1 i0 i1 GAW GBW
      go_wp2_with fail
      go_ret
      exact ⟨rfl, HB9.out⟩

/-! ### THE ROW's STEP -/
set_option maxRecDepth 100000 in
theorem lifted (os : Os) (started : os.Started) (H : Type) (enc : TypeId × Value → H) :
    ReturnsInHanded {} Try.checked os 3 .any (Rows.fnExactSumOfRowsSpec.pre6 enc Try.prog Try.f3 Rows.fnExactSumOfRowsRow.domain false) (Rows.fnExactSumOfRowsSpec.post enc Try.prog Try.f3 false true false false) := by
  refine returnsInHanded_of_change (C := Try.checked) own started (by kernel_rfl) Try.func3
    (ChangeSpec.witness6 (enc := enc) (C := Try.checked) false ⟨#[], #[.slice none 0 0, .agg #[.slice none 0 0, .slice none 0 0]], []⟩ 8 (by kernel_rfl) (by kernel_rfl) (by kernel_rfl) (by kernel_rfl)) ?_
  intro W base args ds gs before hval0 hW hcnd _
  have hval : ∀ (j : Nat) t v, Try.f3.params[j]? = some t → args[j]? = some v → Value.okWide Try.prog W .any base t v := hval0
  have hW' := hW
  obtain ⟨p, q, hA0, hV, rfl, hfz, hnd⟩ := hW
  have hA : DataW.TrodAll enc Try.prog W 0 (fun _ => true) true Try.f3.params.toList args.toList ds p := hA0
  rw [Try.params3] at hA hval
  obtain ⟨v0, vs0, d0, ds0, p0, q0, hargs, rfl, rfl, h0, r0⟩ := trodAll_cons hA
  obtain ⟨v1, vs1, d1, ds1, p1, q1, rfl, rfl, rfl, h1, r1⟩ := trodAll_cons r0
  obtain ⟨rfl, rfl, rfl⟩ := trodAll_nil r1
  obtain rfl : args = #[v0, v1] := by cases args; simp_all
  obtain ⟨rfl, rfl⟩ := trodVars_none hV
  have k0 := h0
  have lt0 : ∀ x ∈ p0, x.block < W.heap.size := by obtain ⟨m, hm⟩ := k0; exact DataW.trod_lt m _ _ _ hm
  obtain ⟨p0, n0, cap0, c0, rfl, g0⟩ := open_cds (hval 0 22 v0 rfl rfl) h0
  have k1 := h1
  have lt1 : ∀ x ∈ p1, x.block < W.heap.size := by obtain ⟨m, hm⟩ := k1; exact DataW.trod_lt m _ _ _ hm
  obtain ⟨p1, n1, cap1, c1, q1, m1, kap1, e1, rfl, g1⟩ := open_proof (hval 1 25 v1 rfl rfl) h1
  clear hA0 hval0
  refine (walk p0 n0 cap0 c0 p1 n1 cap1 c1 q1 m1 kap1 e1 W g0 g1).mono fun e W' ⟨he, bel⟩ => ?_
  subst he
  exact ⟨_, rfl, _, _, _, [], _, [], hW', trodAll_mk1 (shut_bool Try.underlying4 _), (trodAll_cons_mk (Below.trod laidOut (by kernel_rfl) (of_decide_eq_true (by kernel_rfl)) k0 bel lt0) (trodAll_cons_mk (Below.trod laidOut (by kernel_rfl) (of_decide_eq_true (by kernel_rfl)) k1 bel lt1) trodAll_mk0)), rfl, bel.frame _, fun h => by cases h⟩

theorem over : Rows.fnExactSumOfRowsRow.holds Try.pinned (OpenSpec.ofChange Rows.fnExactSumOfRowsSpec) :=
  OpenClaim.holds_of_wide 3 Try.f3 rfl rfl rfl rfl rfl rfl rfl ⟨rfl, rfl, rfl, rfl, rfl⟩ rfl rfl rfl rfl rfl (by kernel_rfl) Try.func3 (by kernel_rfl)
    (of_decide_eq_true (by kernel_rfl)) (by unfold Func.isWrapper; first | (rw [if_pos (by decide +kernel)]; kernel_rfl) | (rw [if_neg (by decide +kernel)]; exact ⟨rfl, rfl⟩))
    (fun os started H enc _ => lifted os started H enc)

/-- THE STATEMENT. -/
theorem proved : Rows.FnExactSumOfRowsSaid := over
#print axioms proved
end Go.Proofs.Ytidmhpeaehmmhab.fnExactSumOfRows
