/- For every proof, FnExactProofText answers true: the program's text is the model's, and the argument is as before. The card ties the library's tables to the program's text; no other condition. -/
import Derived.Test.YtidmhpeaehmmhabDoorProofV
import Derived.Test.YtidmhpeaehmmhabDoorThrustX
import Derived.Test.YtidmhpeaehmmhabDoorStepC
import Derived.Test.YtidmhpeaehmmhabDoorLaidC
import Derived.Test.YtidmhpeaehmmhabDoorRows
import Derived.Test.YtidmhpeaehmmhabDoorCards
import Derived.Test.YtidmhpeaehmmhabDoorTie
import Derived.LaidMore
import Derived.Stop.Joined
import Derived.SevenTiedAt
import Derived.WalkKit
import Derived.ProofKit
import Derived.OpenShut
import Derived.ShutString
import Derived.ChangeOld
import Derived.Below
namespace Go.Proofs.YtidmhpeaehmmhabDoor.fnExactProofText
set_option maxRecDepth 100000
open Go.ChangeShapes Go.WideShapes Go.ChangeAt Go.RowKit
open Go.ChangeMaps (open_string shut_string)
set_option linter.unusedVariables false

theorem own : ownKnob Tryd.prog.godebug = none := by kernel_rfl
theorem laidOut : laidOutB Tryd.prog = true := by kernel_rfl

/-! ### THE WALK: the Go text returns true, and writes nothing that was there. -/
set_option maxRecDepth 100000 in
set_option maxHeartbeats 4000000 in
theorem walk (p0 : Option Addr) (n0 cap0 : Nat) (c0 : List Int) (q0 : Option Addr) (m0 kap0 : Nat) (e0 : List Int) (w : World) (g0 : InNs w p0 n0 cap0 c0 ∧ InNs w q0 m0 kap0 e0) (hT : Tens w) :
    Calls Tryd.prog 3 #[.agg #[.slice p0 n0 cap0, .slice q0 m0 kap0]] w fun e w' => e = .returned (.bool true) ∧ Below w.heap.size w w' := by
  have HT := Lib.hid hT
  clear hT
  obtain ⟨g1a, g1b⟩ := g0
  have hm1 : n0 ≤ maxLen := Nat.le_trans g1a.room.1 g1a.room.2
  have hm2 : m0 ≤ maxLen := Nat.le_trans g1b.room.1 g1b.room.2
  have GA := Lib.hid g1a
  have GB := Lib.hid g1b
  clear g1a g1b
  have HB0 := Lib.hid ((Below.refl w.heap.size w).alloc (Nat.le_refl _) (.cells #[.slice p0 n0 cap0, .slice q0 m0 kap0] 24))
  have HX0 := Lib.hid (pbox_alloc w p0 q0 n0 cap0 m0 kap0 24)
  obtain ⟨k0, k1⟩ := id HX0.out
  go_enter Tryd.func3, Tryd.ntmps3
  go_wp2_with fail
  refine (szProof _ _ _ _ _ _ _ _ hm1 hm2 ⟨by omega, by omega⟩).mono ?_
  rintro e w1 ⟨rfl, hb1⟩
  have HB1 := Lib.hid (HB0.out.trans (hb1.mono HB0.out.size))
  have HX1 := Lib.hid (HX0.out.below hb1)
  clear hb1 HB0 HX0 k0 k1
  by_cases hs1 : (n0 : Int) + m0 ≤ 1048576
  case neg =>
    have HZ := Lib.hid (show szP n0 m0 1048576 = -1 from if_neg hs1)
    rw [HZ.out]
    clear hs1
    go_wp2_with fail
    go_ret
    exact ⟨rfl, HB1.out⟩
  have HZ := Lib.hid (show szP n0 m0 1048576 = 1048576 - n0 - m0 from if_pos hs1)
  obtain ⟨Q, hQ⟩ : ∃ Q : Int, Q = 1048576 - n0 - m0 := ⟨_, rfl⟩
  rw [← hQ] at HZ
  have hQ0 : ¬ Q < 0 := by omega
  have hQ1 : decide (Q < 0) = false := decide_eq_false hQ0
  have hn1 : n0 ≤ 1048576 := by omega
  have hn2 : m0 ≤ 1048576 := by omega
  rw [HZ.out]
  clear hQ hs1
  generalize hV : prText c0 e0 = V
  have HV := Lib.hid hV
  clear hV
  obtain ⟨k0, k1⟩ := id HX1.out
  go_wp2_with fail
  refine (toProof _ _ _ _ _ _ c0 e0 _ (GA.out.below HB1.out) (GB.out.below HB1.out) hn1 hn2).mono ?_
  rintro e w2 ⟨ga, gb, -, -, rfl, ra, rb, hb2⟩
  have HB2 := Lib.hid (HB1.out.trans (hb2.mono HB1.out.size))
  have HX2 := Lib.hid (HX1.out.below hb2)
  have RA := Lib.hid ra
  have RB := Lib.hid rb
  clear hb2 HB1 HX1 ra rb k0 k1
  go_wp2_with fail
  refine (specProofText _ _ _ _ _ _ _ _ _ c0 e0 RA.out RB.out GA.out.wf GB.out.wf hn1).mono ?_
  rintro e w3 ⟨rfl, hb3⟩
  rw [HV.out]
  have HB3 := Lib.hid (HB2.out.trans (hb3.mono HB2.out.size))
  have HX3 := Lib.hid (HX2.out.below hb3)
  clear hb3 HB2 HX2 RA RB
  obtain ⟨k0, k1⟩ := id HX3.out
  go_wp2_with fail
  refine (toProof _ _ _ _ _ _ c0 e0 _ (GA.out.below HB3.out) (GB.out.below HB3.out) hn1 hn2).mono ?_
  rintro e w4 ⟨gp, gf, -, -, rfl, rp, rf, hb4⟩
  have hal := pr_al w4 (.cells #[.slice (some ⟨gp, 0, none⟩) n0 n0, .slice (some ⟨gf, 0, none⟩) m0 m0] 27)
  have hb5 : Below w3.heap.size w3 _ := hb4.trans (hal.mono hb4.size)
  have RP5 := Lib.hid (rp.below hal)
  have RF5 := Lib.hid (rf.below hal)
  have HB5 := Lib.hid (HB3.out.trans (hb5.mono HB3.out.size))
  have HX5 := Lib.hid (HX3.out.below hb5)
  have HI5 := Lib.hid (pbox_alloc w4 (some ⟨gp, 0, none⟩) (some ⟨gf, 0, none⟩) n0 n0 m0 m0 27)
  clear hb4 hal hb5 rp rf HB3 HX3 k0 k1
  obtain ⟨bi, hbi⟩ : ∃ bi, w4.heap.size = bi := ⟨_, rfl⟩
  obtain ⟨i0, i1⟩ := id HI5.out
  go_wp2_with fail
  refine (implProofText _ _ _ _ _ _ _ _ _ c0 e0 RP5.out RF5.out GA.out.wf GB.out.wf hn1 (HT.out.below HB5.out)).mono ?_
  rintro e w6 ⟨rfl, hb6⟩
  rw [HV.out]
  have RP8 := Lib.hid (RP5.out.below hb6)
  have RF8 := Lib.hid (RF5.out.below hb6)
  have HB8 := Lib.hid (HB5.out.trans (hb6.mono HB5.out.size))
  have HX8 := Lib.hid (HX5.out.below hb6)
  have HI8 := Lib.hid (HI5.out.below hb6)
  rw [hbi] at HI8
  clear hb6 RP5 RF5 HB5 HX5 HI5 i0 i1 hbi
  obtain ⟨k0, k1⟩ := id HX8.out
  obtain ⟨i0, i1⟩ := id HI8.out
  go_upto_region 10 with fail
  generalize hW : w6 = W at *
  clear hW
  have F0 := Lib.hid (fun (U : World) (hU : Below W.heap.size W U) => (⟨(HX8.out.below hU).1, (HX8.out.below hU).2, (HI8.out.below hU).1, (HI8.out.below hU).2⟩ : U.cell? ⟨w.heap.size, 0, none⟩ = some (.slice p0 n0 cap0) ∧ U.cell? ⟨w.heap.size, 1, none⟩ = some (.slice q0 m0 kap0) ∧ U.cell? ⟨bi, 0, none⟩ = some (.slice (some ⟨gp, 0, none⟩) n0 n0) ∧ U.cell? ⟨bi, 1, none⟩ = some (.slice (some ⟨gf, 0, none⟩) m0 m0)))
  have ZZ := Lib.hid (Below.refl W.heap.size W)
  have GAW := Lib.hid (GA.out.below HB8.out)
  have GBW := Lib.hid (GB.out.below HB8.out)
  go_cut [26] from 22 to 25 (fun r wx => r = .bool false ∧ Below W.heap.size W wx)
  case first =>
    go_region_held3 (fun w' => w'.cell? ⟨w.heap.size, 0, none⟩ = some (.slice p0 n0 cap0) ∧ w'.cell? ⟨w.heap.size, 1, none⟩ = some (.slice q0 m0 kap0) ∧ w'.cell? ⟨bi, 0, none⟩ = some (.slice (some ⟨gp, 0, none⟩) n0 n0) ∧ w'.cell? ⟨bi, 1, none⟩ = some (.slice (some ⟨gf, 0, none⟩) m0 m0))
      (first | (exact F0.out _ ZZ.out) | (exact F0.out _ (tbelowD ZZ.out)) | (exact F0.out _ (below_drewN ZZ.out _)) | go_keep | trivial)
      (first
        | (go_at_call 6; refine (toProof _ _ _ _ _ _ c0 e0 _ (GAW.out.below (by first | exact ZZ.out | exact tbelowD ZZ.out | exact below_drewN ZZ.out _)) (GBW.out.below (by first | exact ZZ.out | exact tbelowD ZZ.out | exact below_drewN ZZ.out _)) hn1 hn2).mono ?_; rintro e y ⟨gp2, gf2, hgp2, hgf2, rfl, rp2, rf2, hy⟩; have ZZ : RowKit.Hid (Below W.heap.size W y) := Lib.hid (by first | exact cstep ZZ hy | exact cstepD ZZ hy); have RP2 := Lib.hid rp2; have RF2 := Lib.hid rf2; have RP9 := Lib.hid (RP8.out.below ZZ.out); have RF9 := Lib.hid (RF8.out.below ZZ.out); clear hy rp2 rf2 hgp2 hgf2; obtain ⟨k0, k1, i0, i1⟩ := F0.out _ ZZ.out)
        | (go_at_call 8; refine (eqProof_same _ _ _ _ _ _ _ _ _ _ _ _ _ _ _ c0 e0 (by first | exact RP9.out | exact RP9.out.below (tbelowD (Below.refl _ _)) | exact RP9.out.below (below_drewN (Below.refl _ _) _)) (by first | exact RF9.out | exact RF9.out.below (tbelowD (Below.refl _ _)) | exact RF9.out.below (below_drewN (Below.refl _ _) _)) (by first | exact RP2.out | exact RP2.out.below (tbelowD (Below.refl _ _)) | exact RP2.out.below (below_drewN (Below.refl _ _) _)) (by first | exact RF2.out | exact RF2.out.below (tbelowD (Below.refl _ _)) | exact RF2.out.below (below_drewN (Below.refl _ _) _))).mono ?_; rintro e y ⟨rfl, hy⟩; have ZZ : RowKit.Hid (Below W.heap.size W y) := Lib.hid (by first | exact cstep ZZ hy | exact cstepD ZZ hy); clear hy; obtain ⟨k0, k1, i0, i1⟩ := F0.out _ ZZ.out))
    all_goals
      go_wp2_with fail
      go_meet
      exact ⟨rfl, ZZ.out⟩
  case rest =>
    obtain ⟨rfl, hbx⟩ := hcut
    have HB9 := Lib.hid (HB8.out.trans (hbx.mono HB8.out.size))
    clear hbx F0 ZZ HB8 HX8 HI8 k0 k1 i0 i1 GAW GBW
    go_wp2_with fail
    go_ret
    exact ⟨rfl, HB9.out⟩

/-- The door's own heap meets the condition. -/
theorem door_met (os : Os) (args : Array Value) : laidMetH Tryd.prog Rows.fnExactProofTextRow.laid ((World.doorLaid Tryd.prog 400 os).forCall (fun _ _ => 0) ⟨#[], args, []⟩).memory :=
  laidMetH_of_parts3 (fuel := 8) (laidMet_of_run' 8 (by kernel_rfl) (by kernel_rfl)) (by kernel_rfl) (by kernel_rfl)

/-! ### THE ROW's STEP -/
set_option maxRecDepth 100000 in
theorem lifted (os : Os) (started : os.Started) (H : Type) (enc : TypeId × Value → H) :
    ReturnsInHanded {} Tryd.checked os 3 .any (fun w args => (Rows.fnExactProofTextSpec.pre enc Tryd.prog Tryd.f3 [] false w args ∧ laidMetH Tryd.prog Rows.fnExactProofTextRow.laid w) ∧ sizedMet enc Tryd.prog Tryd.f3 (OpenSpec.ofChange Rows.fnExactProofTextSpec) false w args) (Rows.fnExactProofTextSpec.post enc Tryd.prog Tryd.f3 false true false false) := by
  refine returnsInHanded_of_change_and (C := Tryd.checked) (X := fun w _ => laidMetH Tryd.prog Rows.fnExactProofTextRow.laid w) (fun _ _ _ hh h => h.of_heap hh) own started (by kernel_rfl) Tryd.func3
    (ChangeSpec.witness_shaped (enc := enc) (C := Tryd.checked) (os := os) (X := fun w _ => laidMetH Tryd.prog Rows.fnExactProofTextRow.laid w) false (World.doorLaid Tryd.prog 400 os) #[.agg #[.slice none 0 0, .slice none 0 0]] 8 rfl (World.shaped_of_RefB (by kernel_rfl) (by kernel_rfl)) (by kernel_rfl) (by kernel_rfl) (by kernel_rfl) (door_met os _)) ?_
  intro W base args ds gs before hval0 hW _ _ hL _
  have hval : ∀ (j : Nat) t v, Tryd.f3.params[j]? = some t → args[j]? = some v → Value.okWide Tryd.prog W .any base t v := hval0
  have hW' := hW
  obtain ⟨p, q, hA0, hV, rfl, hfz, hnd⟩ := hW
  have hA : DataW.TrodAll enc Tryd.prog W 0 (fun _ => true) true Tryd.f3.params.toList args.toList ds p := hA0
  rw [Tryd.params3] at hA hval
  obtain ⟨v0, vs0, d0, ds0, p0, q0, hargs, rfl, rfl, h0, r0⟩ := trodAll_cons hA
  obtain ⟨rfl, rfl, rfl⟩ := trodAll_nil r0
  obtain rfl : args = #[v0] := by cases args; simp_all
  obtain ⟨rfl, rfl⟩ := trodVars_none hV
  have k0 := h0
  have lt0 : ∀ x ∈ p0, x.block < W.heap.size := by obtain ⟨m, hm⟩ := k0; exact DataW.trod_lt m _ _ _ hm
  obtain ⟨p0, n0, cap0, c0, q0, m0, kap0, e0, rfl, g0⟩ := open_proof (hval 0 24 v0 rfl rfl) h0
  clear hA0 hval0
  have hT := tens_of_laid (by kernel_rfl) hL
  refine (walk p0 n0 cap0 c0 q0 m0 kap0 e0 W g0 hT).mono fun e W' ⟨he, bel⟩ => ?_
  subst he
  exact ⟨_, rfl, _, _, _, [], _, [], hW', trodAll_mk1 (shut_bool Tryd.underlying4 _), (trodAll_cons_mk (Below.trod laidOut (by kernel_rfl) (of_decide_eq_true (by kernel_rfl)) k0 bel lt0) trodAll_mk0), rfl, bel.frame _, fun h => by cases h⟩

theorem over : Rows.fnExactProofTextRow.holds Tryd.pinned (OpenSpec.ofChange Rows.fnExactProofTextSpec) :=
  OpenClaim.holds_of_wide 3 Tryd.f3 rfl rfl rfl rfl rfl rfl rfl ⟨rfl, rfl, rfl, rfl, rfl⟩ rfl rfl rfl rfl rfl (by kernel_rfl) Tryd.func3 (by kernel_rfl)
    (of_decide_eq_true (by kernel_rfl)) (by unfold Func.isWrapper; first | (rw [if_pos (by decide +kernel)]; kernel_rfl) | (rw [if_neg (by decide +kernel)]; exact ⟨rfl, rfl⟩))
    (fun os started H enc _ => lifted os started H enc)

/-- THE STATEMENT: the card, tied to the program's text. -/
theorem proved : Rows.FnExactProofTextCardSaid :=
  Claim7.holds_tied_plain_at .later [] [.data, .data, .data] true (true, "334b5f3d3fe5436d39c72c6eb2e6d696562a0c99ec6078156286ca0b14e6a8ea") false
    over (fun _ h => by cases h) (by kernel_rfl) (fun _ h => by cases h) fnExactProofText_row_tie rfl ⟨rfl, rfl⟩ (by kernel_rfl) rfl
    (fun f fn hf hfn => by
      obtain rfl : f = 3 := Option.some.inj ((show Tryd.prog.funcNamed Rows.fnExactProofTextRow.func = some 3 by kernel_rfl).symm.trans hf) |>.symm
      obtain rfl : fn = Tryd.f3 := (Option.some.inj (Tryd.func3.symm.trans hfn)).symm
      exact ⟨by kernel_rfl, fun j t ht => by
        rw [Tryd.params3] at ht
        have hm : t ∈ [24] := by simpa using Array.mem_of_getElem? ht
        have hall : ([24].all fun u => !Tryd.prog.wantsStandIn u) = true := by kernel_rfl
        exact (show Tryd.prog.wantsStandIn t = false by simpa using List.all_eq_true.1 hall t hm)⟩)
    (by kernel_rfl)
#print axioms proved
end Go.Proofs.YtidmhpeaehmmhabDoor.fnExactProofText
