/- The exact law of TotalWeight: the program's answer is the model's, and the argument is as before. -/
import Derived.Test.YtikdjcmdeapikaaStonesL
import Derived.Test.YtikdjcmdeapikaaWeightT
import Derived.Test.YtikdjcmdeapikaaRows
import Derived.WalkKit
import Derived.ProofKit
import Derived.OpenShut
import Derived.ShutString
import Derived.ChangeOld
import Derived.Below
namespace Go.Proofs.Ytikdjcmdeapikaa.fnExactTotalWeight
open Go.ChangeShapes Go.WideShapes Go.ChangeAt Go.RowKit
open Go.ChangeMaps (open_string shut_string)
set_option linter.unusedVariables false

theorem own : ownKnob Try.prog.godebug = none := by kernel_rfl
theorem laidOut : laidOutB Try.prog = true := by kernel_rfl

/-! ### THE WALK: the Go text returns true, and writes nothing that was there. -/
set_option maxRecDepth 100000 in
set_option maxHeartbeats 1000000 in
theorem walk (p0 : Option Addr) (n0 cap0 : Nat) (c0 : List El) (w : World) (g0 : InStones w p0 n0 cap0 c0) :
    Calls Try.prog 9 #[.slice p0 n0 cap0] w fun e w' => e = .returned (.bool true) ∧ Below w.heap.size w w' := by
  have G0 := Lib.hid g0
  clear g0
  generalize hV : totV (cor c0) = V
  have HV := Lib.hid hV
  have hne : (V != V) = false := by simp
  clear hV
  go_enter Try.func9, Try.ntmps9
  go_wp2_with fail
  refine (szStoneS _ _ _ _ _ G0.out).mono ?_
  rintro e w1 ⟨r, rfl, hsz, hb1⟩
  have HB1 := Lib.hid hb1
  clear hb1
  rcases hsz with rfl | ⟨h0, h1, hn, hall⟩
  · go_wp2_with fail
    go_ret
    exact ⟨rfl, HB1.out⟩
  · have HA := Lib.hid hall
    clear hall
    go_wp2_with fail
    refine (toStoneS _ _ _ c0 _ (G0.out.below HB1.out) hn HA.out).mono ?_
    rintro e w2 ⟨rfl, ra, hb2⟩
    have HB2 := Lib.hid (HB1.out.trans (hb2.mono HB1.out.size))
    have RA := Lib.hid ra
    clear hb2 ra
    go_wp2_with fail
    refine (specTotalWeight _ _ _ (cor c0) RA.out).mono ?_
    rintro e w3 ⟨rfl, hb3⟩
    rw [HV.out]
    have HB3 := Lib.hid (HB2.out.trans (hb3.mono HB2.out.size))
    clear hb3 RA
    go_wp2_with fail
    refine (toStoneS _ _ _ c0 _ (G0.out.below HB3.out) hn HA.out).mono ?_
    rintro e w4 ⟨rfl, rx, hb4⟩
    have HB4 := Lib.hid (HB3.out.trans (hb4.mono HB3.out.size))
    have RX := Lib.hid rx
    clear hb4 rx
    go_wp2_with fail
    refine (implTotalWeight _ _ _ (cor c0) RX.out).mono ?_
    rintro e w5 ⟨rfl, hb5⟩
    rw [HV.out]
    have HB5 := Lib.hid (HB4.out.trans (hb5.mono HB4.out.size))
    have RX5 := Lib.hid (RX.out.below hb5)
    clear hb5
    go_wp2_with fail
    refine (toStoneS _ _ _ c0 _ (G0.out.below HB5.out) hn HA.out).mono ?_
    rintro e w6 ⟨rfl, ry, hb6⟩
    have HB6 := Lib.hid (HB5.out.trans (hb6.mono HB5.out.size))
    have RX6 := Lib.hid (RX5.out.below hb6)
    have RY := Lib.hid ry
    clear hb6 ry
    go_wp2_with fail
    refine (eqStoneS_same _ _ _ _ _ (cor c0) RX6.out RY.out).mono ?_
    rintro e w7 ⟨rfl, hb7⟩
    have HB7 := Lib.hid (HB6.out.trans (hb7.mono HB6.out.size))
    clear hb7
    go_wp2_with fail
    go_ret
    exact ⟨rfl, HB7.out⟩

/-! ### THE ROW's STEP -/
set_option maxRecDepth 100000 in
theorem lifted (os : Os) (started : os.Started) (H : Type) (enc : TypeId × Value → H) :
    ReturnsInHanded {} Try.checked os 9 .any (Rows.fnExactTotalWeightSpec.pre6 enc Try.prog Try.f9 Rows.fnExactTotalWeightRow.domain false) (Rows.fnExactTotalWeightSpec.post enc Try.prog Try.f9 false true false false) := by
  refine returnsInHanded_of_change (C := Try.checked) own started (by kernel_rfl) Try.func9
    (ChangeSpec.witness6 (enc := enc) (C := Try.checked) false ⟨#[], #[.slice none 0 0], []⟩ 8 (by kernel_rfl) (by kernel_rfl) (by kernel_rfl) (by kernel_rfl)) ?_
  intro W base args ds gs before hval0 hW hcnd _
  have hval : ∀ (j : Nat) t v, Try.f9.params[j]? = some t → args[j]? = some v → Value.okWide Try.prog W .any base t v := hval0
  have hW' := hW
  obtain ⟨p, q, hA0, hV, rfl, hfz, hnd⟩ := hW
  have hA : DataW.TrodAll enc Try.prog W 0 (fun _ => true) true Try.f9.params.toList args.toList ds p := hA0
  rw [Try.params9] at hA hval
  obtain ⟨v0, vs0, d0, ds0, p0, q0, hargs, rfl, rfl, h0, r0⟩ := trodAll_cons hA
  obtain ⟨rfl, rfl, rfl⟩ := trodAll_nil r0
  obtain rfl : args = #[v0] := by cases args; simp_all
  obtain ⟨rfl, rfl⟩ := trodVars_none hV
  have k0 := h0
  have lt0 : ∀ x ∈ p0, x.block < W.heap.size := by obtain ⟨m, hm⟩ := k0; exact DataW.trod_lt m _ _ _ hm
  obtain ⟨p0, n0, cap0, c0, rfl, g0⟩ := open_stones (hval 0 46 v0 rfl rfl) h0
  clear hA0 hval0
  refine (walk p0 n0 cap0 c0 W g0).mono fun e W' ⟨he, bel⟩ => ?_
  subst he
  exact ⟨_, rfl, _, _, _, [], _, [], hW', trodAll_mk1 (shut_bool Try.underlying4 _), (trodAll_cons_mk (Below.trod laidOut (by kernel_rfl) (of_decide_eq_true (by kernel_rfl)) k0 bel lt0) trodAll_mk0), rfl, bel.frame _, fun h => by cases h⟩

theorem over : Rows.fnExactTotalWeightRow.holds Try.pinned (OpenSpec.ofChange Rows.fnExactTotalWeightSpec) :=
  OpenClaim.holds_of_wide 9 Try.f9 rfl rfl rfl rfl rfl rfl rfl ⟨rfl, rfl, rfl, rfl, rfl⟩ rfl rfl rfl rfl rfl (by kernel_rfl) Try.func9 (by kernel_rfl)
    (of_decide_eq_true (by kernel_rfl)) (by unfold Func.isWrapper; first | (rw [if_pos (by decide +kernel)]; kernel_rfl) | (rw [if_neg (by decide +kernel)]; exact ⟨rfl, rfl⟩))
    (fun os started H enc _ => lifted os started H enc)

/-- THE STATEMENT. -/
theorem proved : Rows.FnExactTotalWeightSaid := over
#print axioms proved
end Go.Proofs.Ytikdjcmdeapikaa.fnExactTotalWeight
