/- For every joint and every x, FnExactMirrorJoint answers true: the program's MirrorJoint gives what the model's gives, in both points. No condition. -/
import Derived.Test.YtioeemmdpfddaaaJointD
import Derived.Test.YtioeemmdpfddaaaRows
import Derived.WalkKit
import Derived.ProofKit
import Derived.OpenShut
import Derived.ShutString
import Derived.ChangeOld
import Derived.Below
namespace Go.Proofs.Ytioeemmdpfddaaa.fnExactMirrorJoint
open Go.ChangeShapes Go.WideShapes Go.ChangeAt Go.RowKit
open Go.ChangeMaps (open_string shut_string)
set_option linter.unusedVariables false

theorem own : ownKnob Try.prog.godebug = none := by kernel_rfl
theorem laidOut : laidOutB Try.prog = true := by kernel_rfl

/-! ### THE WALK: the Go text returns true, and writes nothing that was there. -/
theorem walk (jx0 jy0 jz0 ju0 : Int) (a1 : Int) (w : World) (g0 : I64 jx0 ∧ I64 jy0 ∧ I64 jz0 ∧ I64 ju0) (g1 : (Lit.int .i64 a1).wf = true) :
    Calls Try.prog 5 #[.agg #[.int .i64 jx0, .int .i64 jy0, .int .i64 jz0, .int .i64 ju0], .int .i64 a1] w fun e w' => e = .returned (.bool true) ∧ Below w.heap.size w w' := by
  generalize hV : mirX jx0 jy0 a1 = V
  generalize hU : mirX jz0 ju0 a1 = U
  have HV := Lib.hid hV
  have HU := Lib.hid hU
  clear hV hU
  have hb0 := (Below.refl w.heap.size w).alloc (Nat.le_refl _) (.cells #[.int .i64 jx0, .int .i64 jy0, .int .i64 jz0, .int .i64 ju0] 25)
  have HB0 := Lib.hid hb0
  clear hb0
  go_enter Try.func5, Try.ntmps5
  go_wp2_with fail
  refine (toJoint _ _ _ _ _).mono ?_
  rintro e w1 ⟨rfl, hb1⟩
  go_wp2_with fail
  refine (specMirrorJoint _ _ _ _ _ _).mono ?_
  rintro e w2 ⟨rfl, hb2⟩
  rw [HV.out, HU.out]
  have hb12 := hb1.trans (hb2.mono hb1.size)
  have HB2 := Lib.hid (HB0.out.trans (hb12.mono HB0.out.size))
  clear hb1 hb2
  obtain ⟨hc1, hf1⟩ := bcell hb12
  have hz2 : w.heap.size < w2.heap.size := by have := hb12.size; simp at this; omega
  clear hb12
  go_wp2_with fail
  refine (toJoint _ _ _ _ _).mono ?_
  rintro e w3 ⟨rfl, hb3⟩
  go_wp2_with fail
  refine (implMirrorJoint _ _ _ _ _ _).mono ?_
  rintro e w4 ⟨rfl, hb4⟩
  rw [HV.out, HU.out]
  have hb34 := hb3.trans (hb4.mono hb3.size)
  clear hb3 hb4 hc1 hf1
  obtain ⟨hc2, hf2⟩ := bcell hb34
  have hz4 : w2.heap.size < w4.heap.size := by have := hb34.size; simp at this; omega
  have HB4 := Lib.hid ((HB2.out.alloc HB2.out.size (.cells #[.int .i64 V, .int .i64 jy0, .int .i64 U, .int .i64 ju0] 29)).trans (hb34.mono (by have := HB2.out.size; simp; omega)))
  clear hb34
  go_wp2_with fail
  refine (eqJoint_same _ _ _ _ _).mono ?_
  rintro e w5 ⟨rfl, hb5⟩
  have HB5 := Lib.hid ((HB4.out.alloc HB4.out.size (.cells #[.int .i64 V, .int .i64 jy0, .int .i64 U, .int .i64 ju0] 29)).trans (hb5.mono (by have := HB4.out.size; simp; omega)))
  clear hb5
  go_wp2_with fail
  go_ret
  exact ⟨rfl, HB5.out⟩

/-! ### THE ROW's STEP -/
set_option maxRecDepth 100000 in
theorem lifted (os : Os) (started : os.Started) (H : Type) (enc : TypeId × Value → H) :
    ReturnsInHanded {} Try.checked os 5 .any (Rows.fnExactMirrorJointSpec.pre6 enc Try.prog Try.f5 Rows.fnExactMirrorJointRow.domain false) (Rows.fnExactMirrorJointSpec.post enc Try.prog Try.f5 false true false false) := by
  refine returnsInHanded_of_change (C := Try.checked) own started (by kernel_rfl) Try.func5
    (ChangeSpec.witness6 (enc := enc) (C := Try.checked) false ⟨#[], #[.agg #[.int .i64 0, .int .i64 0, .int .i64 0, .int .i64 0], .int .i64 0], []⟩ 8 (by kernel_rfl) (by kernel_rfl) (by kernel_rfl) (by kernel_rfl)) ?_
  intro W base args ds gs before hval0 hW hcnd _
  have hval : ∀ (j : Nat) t v, Try.f5.params[j]? = some t → args[j]? = some v → Value.okWide Try.prog W .any base t v := hval0
  have hW' := hW
  obtain ⟨p, q, hA0, hV, rfl, hfz, hnd⟩ := hW
  have hA : DataW.TrodAll enc Try.prog W 0 (fun _ => true) true Try.f5.params.toList args.toList ds p := hA0
  rw [Try.params5] at hA hval
  obtain ⟨v0, vs0, d0, ds0, p0, q0, hargs, rfl, rfl, h0, r0⟩ := trodAll_cons hA
  obtain ⟨v1, vs1, d1, ds1, p1, q1, rfl, rfl, rfl, h1, r1⟩ := trodAll_cons r0
  obtain ⟨rfl, rfl, rfl⟩ := trodAll_nil r1
  obtain rfl : args = #[v0, v1] := by cases args; simp_all
  obtain ⟨rfl, rfl⟩ := trodVars_none hV
  have k0 := h0
  have lt0 : ∀ x ∈ p0, x.block < W.heap.size := by obtain ⟨m, hm⟩ := k0; exact DataW.trod_lt m _ _ _ hm
  obtain ⟨jx0, jy0, jz0, ju0, rfl, g0⟩ := open_joint (hval 0 25 v0 rfl rfl) h0
  have k1 := h1
  have lt1 : ∀ x ∈ p1, x.block < W.heap.size := by obtain ⟨m, hm⟩ := k1; exact DataW.trod_lt m _ _ _ hm
  obtain ⟨a1, rfl, rfl, rfl, g1⟩ := open_int Try.underlying3 (hval 1 3 v1 rfl rfl) h1
  clear hA0 hval0
  refine (walk jx0 jy0 jz0 ju0 a1 W g0 g1).mono fun e W' ⟨he, bel⟩ => ?_
  subst he
  exact ⟨_, rfl, _, _, _, [], _, [], hW', trodAll_mk1 (shut_bool Try.underlying4 _), (trodAll_cons_mk (Below.trod laidOut (by kernel_rfl) (of_decide_eq_true (by kernel_rfl)) k0 bel lt0) (trodAll_cons_mk (Below.trod laidOut (by kernel_rfl) (of_decide_eq_true (by kernel_rfl)) k1 bel lt1) trodAll_mk0)), rfl, bel.frame _, fun h => by cases h⟩

theorem over : Rows.fnExactMirrorJointRow.holds Try.pinned (OpenSpec.ofChange Rows.fnExactMirrorJointSpec) :=
  OpenClaim.holds_of_wide 5 Try.f5 rfl rfl rfl rfl rfl rfl rfl ⟨rfl, rfl, rfl, rfl, rfl⟩ rfl rfl rfl rfl rfl (by kernel_rfl) Try.func5 (by kernel_rfl)
    (of_decide_eq_true (by kernel_rfl)) (by unfold Func.isWrapper; first | (rw [if_pos (by decide +kernel)]; kernel_rfl) | (rw [if_neg (by decide +kernel)]; exact ⟨rfl, rfl⟩))
    (fun os started H enc _ => lifted os started H enc)

/-- THE STATEMENT. -/
theorem proved : Rows.FnExactMirrorJointSaid := over
#print axioms proved
end Go.Proofs.Ytioeemmdpfddaaa.fnExactMirrorJoint
