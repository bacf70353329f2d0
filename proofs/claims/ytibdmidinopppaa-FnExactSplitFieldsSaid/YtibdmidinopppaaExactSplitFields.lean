/- For every line, FnExactSplitFields answers true: the program's SplitFields gives what the model's gives, in memory of its own. No condition. -/
import Derived.Test.YtibdmidinopppaaMarkC
import Derived.Test.YtibdmidinopppaaSplitC
import Derived.Test.YtibdmidinopppaaRows
import Derived.WalkKit
import Derived.Below
import Derived.ChangeOld
import Derived.ProofKit
import Derived.OpenShut
import Derived.ShutString
namespace Go.Proofs.Ytibdmidinopppaa.fnExactSplitFields
open Go.ChangeShapes Go.WideShapes Go.ChangeAt Go.RowKit
open Go.ChangeMaps (open_string shut_string)
set_option linter.unusedVariables false      -- a walk need not use every 'w<i>' (that an integer argument fits its kind)

theorem own : ownKnob Try.prog.godebug = none := by kernel_rfl

/-! ### STEP 1: THE WALK: the Go text returns true. 'Grown w w'': the world has at most new blocks (Derived/RowKit3.lean). Part the cases AHEAD of 'go_enter' where a test parts the walk; take each callee by a contract of your own. -/
theorem walk (a0 : ByteArray) (w0 : a0.size ≤ maxLen) (w : World) :
    Calls Try.prog 6 #[.string a0] w fun e w' => e = .returned (.bool true) ∧ Below w.heap.size w w' := by
  have hm := w0
  unfold maxLen at hm
  by_cases h1 : 1048576 < a0.size
  · go_enter Try.func6, Try.ntmps6
    go_wp2_with fail
    go_ret
    exact ⟨rfl, Below.refl _ _⟩
  · obtain ⟨l, b, hl, hS, hI⟩ := split_both a0 (by omega)
    have HS := Lib.hid hS
    have HI := Lib.hid hI
    clear hS hI
    have hbb : (b != b) = false := by cases b <;> rfl
    have hqq : ((1 : Int) + (l.length : Int) != 1 + (l.length : Int)) = false := by simp
    go_enter Try.func6, Try.ntmps6
    go_wp2_with fail
    refine (HS.out w).mono ?_
    rintro e w1 ⟨v1, rfl, o1, b1⟩
    go_wp2_with fail
    refine (HI.out w1).mono ?_
    rintro e w2 ⟨v2, rfl, o2, b2⟩
    have o1' := o1.below b2
    have n1 : ∀ k, v1.ownBlock = some k → k < w1.heap.size := fun k hk => (o1.lt k hk).2
    have N1 := Lib.hid n1
    clear n1
    go_wp2_with fail
    refine (eqStrs _ _ _ _ _ l o2 o1').mono ?_
    rintro e w3 ⟨rfl, b3⟩
    have o2' := o2.below b3
    have o1'' := o1'.below b3
    clear o1 o2 o1'
    go_wp2_with fail
    refine (markStrs1 _ _ _ l (by omega) o2').mono ?_
    rintro e w4 ⟨rfl, o4, g4⟩
    have r4 : ∀ k, v2.ownBlock = some k → w1.heap.size ≤ k := fun k hk => (o2'.lt k hk).1
    have o1_4 := o1''.kept_row g4 (fun k hk e => by have := r4 k e; have := N1.out k hk; omega)
    have b4 : Below w1.heap.size w3 w4 := (Below.refl _ _).grown g4 (Nat.le_trans b2.size b3.size) r4
    clear r4 g4 o1'' o2'
    go_wp2_with fail
    refine (heldStrs1 _ _ _ l.length (by omega) o4).mono ?_
    rintro e w5 ⟨rfl, b5⟩
    have o5 := o4.below b5
    have o1_5 := o1_4.below b5
    clear o4 o1_4
    go_wp2_with fail
    refine (HI.out w5).mono ?_
    rintro e w6 ⟨v3, rfl, o6, b6⟩
    have o1_6 := o1_5.below b6
    have o2_6 := o5.below b6
    clear o5 o1_5
    go_wp2_with fail
    refine (eqStrs _ _ _ _ _ l o6 o1_6).mono ?_
    rintro e w7 ⟨rfl, b7⟩
    have o2_7 := o2_6.below b7
    clear o2_6 o1_6 o6
    go_wp2_with fail
    refine (heldStrs1 _ _ _ l.length (by omega) o2_7).mono ?_
    rintro e w8 ⟨rfl, b8⟩
    go_wp2_with fail
    go_ret
    have s1 := b1.size
    have s2 := b2.size
    have s3 := b3.size
    have s4 := b4.size
    have s5 := b5.size
    have s6 := b6.size
    have s7 := b7.size
    exact ⟨rfl, b1.trans ((b2.mono s1).trans ((b3.mono (by omega)).trans ((b4.mono s1).trans ((b5.mono (by omega)).trans ((b6.mono (by omega)).trans ((b7.mono (by omega)).trans (b8.mono (by omega))))))))⟩

/-! ### THE ROW's STEP: WRITTEN OUT: LEAVE IT -/
set_option maxRecDepth 100000 in
theorem lifted (os : Os) (started : os.Started) (H : Type) (enc : TypeId × Value → H) :
    ReturnsInHanded {} Try.checked os 6 .any (Rows.fnExactSplitFieldsSpec.pre6 enc Try.prog Try.f6 Rows.fnExactSplitFieldsRow.domain false) (Rows.fnExactSplitFieldsSpec.post enc Try.prog Try.f6 false true false false) := by
  refine returnsInHanded_of_change (C := Try.checked) own started (by kernel_rfl) Try.func6
    (ChangeSpec.witness6 (enc := enc) (C := Try.checked) false ⟨#[], #[.string ByteArray.empty], []⟩ 8 (by kernel_rfl) (by kernel_rfl) (by kernel_rfl) (by kernel_rfl)) ?_
  intro W base args ds gs before hval0 hW hcnd _
  have hval : ∀ (j : Nat) t v, Try.f6.params[j]? = some t → args[j]? = some v → Value.okWide Try.prog W .any base t v := hval0
  have hW' := hW
  obtain ⟨p, q, hA0, hV, rfl, hfz, hnd⟩ := hW
  have hA : DataW.TrodAll enc Try.prog W 0 (fun _ => true) true Try.f6.params.toList args.toList ds p := hA0
  rw [Try.params6] at hA hval
  obtain ⟨v0, vs0, d0, ds0, p0, q0, hargs, rfl, rfl, h0, r0⟩ := trodAll_cons hA
  obtain ⟨rfl, rfl, rfl⟩ := trodAll_nil r0
  obtain rfl : args = #[v0] := by cases args; simp_all
  obtain ⟨rfl, rfl⟩ := trodVars_none hV
  obtain ⟨a0, rfl, rfl, rfl, w0⟩ := open_string Try.underlying9 (hval 0 9 v0 rfl rfl) h0
  clear hA0 hval0
  refine (walk a0 w0 W).mono fun e W' ⟨he, bel⟩ => ?_
  subst he
  exact ⟨_, rfl, _, _, _, [], _, [], hW', (trodAll_cons_mk (shut_bool Try.underlying4 _) trodAll_mk0), (trodAll_cons_mk (shut_string Try.underlying9 w0) trodAll_mk0), rfl, bel.frame _, fun h => by cases h⟩

theorem over : Rows.fnExactSplitFieldsRow.holds Try.pinned (OpenSpec.ofChange Rows.fnExactSplitFieldsSpec) :=
  OpenClaim.holds_of_wide 6 Try.f6 rfl rfl rfl rfl rfl rfl rfl ⟨rfl, rfl, rfl, rfl, rfl⟩ rfl rfl rfl rfl rfl (by kernel_rfl) Try.func6 (by kernel_rfl)
    (of_decide_eq_true (by kernel_rfl)) (by unfold Func.isWrapper; first | (rw [if_pos (by decide +kernel)]; kernel_rfl) | (rw [if_neg (by decide +kernel)]; exact ⟨rfl, rfl⟩))
    (fun os started H enc _ => lifted os started H enc)

/-- ████ THE STATEMENT ████ -/
theorem proved : Rows.FnExactSplitFieldsSaid :=
  over
#print axioms proved
end Go.Proofs.Ytibdmidinopppaa.fnExactSplitFields
