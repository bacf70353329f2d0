/- For every three rows, FnExactDetOfRows answers true: the program's DetOfRows gives what the model's gives. No condition. -/
import Derived.Test.YtdaiffaedejnbaaThreeJ
import Derived.Test.YtdaiffaedejnbaaThreeS
import Derived.Test.YtdaiffaedejnbaaCdL
import Derived.Test.YtdaiffaedejnbaaRows
import Derived.WalkKit
import Derived.ProofKit
import Derived.OpenShut
import Derived.ShutString
import Derived.ChangeOld
import Derived.Below
namespace Go.Proofs.Ytdaiffaedejnbaa.fnExactDetOfRows
set_option maxRecDepth 100000
open Go.ChangeShapes Go.WideShapes Go.ChangeAt Go.RowKit
open Go.ChangeMaps (open_string shut_string)
set_option linter.unusedVariables false

theorem own : ownKnob Try.prog.godebug = none := by kernel_rfl
theorem laidOut : laidOutB Try.prog = true := by kernel_rfl

/-! ### THE WALK: the Go text returns true, and writes nothing that was there. -/
set_option maxRecDepth 100000 in
set_option maxHeartbeats 2000000 in
theorem walk (jx0 jy0 jz0 ju0 : Int) (jx1 jy1 jz1 ju1 : Int) (jx2 jy2 jz2 ju2 : Int) (w : World) (g0 : I64 jx0 ∧ I64 jy0 ∧ I64 jz0 ∧ I64 ju0) (g1 : I64 jx1 ∧ I64 jy1 ∧ I64 jz1 ∧ I64 ju1) (g2 : I64 jx2 ∧ I64 jy2 ∧ I64 jz2 ∧ I64 ju2) :
    Calls Try.prog 4 #[.agg #[.int .i64 jx0, .int .i64 jy0, .int .i64 jz0, .int .i64 ju0], .agg #[.int .i64 jx1, .int .i64 jy1, .int .i64 jz1, .int .i64 ju1], .agg #[.int .i64 jx2, .int .i64 jy2, .int .i64 jz2, .int .i64 ju2]] w fun e w' => e = .returned (.bool true) ∧ Below w.heap.size w w' := by
  generalize hV : dtV (jx0, jy0, jz0, ju0) (jx1, jy1, jz1, ju1) (jx2, jy2, jz2, ju2) = V
  have HV := Lib.hid hV
  clear hV
  have hne : (V != V) = false := by simp
  go_enter Try.func4, Try.ntmps4
  go_wp2_with fail
  have hn1 := Since.nonempty (((w.alloc (.cells #[.int .i64 jx0, .int .i64 jy0, .int .i64 jz0, .int .i64 ju0] 48)).alloc (.cells #[.int .i64 jx1, .int .i64 jy1, .int .i64 jz1, .int .i64 ju1] 48)).alloc (.cells #[.int .i64 jx2, .int .i64 jy2, .int .i64 jz2, .int .i64 ju2] 48))
  have hS := fun (x : Since (((w.alloc (.cells #[.int .i64 jx0, .int .i64 jy0, .int .i64 jz0, .int .i64 ju0] 48)).alloc (.cells #[.int .i64 jx1, .int .i64 jy1, .int .i64 jz1, .int .i64 ju1] 48)).alloc (.cells #[.int .i64 jx2, .int .i64 jy2, .int .i64 jz2, .int .i64 ju2] 48))) => (bcell x.2).1
  refine wp_region_since (by kernel_rfl) (by kernel_rfl) ?_
  repeat (go_big_quiet_step (first
    | (go_at_call 23; exact Since.call (toRow _ _ _ _ _))
    | (go_at_call 22; exact Since.call (specDetOfRows _ _ _ _ _ _ _ _ _ _ _ _ _))))
  refine wpQuiet_nil ?_
  rintro w1 ⟨⟨_, hb1⟩, rfl⟩
  clear hS hn1
  rw [HV.out]
  have hn1 := Since.nonempty w1
  have hS := fun (x : Since w1) => (bcell (hb1.trans (x.2.mono hb1.size))).1
  go_wp2_with fail
  refine wp_region_since (by kernel_rfl) (by kernel_rfl) ?_
  repeat (go_big_quiet_step (first
    | (go_at_call 23; exact Since.call (toRow _ _ _ _ _))
    | (go_at_call 12; exact Since.call (implDetOfRows _ _ _ _ _ _ _ _ _ _ _ _ _))))
  refine wpQuiet_nil ?_
  rintro w2 ⟨⟨_, hb2⟩, rfl⟩
  clear hS hn1
  rw [HV.out]
  have hb := hb1.trans (hb2.mono hb1.size)
  go_wp2_with fail
  go_ret
  exact ⟨rfl, ((Below.refl _ _) |>.alloc (by simp <;> omega) _ |>.alloc (by simp <;> omega) _ |>.alloc (by simp <;> omega) _).trans (hb.mono (by simp <;> omega))⟩

/-! ### THE ROW's STEP -/
set_option maxRecDepth 100000 in
theorem lifted (os : Os) (started : os.Started) (H : Type) (enc : TypeId × Value → H) :
    ReturnsInHanded {} Try.checked os 4 .any (Rows.fnExactDetOfRowsSpec.pre6 enc Try.prog Try.f4 Rows.fnExactDetOfRowsRow.domain false) (Rows.fnExactDetOfRowsSpec.post enc Try.prog Try.f4 false true false false) := by
  refine returnsInHanded_of_change (C := Try.checked) own started (by kernel_rfl) Try.func4
    (ChangeSpec.witness6 (enc := enc) (C := Try.checked) false ⟨#[], #[.agg #[.int .i64 0, .int .i64 0, .int .i64 0, .int .i64 0], .agg #[.int .i64 0, .int .i64 0, .int .i64 0, .int .i64 0], .agg #[.int .i64 0, .int .i64 0, .int .i64 0, .int .i64 0]], []⟩ 8 (by kernel_rfl) (by kernel_rfl) (by kernel_rfl) (by kernel_rfl)) ?_
  intro W base args ds gs before hval0 hW hcnd _
  have hval : ∀ (j : Nat) t v, Try.f4.params[j]? = some t → args[j]? = some v → Value.okWide Try.prog W .any base t v := hval0
  have hW' := hW
  obtain ⟨p, q, hA0, hV, rfl, hfz, hnd⟩ := hW
  have hA : DataW.TrodAll enc Try.prog W 0 (fun _ => true) true Try.f4.params.toList args.toList ds p := hA0
  rw [Try.params4] at hA hval
  obtain ⟨v0, vs0, d0, ds0, p0, q0, hargs, rfl, rfl, h0, r0⟩ := trodAll_cons hA
  obtain ⟨v1, vs1, d1, ds1, p1, q1, rfl, rfl, rfl, h1, r1⟩ := trodAll_cons r0
  obtain ⟨v2, vs2, d2, ds2, p2, q2, rfl, rfl, rfl, h2, r2⟩ := trodAll_cons r1
  obtain ⟨rfl, rfl, rfl⟩ := trodAll_nil r2
  obtain rfl : args = #[v0, v1, v2] := by cases args; simp_all
  obtain ⟨rfl, rfl⟩ := trodVars_none hV
  have k0 := h0
  have lt0 : ∀ x ∈ p0, x.block < W.heap.size := by obtain ⟨m, hm⟩ := k0; exact DataW.trod_lt m _ _ _ hm
  obtain ⟨jx0, jy0, jz0, ju0, rfl, g0⟩ := open_cd (hval 0 48 v0 rfl rfl) h0
  have k1 := h1
  have lt1 : ∀ x ∈ p1, x.block < W.heap.size := by obtain ⟨m, hm⟩ := k1; exact DataW.trod_lt m _ _ _ hm
  obtain ⟨jx1, jy1, jz1, ju1, rfl, g1⟩ := open_cd (hval 1 48 v1 rfl rfl) h1
  have k2 := h2
  have lt2 : ∀ x ∈ p2, x.block < W.heap.size := by obtain ⟨m, hm⟩ := k2; exact DataW.trod_lt m _ _ _ hm
  obtain ⟨jx2, jy2, jz2, ju2, rfl, g2⟩ := open_cd (hval 2 48 v2 rfl rfl) h2
  clear hA0 hval0
  refine (walk jx0 jy0 jz0 ju0 jx1 jy1 jz1 ju1 jx2 jy2 jz2 ju2 W g0 g1 g2).mono fun e W' ⟨he, bel⟩ => ?_
  subst he
  exact ⟨_, rfl, _, _, _, [], _, [], hW', trodAll_mk1 (shut_bool Try.underlying4 _), (trodAll_cons_mk (Below.trod laidOut (by kernel_rfl) (of_decide_eq_true (by kernel_rfl)) k0 bel lt0) (trodAll_cons_mk (Below.trod laidOut (by kernel_rfl) (of_decide_eq_true (by kernel_rfl)) k1 bel lt1) (trodAll_cons_mk (Below.trod laidOut (by kernel_rfl) (of_decide_eq_true (by kernel_rfl)) k2 bel lt2) trodAll_mk0))), rfl, bel.frame _, fun h => by cases h⟩

theorem over : Rows.fnExactDetOfRowsRow.holds Try.pinned (OpenSpec.ofChange Rows.fnExactDetOfRowsSpec) :=
  OpenClaim.holds_of_wide 4 Try.f4 rfl rfl rfl rfl rfl rfl rfl ⟨rfl, rfl, rfl, rfl, rfl⟩ rfl rfl rfl rfl rfl (by kernel_rfl) Try.func4 (by kernel_rfl)
    (of_decide_eq_true (by kernel_rfl)) (by unfold Func.isWrapper; first | (rw [if_pos (by decide +kernel)]; kernel_rfl) | (rw [if_neg (by decide +kernel)]; exact ⟨rfl, rfl⟩))
    (fun os started H enc _ => lifted os started H enc)

/-- THE STATEMENT. -/
theorem proved : Rows.FnExactDetOfRowsSaid := over
#print axioms proved
end Go.Proofs.Ytdaiffaedejnbaa.fnExactDetOfRows
