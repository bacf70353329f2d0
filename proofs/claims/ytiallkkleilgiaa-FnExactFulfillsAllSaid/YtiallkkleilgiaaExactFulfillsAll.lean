/- For every thrust and every list of rows, FnExactFulfillsAll answers true: the program's FulfillsAll gives what the model's gives, and leaves the rows as they were. No condition. -/
import Derived.Test.YtiallkkleilgiaaCondA
import Derived.Test.YtiallkkleilgiaaRows
import Derived.WalkKit
import Derived.ProofKit
import Derived.OpenShut
import Derived.ShutString
import Derived.ChangeOld
import Derived.Below
namespace Go.Proofs.Ytiallkkleilgiaa.fnExactFulfillsAll
set_option maxRecDepth 100000
open Go.ChangeShapes Go.WideShapes Go.ChangeAt Go.RowKit
open Go.ChangeMaps (open_string shut_string)
set_option linter.unusedVariables false

theorem own : ownKnob Try.prog.godebug = none := by kernel_rfl
theorem laidOut : laidOutB Try.prog = true := by kernel_rfl

/-! ### THE WALK: the Go text returns true, and writes nothing that was there. -/
theorem walk (jx0 jy0 jz0 ju0 : Int) (p1 : Option Addr) (n1 cap1 : Nat) (c1 : List Cd) (w : World) (g0 : I64 jx0 ∧ I64 jy0 ∧ I64 jz0 ∧ I64 ju0) (g1 : InCds w p1 n1 cap1 c1) :
    Calls Try.prog 6 #[.agg #[.int .i64 jx0, .int .i64 jy0, .int .i64 jz0, .int .i64 ju0], .slice p1 n1 cap1] w fun e w' => e = .returned (.bool true) ∧ Below w.heap.size w w' := by
  have hm : n1 ≤ maxLen := Nat.le_trans g1.2.1 g1.2.2.1
  have G1 := Lib.hid g1
  clear g0 g1
  generalize hV : fulAll jx0 jy0 jz0 ju0 c1 = V
  have HV := Lib.hid hV
  have hne : (V != V) = false := by simp
  clear hV
  have HB0 := Lib.hid ((Below.refl w.heap.size w).alloc (Nat.le_refl _) (.cells #[.int .i64 jx0, .int .i64 jy0, .int .i64 jz0, .int .i64 ju0] 29))
  have HT0 : RowKit.Hid (TBox (w.alloc (.cells #[.int .i64 jx0, .int .i64 jy0, .int .i64 jz0, .int .i64 ju0] 29)) w.heap.size jx0 jy0 jz0 ju0) := Lib.hid (by refine ⟨?_, ?_, ?_, ?_⟩ <;> go_simp)
  by_cases hs : n1 ≤ 1048576
  · have HY := Lib.hid (show szCd n1 1048576 = 1048576 - (n1 : Int) by unfold szCd; rw [if_pos (by omega)])
    go_enter Try.func6, Try.ntmps6
    go_wp2_with fail
    refine (szRowS _ _ _ _ _ hm ⟨by omega, by omega⟩).mono ?_
    rintro e wq ⟨rfl, rfl⟩
    rw [HY.out]
    go_wp2_with fail
    refine (toThrust _ _ _ _ _).mono ?_
    rintro e w1 ⟨rfl, hb1⟩
    have HB1 := Lib.hid (HB0.out.trans (hb1.mono HB0.out.size))
    have HT1 := Lib.hid (HT0.out.below hb1)
    clear hb1 HB0 HT0 
    go_wp2_with fail
    refine (toRowS _ _ _ c1 _ (G1.out.below HB1.out) hs).mono ?_
    rintro e w2 ⟨ga, -, rfl, ra, hb2⟩
    have RA2 := Lib.hid ra
    clear ra
    have HB2 := Lib.hid (HB1.out.trans (hb2.mono HB1.out.size))
    have HT2 := Lib.hid (HT1.out.below hb2)
    clear hb2 HB1 HT1 
    go_wp2_with fail
    refine (specFulfillsAll _ _ _ _ _ _ _ _ _ c1 RA2.out).mono ?_
    rintro e w3 ⟨rfl, hb3⟩
    rw [HV.out]
    clear RA2
    have HB3 := Lib.hid (HB2.out.trans (hb3.mono HB2.out.size))
    have HT3 := Lib.hid (HT2.out.below hb3)
    clear hb3 HB2 HT2 
    go_wp2_with fail
    refine (toRowS _ _ _ c1 _ (G1.out.below HB3.out) hs).mono ?_
    rintro e w4 ⟨gx, -, rfl, rx, hb4⟩
    have RX4 := Lib.hid rx
    clear rx
    have HB4 := Lib.hid (HB3.out.trans (hb4.mono HB3.out.size))
    have HT4 := Lib.hid (HT3.out.below hb4)
    clear hb4 HB3 HT3 
    obtain ⟨t0, t1, t2, t3⟩ := id HT4.out
    go_wp2_with fail
    refine (toThrust _ _ _ _ _).mono ?_
    rintro e w5 ⟨rfl, hb5⟩
    clear t0 t1 t2 t3
    have HB5 := Lib.hid (HB4.out.trans (hb5.mono HB4.out.size))
    have HT5 := Lib.hid (HT4.out.below hb5)
    have RX5 := Lib.hid (RX4.out.below hb5)
    clear hb5 HB4 HT4 RX4
    go_wp2_with fail
    refine (implFulfillsAll _ _ _ _ _ _ _ _ _ c1 RX5.out).mono ?_
    rintro e w6 ⟨rfl, hb6⟩
    rw [HV.out]
    have HB6 := Lib.hid (HB5.out.trans (hb6.mono HB5.out.size))
    have HT6 := Lib.hid (HT5.out.below hb6)
    have RX6 := Lib.hid (RX5.out.below hb6)
    clear hb6 HB5 HT5 RX5
    go_wp2_with fail
    refine (toRowS _ _ _ c1 _ (G1.out.below HB6.out) hs).mono ?_
    rintro e w7 ⟨gy, -, rfl, ry, hb7⟩
    have RY := Lib.hid ry
    clear ry
    have HB7 := Lib.hid (HB6.out.trans (hb7.mono HB6.out.size))
    have HT7 := Lib.hid (HT6.out.below hb7)
    have RX7 := Lib.hid (RX6.out.below hb7)
    clear hb7 HB6 HT6 RX6
    go_wp2_with fail
    refine (eqRowS_same _ _ _ _ _ _ _ _ c1 RX7.out RY.out).mono ?_
    rintro e w8 ⟨rfl, hb8⟩
    have HB8 := Lib.hid (HB7.out.trans (hb8.mono HB7.out.size))
    clear hb8
    go_wp2_with fail
    go_ret
    exact ⟨rfl, HB8.out⟩
  · have HY := Lib.hid (show szCd n1 1048576 = -1 by unfold szCd; rw [if_neg (by omega)])
    go_enter Try.func6, Try.ntmps6
    go_wp2_with fail
    refine (szRowS _ _ _ _ _ hm ⟨by omega, by omega⟩).mono ?_
    rintro e wq ⟨rfl, rfl⟩
    rw [HY.out]
    go_wp2_with fail
    go_ret
    exact ⟨rfl, HB0.out⟩

/-! ### THE ROW's STEP -/
set_option maxRecDepth 100000 in
theorem lifted (os : Os) (started : os.Started) (H : Type) (enc : TypeId × Value → H) :
    ReturnsInHanded {} Try.checked os 6 .any (Rows.fnExactFulfillsAllSpec.pre6 enc Try.prog Try.f6 Rows.fnExactFulfillsAllRow.domain false) (Rows.fnExactFulfillsAllSpec.post enc Try.prog Try.f6 false true false false) := by
  refine returnsInHanded_of_change (C := Try.checked) own started (by kernel_rfl) Try.func6
    (ChangeSpec.witness6 (enc := enc) (C := Try.checked) false ⟨#[], #[.agg #[.int .i64 0, .int .i64 0, .int .i64 0, .int .i64 0], .slice none 0 0], []⟩ 8 (by kernel_rfl) (by kernel_rfl) (by kernel_rfl) (by kernel_rfl)) ?_
  intro W base args ds gs before hval0 hW hcnd _
  have hval : ∀ (j : Nat) t v, Try.f6.params[j]? = some t → args[j]? = some v → Value.okWide Try.prog W .any base t v := hval0
  have hW' := hW
  obtain ⟨p, q, hA0, hV, rfl, hfz, hnd⟩ := hW
  have hA : DataW.TrodAll enc Try.prog W 0 (fun _ => true) true Try.f6.params.toList args.toList ds p := hA0
  rw [Try.params6] at hA hval
  obtain ⟨v0, vs0, d0, ds0, p0, q0, hargs, rfl, rfl, h0, r0⟩ := trodAll_cons hA
  obtain ⟨v1, vs1, d1, ds1, p1, q1, rfl, rfl, rfl, h1, r1⟩ := trodAll_cons r0
  obtain ⟨rfl, rfl, rfl⟩ := trodAll_nil r1
  obtain rfl : args = #[v0, v1] := by cases args; simp_all
  obtain ⟨rfl, rfl⟩ := trodVars_none hV
  have k0 := h0
  have lt0 : ∀ x ∈ p0, x.block < W.heap.size := by obtain ⟨m, hm⟩ := k0; exact DataW.trod_lt m _ _ _ hm
  obtain ⟨jx0, jy0, jz0, ju0, rfl, g0⟩ := open_thrust (hval 0 29 v0 rfl rfl) h0
  have k1 := h1
  have lt1 : ∀ x ∈ p1, x.block < W.heap.size := by obtain ⟨m, hm⟩ := k1; exact DataW.trod_lt m _ _ _ hm
  obtain ⟨p1, n1, cap1, c1, rfl, g1⟩ := open_cds (hval 1 55 v1 rfl rfl) h1
  clear hA0 hval0
  refine (walk jx0 jy0 jz0 ju0 p1 n1 cap1 c1 W g0 g1).mono fun e W' ⟨he, bel⟩ => ?_
  subst he
  exact ⟨_, rfl, _, _, _, [], _, [], hW', trodAll_mk1 (shut_bool Try.underlying4 _), (trodAll_cons_mk (Below.trod laidOut (by kernel_rfl) (of_decide_eq_true (by kernel_rfl)) k0 bel lt0) (trodAll_cons_mk (Below.trod laidOut (by kernel_rfl) (of_decide_eq_true (by kernel_rfl)) k1 bel lt1) trodAll_mk0)), rfl, bel.frame _, fun h => by cases h⟩

theorem over : Rows.fnExactFulfillsAllRow.holds Try.pinned (OpenSpec.ofChange Rows.fnExactFulfillsAllSpec) :=
  OpenClaim.holds_of_wide 6 Try.f6 rfl rfl rfl rfl rfl rfl rfl ⟨rfl, rfl, rfl, rfl, rfl⟩ rfl rfl rfl rfl rfl (by kernel_rfl) Try.func6 (by kernel_rfl)
    (of_decide_eq_true (by kernel_rfl)) (by unfold Func.isWrapper; first | (rw [if_pos (by decide +kernel)]; kernel_rfl) | (rw [if_neg (by decide +kernel)]; exact ⟨rfl, rfl⟩))
    (fun os started H enc _ => lifted os started H enc)

/-- THE STATEMENT. -/
theorem proved : Rows.FnExactFulfillsAllSaid := over
#print axioms proved
end Go.Proofs.Ytiallkkleilgiaa.fnExactFulfillsAll
