/- The exact law of ScaleLoads: the program's loads are the model's; the argument is as before; the result is memory of its own. -/
import Derived.Test.YthkabimaebglhaaLoadG
import Derived.Test.YthkabimaebglhaaLoadK
import Derived.Test.YthkabimaebglhaaRows
import Derived.WalkKit
import Derived.ProofKit
import Derived.OpenShut
import Derived.ShutString
import Derived.ChangeOld
import Derived.Below
namespace Go.Proofs.Ythkabimaebglhaa.fnExactScaleLoads
set_option maxRecDepth 100000
open Go.ChangeShapes Go.WideShapes Go.ChangeAt Go.RowKit
open Go.ChangeMaps (open_string shut_string)
set_option linter.unusedVariables false

theorem own : ownKnob Try.prog.godebug = none := by kernel_rfl
theorem laidOut : laidOutB Try.prog = true := by kernel_rfl

theorem own_mark {w w' : World} {B n size : Nat} {e : TypeId} {v : Value} {xs : List Value} {row : Option Nat} (h : w.ownsRow B e size v n xs) (hg : w.grownBy w' row) (hne : ∀ k, v.ownBlock = some k → some k ≠ row) : w'.ownsRow B e size v n xs :=
  World.ownsRow.kept h hg (by
    cases hv : v.ownBlock with
    | none => exact .inl rfl
    | some k => exact .inr (hne k hv))
theorem sclRow_length (n : Int) (ls : List Ld) : (sclRow n ls).length ≤ ls.length := by
  unfold sclRow; split <;> simp

/-! ### THE WALK: the Go text returns true, and writes nothing that was there. -/
set_option maxRecDepth 100000 in
set_option maxHeartbeats 2000000 in
theorem walk (p0 : Option Addr) (n0 cap0 : Nat) (c0 : List Ld) (a1 : Int) (w : World) (g0 : InLds w p0 n0 cap0 c0) (g1 : (Lit.int .i64 a1).wf = true) :
    Calls Try.prog 8 #[.slice p0 n0 cap0, .int .i64 a1] w fun e w' => e = .returned (.bool true) ∧ Below w.heap.size w w' := by
  have hm : n0 ≤ maxLen := Nat.le_trans g0.2.1 g0.2.2.1
  have hcl := g0.1
  have G0 := Lib.hid g0
  have HCL := Lib.hid hcl
  clear g0
  have hvl := sclRow_length a1 c0
  rw [hcl] at hvl
  generalize hV : sclRow a1 c0 = V at *
  have HV := Lib.hid hV
  generalize hO : sclV a1 c0 = O at *
  have HO := Lib.hid hO
  have hneO : (O != O) = false := by simp
  clear hV hO hcl
  by_cases hs : n0 ≤ 1048576
  · have hy : szL n0 1048576 = 1048576 - (n0 : Int) := by unfold szL; rw [if_pos (by omega)]
    have HY := Lib.hid hy
    have hvl6 : V.length ≤ 1048576 := by omega
    clear hy
    go_enter Try.func8, Try.ntmps8
    go_wp2_with fail
    refine (szLoadS _ _ _ _ _ hm ⟨by omega, by omega⟩).mono ?_
    rintro e wq ⟨rfl, rfl⟩
    rw [HY.out]
    go_wp2_with fail
    refine (toLoadS _ _ _ c0 _ G0.out hs).mono ?_
    rintro e w1 ⟨ga, -, rfl, ra, hb1⟩
    have HB1 := Lib.hid hb1
    have RA := Lib.hid ra
    clear hb1 ra
    go_wp2_with fail
    refine (specScaleLoads _ _ _ _ _ c0 a1 RA.out hs).mono ?_
    rintro e w2 ⟨uw, rfl, rw2, hb2⟩
    rw [HV.out] at rw2
    rw [HO.out]
    obtain ⟨wa, wc, hwv, -⟩ := lrow_slice rw2
    subst hwv
    have hwlt := fun k hk => (World.ownsRow.lt rw2 k hk).2
    have RW2 : RowKit.Hid (LRow w2 _ (.slice wa V.length wc) V) := Lib.hid rw2
    have HB2 := Lib.hid (HB1.out.trans (hb2.mono HB1.out.size))
    clear hb2 rw2 RA HB1
    go_wp2_with fail
    refine (toLoadS _ _ _ c0 _ (G0.out.below HB2.out) hs).mono ?_
    rintro e w3 ⟨gx, hgx, rfl, rx, hb3⟩
    have hgx3 : gx < w3.heap.size := (World.ownsRow.lt rx.1 gx rfl).2
    have RX3 := Lib.hid rx
    have RW3 : RowKit.Hid (LRow w3 _ (.slice wa V.length wc) V) := Lib.hid (RW2.out.below hb3)
    have HB3 := Lib.hid (HB2.out.trans (hb3.mono HB2.out.size))
    have hwx : w.heap.size ≤ gx := by have := HB2.out.size; omega
    clear hb3 rx RW2 HB2
    go_wp2_with fail
    refine (implScaleLoads _ _ _ _ _ c0 a1 RX3.out).mono ?_
    rintro e w4 ⟨ug, rfl, rg, hb4⟩
    rw [HV.out] at rg
    rw [HO.out]
    obtain ⟨ya, yc, hyv, -⟩ := lrow_slice rg
    subst hyv
    have hyl := fun k hk => (World.ownsRow.lt rg k hk)
    have hwy : w.heap.size ≤ w3.heap.size := HB3.out.size
    have D1 : ∀ k, (Value.slice wa V.length wc).ownBlock = some k → some k ≠ (Value.slice (some ⟨gx, 0, none⟩) n0 n0).ownBlock := fun k hk he => by have := hwlt k hk; simp [Value.ownBlock] at he; omega
    have D2 : ∀ k, (Value.slice ya V.length yc).ownBlock = some k → some k ≠ (Value.slice (some ⟨gx, 0, none⟩) n0 n0).ownBlock := fun k hk he => by have := hyl k hk; simp [Value.ownBlock] at he; omega
    have D3 : ∀ k, (Value.slice wa V.length wc).ownBlock = some k → some k ≠ (Value.slice ya V.length yc).ownBlock := fun k hk he => by have := hwlt k hk; have := hyl k he.symm; omega
    have D4 : ∀ k, (Value.slice ya V.length yc).ownBlock = some k → w.heap.size ≤ k := fun k hk => by have := hyl k hk; omega
    have DD1 := Lib.hid D1
    have DD2 := Lib.hid D2
    have DD3 := Lib.hid D3
    have DD4 := Lib.hid D4
    have RX4 := Lib.hid (RX3.out.below hb4)
    have RW4 : RowKit.Hid (LRow w4 _ (.slice wa V.length wc) V) := Lib.hid (RW3.out.below hb4)
    have RG4 : RowKit.Hid (LRow w4 _ (.slice ya V.length yc) V) := Lib.hid rg
    have HB4 := Lib.hid (HB3.out.trans (hb4.mono HB3.out.size))
    clear hb4 rg RX3 RW3 HB3 D1 D2 D3 D4 hyl hwlt
    go_wp2_with fail
    refine (eqLoadS_same _ _ _ _ _ _ _ _ V ⟨RG4.out, rfl⟩ ⟨RW4.out, rfl⟩).mono ?_
    rintro e w5 ⟨rfl, hb5⟩
    have RX5 := Lib.hid (RX4.out.below hb5)
    have RW5 : RowKit.Hid (LRow w5 _ (.slice wa V.length wc) V) := Lib.hid (RW4.out.below hb5)
    have RG5 : RowKit.Hid (LRow w5 _ (.slice ya V.length yc) V) := Lib.hid (RG4.out.below hb5)
    have HB5 := Lib.hid (HB4.out.trans (hb5.mono HB4.out.size))
    clear hb5 RX4 RW4 RG4 HB4
    go_wp2_with fail
    refine (toLoadS _ _ _ c0 _ (G0.out.below HB5.out) hs).mono ?_
    rintro e w6 ⟨gy, -, rfl, ry, hb6⟩
    have RY6 := Lib.hid ry
    have RX6 := Lib.hid (RX5.out.below hb6)
    have RW6 : RowKit.Hid (LRow w6 _ (.slice wa V.length wc) V) := Lib.hid (RW5.out.below hb6)
    have RG6 : RowKit.Hid (LRow w6 _ (.slice ya V.length yc) V) := Lib.hid (RG5.out.below hb6)
    have HB6 := Lib.hid (HB5.out.trans (hb6.mono HB5.out.size))
    clear hb6 ry RX5 RW5 RG5 HB5
    go_wp2_with fail
    refine (eqLoadS_same _ _ _ _ _ _ _ _ c0 RX6.out RY6.out).mono ?_
    rintro e w7 ⟨rfl, hb7⟩
    have RX7 := Lib.hid (RX6.out.below hb7)
    have RW7 : RowKit.Hid (LRow w7 _ (.slice wa V.length wc) V) := Lib.hid (RW6.out.below hb7)
    have RG7 : RowKit.Hid (LRow w7 _ (.slice ya V.length yc) V) := Lib.hid (RG6.out.below hb7)
    have HB7 := Lib.hid (HB6.out.trans (hb7.mono HB6.out.size))
    clear hb7 RX6 RW6 RG6 HB6 RY6
    go_wp2_with fail
    refine (markLoads _ _ _ c0 RX7.out.1 (by have := HCL.out; omega)).mono ?_
    rintro e w8 ⟨rfl, -, z1, z2, z3, z4, z5⟩
    have hg8 : w7.grownBy w8 (Value.slice (some ⟨gx, 0, none⟩) n0 n0).ownBlock := ⟨z2, z3, z4, z1, z5⟩
    have RW8 : RowKit.Hid (LRow w8 _ (.slice wa V.length wc) V) := Lib.hid (own_mark RW7.out hg8 DD1.out)
    have RG8 : RowKit.Hid (LRow w8 _ (.slice ya V.length yc) V) := Lib.hid (own_mark RG7.out hg8 DD2.out)
    have HB8 := Lib.hid (HB7.out.grown hg8 HB7.out.size (fun k hk => by simp [Value.ownBlock] at hk; omega))
    clear z1 z2 z3 z4 z5 hg8 RX7 RW7 RG7 HB7
    rw [HCL.out]
    go_wp2_with fail
    refine (eqLoadS_same _ _ _ _ _ _ _ _ V ⟨RG8.out, rfl⟩ ⟨RW8.out, rfl⟩).mono ?_
    rintro e w9 ⟨rfl, hb9⟩
    have RW9 : RowKit.Hid (LRow w9 _ (.slice wa V.length wc) V) := Lib.hid (RW8.out.below hb9)
    have RG9 : RowKit.Hid (LRow w9 _ (.slice ya V.length yc) V) := Lib.hid (RG8.out.below hb9)
    have HB9 := Lib.hid (HB8.out.trans (hb9.mono HB8.out.size))
    clear hb9 RW8 RG8 HB8
    go_wp2_with fail
    refine (markLoads _ _ _ V RG9.out hvl6).mono ?_
    rintro e w10 ⟨rfl, rgm, z1, z2, z3, z4, z5⟩
    have hg10 : w9.grownBy w10 (Value.slice ya V.length yc).ownBlock := ⟨z2, z3, z4, z1, z5⟩
    have RW10 : RowKit.Hid (LRow w10 _ (.slice wa V.length wc) V) := Lib.hid (own_mark RW9.out hg10 DD3.out)
    have RGM := Lib.hid rgm
    have HB10 := Lib.hid (HB9.out.grown hg10 HB9.out.size DD4.out)
    clear z1 z2 z3 z4 z5 hg10 RW9 RG9 HB9 rgm
    go_wp2_with fail
    refine (heldLoads _ _ _ _ RGM.out hvl6).mono ?_
    rintro e wq ⟨rfl, rfl⟩
    go_wp2_with fail
    refine (toLoadS _ _ _ c0 _ (G0.out.below HB10.out) hs).mono ?_
    rintro e w11 ⟨gz, -, rfl, rz, hb11⟩
    have RZ := Lib.hid rz
    have RW11 : RowKit.Hid (LRow w11 _ (.slice wa V.length wc) V) := Lib.hid (RW10.out.below hb11)
    have RG11 := Lib.hid (RGM.out.below hb11)
    have HB11 := Lib.hid (HB10.out.trans (hb11.mono HB10.out.size))
    clear hb11 rz RW10 RGM HB10
    go_wp2_with fail
    refine (implScaleLoads _ _ _ _ _ c0 a1 RZ.out).mono ?_
    rintro e w12 ⟨uh, rfl, rh, hb12⟩
    rw [HV.out] at rh
    rw [HO.out]
    obtain ⟨ha, hc, hhv, -⟩ := lrow_slice rh
    subst hhv
    have RH12 : RowKit.Hid (LRow w12 _ (.slice ha V.length hc) V) := Lib.hid rh
    have RW12 : RowKit.Hid (LRow w12 _ (.slice wa V.length wc) V) := Lib.hid (RW11.out.below hb12)
    have RG12 := Lib.hid (RG11.out.below hb12)
    have HB12 := Lib.hid (HB11.out.trans (hb12.mono HB11.out.size))
    clear hb12 rh RW11 RG11 HB11
    go_wp2_with fail
    refine (eqLoadS_same _ _ _ _ _ _ _ _ V ⟨RH12.out, rfl⟩ ⟨RW12.out, rfl⟩).mono ?_
    rintro e w13 ⟨rfl, hb13⟩
    have RG13 := Lib.hid (RG12.out.below hb13)
    have HB13 := Lib.hid (HB12.out.trans (hb13.mono HB12.out.size))
    clear hb13 RG12 HB12
    go_wp2_with fail
    refine (heldLoads _ _ _ _ RG13.out hvl6).mono ?_
    rintro e wq ⟨rfl, rfl⟩
    go_wp2_with fail
    go_ret
    exact ⟨rfl, HB13.out⟩
  · have hy : szL n0 1048576 = -1 := by unfold szL; rw [if_neg (by omega)]
    have HY := Lib.hid hy
    clear hy
    go_enter Try.func8, Try.ntmps8
    go_wp2_with fail
    refine (szLoadS _ _ _ _ _ hm ⟨by omega, by omega⟩).mono ?_
    rintro e wq ⟨rfl, rfl⟩
    rw [HY.out]
    go_wp2_with fail
    go_ret
    exact ⟨rfl, Below.refl _ _⟩

/-! ### THE ROW's STEP -/
set_option maxRecDepth 100000 in
theorem lifted (os : Os) (started : os.Started) (H : Type) (enc : TypeId × Value → H) :
    ReturnsInHanded {} Try.checked os 8 .any (Rows.fnExactScaleLoadsSpec.pre6 enc Try.prog Try.f8 Rows.fnExactScaleLoadsRow.domain false) (Rows.fnExactScaleLoadsSpec.post enc Try.prog Try.f8 false true false false) := by
  refine returnsInHanded_of_change (C := Try.checked) own started (by kernel_rfl) Try.func8
    (ChangeSpec.witness6 (enc := enc) (C := Try.checked) false ⟨#[], #[.slice none 0 0, .int .i64 0], []⟩ 8 (by kernel_rfl) (by kernel_rfl) (by kernel_rfl) (by kernel_rfl)) ?_
  intro W base args ds gs before hval0 hW hcnd _
  have hval : ∀ (j : Nat) t v, Try.f8.params[j]? = some t → args[j]? = some v → Value.okWide Try.prog W .any base t v := hval0
  have hW' := hW
  obtain ⟨p, q, hA0, hV, rfl, hfz, hnd⟩ := hW
  have hA : DataW.TrodAll enc Try.prog W 0 (fun _ => true) true Try.f8.params.toList args.toList ds p := hA0
  rw [Try.params8] at hA hval
  obtain ⟨v0, vs0, d0, ds0, p0, q0, hargs, rfl, rfl, h0, r0⟩ := trodAll_cons hA
  obtain ⟨v1, vs1, d1, ds1, p1, q1, rfl, rfl, rfl, h1, r1⟩ := trodAll_cons r0
  obtain ⟨rfl, rfl, rfl⟩ := trodAll_nil r1
  obtain rfl : args = #[v0, v1] := by cases args; simp_all
  obtain ⟨rfl, rfl⟩ := trodVars_none hV
  have k0 := h0
  have lt0 : ∀ x ∈ p0, x.block < W.heap.size := by obtain ⟨m, hm⟩ := k0; exact DataW.trod_lt m _ _ _ hm
  obtain ⟨p0, n0, cap0, c0, rfl, g0⟩ := open_loads (hval 0 45 v0 rfl rfl) h0
  have k1 := h1
  have lt1 : ∀ x ∈ p1, x.block < W.heap.size := by obtain ⟨m, hm⟩ := k1; exact DataW.trod_lt m _ _ _ hm
  obtain ⟨a1, rfl, rfl, rfl, g1⟩ := open_int Try.underlying3 (hval 1 3 v1 rfl rfl) h1
  clear hA0 hval0
  refine (walk p0 n0 cap0 c0 a1 W g0 g1).mono fun e W' ⟨he, bel⟩ => ?_
  subst he
  exact ⟨_, rfl, _, _, _, [], _, [], hW', trodAll_mk1 (shut_bool Try.underlying4 _), (trodAll_cons_mk (Below.trod laidOut (by kernel_rfl) (of_decide_eq_true (by kernel_rfl)) k0 bel lt0) (trodAll_cons_mk (Below.trod laidOut (by kernel_rfl) (of_decide_eq_true (by kernel_rfl)) k1 bel lt1) trodAll_mk0)), rfl, bel.frame _, fun h => by cases h⟩

theorem over : Rows.fnExactScaleLoadsRow.holds Try.pinned (OpenSpec.ofChange Rows.fnExactScaleLoadsSpec) :=
  OpenClaim.holds_of_wide 8 Try.f8 rfl rfl rfl rfl rfl rfl rfl ⟨rfl, rfl, rfl, rfl, rfl⟩ rfl rfl rfl rfl rfl (by kernel_rfl) Try.func8 (by kernel_rfl)
    (of_decide_eq_true (by kernel_rfl)) (by unfold Func.isWrapper; first | (rw [if_pos (by decide +kernel)]; kernel_rfl) | (rw [if_neg (by decide +kernel)]; exact ⟨rfl, rfl⟩))
    (fun os started H enc _ => lifted os started H enc)

/-- THE STATEMENT. -/
theorem proved : Rows.FnExactScaleLoadsSaid := over
#print axioms proved
end Go.Proofs.Ythkabimaebglhaa.fnExactScaleLoads
