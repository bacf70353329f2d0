/- The exact law of StoneOf: the program's answer is the model's; the arguments are as before; the result shares no memory with them. -/
import Derived.Test.YtggkodhfhhjihaaArchL
import Derived.Test.YtggkodhfhhjihaaArchK
import Derived.Test.YtggkodhfhhjihaaStoneK
import Derived.Test.YtggkodhfhhjihaaArchO
import Derived.Test.YtggkodhfhhjihaaRows
import Derived.WalkKit
import Derived.ProofKit
import Derived.OpenShut
import Derived.ShutString
import Derived.ChangeOld
import Derived.Below
namespace Go.Proofs.Ytggkodhfhhjihaa.fnExactStoneOf
set_option maxRecDepth 100000
open Go.ChangeShapes Go.WideShapes Go.ChangeAt Go.RowKit
open Go.ChangeMaps (open_string shut_string)
set_option linter.unusedVariables false

theorem own : ownKnob Try.prog.godebug = none := by kernel_rfl
theorem laidOut : laidOutB Try.prog = true := by kernel_rfl

theorem below_al' {a w : World} (h : Below a.heap.size a w) (o : Obj) : Below a.heap.size a (w.alloc o) := h.alloc h.size o
theorem alloc_below (w : World) (o : Obj) : Below w.heap.size w (w.alloc o) := (Below.refl w.heap.size w).alloc (Nat.le_refl _) o
/-- What is told of a box behind writes to one row. -/
theorem cell_mark {w w' : World} {b o : Nat} {v : Value} {row : Option Nat} (h : w.cell? ⟨b, o, none⟩ = some v) (hg : w.grownBy w' row) (hne : some b ≠ row) : w'.cell? ⟨b, o, none⟩ = some v :=
  (World.grownBy.cell_far hg ⟨b, o, none⟩ (cell_block_lt h) hne).trans h
theorem own_mark {w w' : World} {B n size : Nat} {e : TypeId} {v : Value} {xs : List Value} {row : Option Nat} (h : w.ownsRow B e size v n xs) (hg : w.grownBy w' row) (hne : ∀ k, v.ownBlock = some k → some k ≠ row) : w'.ownsRow B e size v n xs :=
  World.ownsRow.kept h hg (by
    cases hv : v.ownBlock with
    | none => exact .inl rfl
    | some k => exact .inr (hne k hv))

/-! ### THE WALK: the Go text returns true, and writes nothing that was there. -/
set_option maxRecDepth 100000 in
set_option maxHeartbeats 4000000 in
theorem walk (p0 : Option Addr) (n0 cap0 : Nat) (c0 : List Jt) (a1 : Int) (w : World) (g0 : InJts w p0 n0 cap0 c0) (g1 : (Lit.int .i64 a1).wf = true) :
    Calls Try.prog 5 #[.agg #[.slice p0 n0 cap0], .int .i64 a1] w fun e w' => e = .returned (.bool true) ∧ Below w.heap.size w w' := by
  have hm : n0 ≤ maxLen := Nat.le_trans g0.2.1 g0.2.2.1
  have hcl := g0.1
  have G0 := Lib.hid g0
  have HCL := Lib.hid hcl
  clear g0 hcl
  have hml : (soV c0 a1).length ≤ 1048576 := by have := soV_length c0 a1; omega
  generalize hV : soV c0 a1 = V at *
  have HV := Lib.hid hV
  clear hV
  have hb0 := (Below.refl w.heap.size w).alloc (Nat.le_refl _) (.cells #[.slice p0 n0 cap0] 24)
  have HB0 := Lib.hid hb0
  have hs0 : (w.alloc (.cells #[.slice p0 n0 cap0] 24)).cell? ⟨w.heap.size, 0, none⟩ = some (.slice p0 n0 cap0) := by go_simp
  have HS0 := Lib.hid hs0
  clear hb0 hs0
  by_cases hs : n0 ≤ 1048576
  · have hz : szJ n0 = 1048576 - (n0 : Int) := by unfold szJ; rw [if_pos hs]
    have HZ := Lib.hid hz
    clear hz
    go_enter Try.func5, Try.ntmps5
    go_wp2_with fail
    refine (szArch _ _ _ _ hm).mono ?_
    rintro e w1 ⟨rfl, hb1⟩
    rw [HZ.out]
    have HB1 := Lib.hid (HB0.out.trans (hb1.mono (by simp)))
    have s1 := cell_kept HS0.out hb1
    clear hb1
    go_wp2_with fail
    refine (toArch _ _ _ c0 _ (G0.out.below HB1.out) hs).mono ?_
    rintro e w2 ⟨ga, -, rfl, ra, hb2⟩
    have HB2 := Lib.hid (HB1.out.trans (hb2.mono HB1.out.size))
    have RA := Lib.hid ra
    have s2 := cell_kept s1 hb2
    clear hb2 s1 HB1 ra
    go_wp2_with fail
    refine (specStoneOf _ _ _ _ _ c0 a1 RA.out HCL.out hs).mono ?_
    rintro e w3 ⟨uw, rfl, rw3, hb3⟩
    rw [HV.out] at rw3
    obtain ⟨wa, wc, hwv, -⟩ := row_sliceS rw3
    have hb23 := HB2.out.trans (hb3.mono HB2.out.size)
    have s3 := cell_kept s2 hb3
    have l3 := cell_block_lt s3
    dsimp only at l3
    have HB3 := Lib.hid (below_al' hb23 (.cells #[uw] 36))
    have t3 : (w3.alloc (.cells #[uw] 36)).cell? ⟨w.heap.size, 0, none⟩ = some (.slice p0 n0 cap0) := by rw [World.cell?_alloc_lt _ _ _ (by simpa using l3)]; exact s3
    have k3 : (w3.alloc (.cells #[uw] 36)).cell? ⟨w3.heap.size, 0, none⟩ = some uw := by go_simp
    have RW3 := Lib.hid (rw3.below ((Below.refl w3.heap.size w3).alloc (Nat.le_refl _) (.cells #[uw] 36)))
    have hwlt := fun k hk => (World.ownsRow.lt rw3 k hk).2
    clear hb3 s2 HB2 RA hb23 s3 rw3
    subst hwv
    go_wp2_with fail
    refine (toArch _ _ _ c0 _ (G0.out.below HB3.out) hs).mono ?_
    rintro e w4 ⟨gx, hgx, rfl, rx, hb4⟩
    obtain ⟨-, hgx4, -, -⟩ := rx.lt
    have hgx3 : w3.heap.size < gx := by have := hgx; simp at this; omega
    have s4 := cell_kept t3 hb4
    have k4 := cell_kept k3 hb4
    have l4 := cell_block_lt s4
    have l4' := cell_block_lt k4
    dsimp only at l4 l4'
    have RXA := Lib.hid (rx.alloc (.cells #[.slice (some ⟨gx, 0, none⟩) n0 n0] 29))
    have hrx := RXA.out.row
    rw [HCL.out] at hrx
    have RX := Lib.hid hrx
    have RW4 := Lib.hid ((RW3.out.below hb4).below (alloc_below w4 (.cells #[.slice (some ⟨gx, 0, none⟩) n0 n0] 29)))
    have HB4 := Lib.hid (below_al' (HB3.out.trans (hb4.mono HB3.out.size)) (.cells #[.slice (some ⟨gx, 0, none⟩) n0 n0] 29))
    have s5 := cell_kept s4 (alloc_below w4 (.cells #[.slice (some ⟨gx, 0, none⟩) n0 n0] 29))
    have k5 := cell_kept k4 (alloc_below w4 (.cells #[.slice (some ⟨gx, 0, none⟩) n0 n0] 29))
    have x5 : (w4.alloc (.cells #[.slice (some ⟨gx, 0, none⟩) n0 n0] 29)).cell? ⟨w4.heap.size, 0, none⟩ = some (.slice (some ⟨gx, 0, none⟩) n0 n0) := by go_simp
    clear hb4 t3 k3 HB3 RW3 rx s4 k4 hgx hrx
    go_wp2_with fail
    refine (implStoneOf _ _ _ _ _ c0 a1 RXA.out HCL.out).mono ?_
    rintro e w5 ⟨ug, rfl, rg, hb5⟩
    rw [HV.out] at rg
    obtain ⟨ya, yc, hyv, -⟩ := row_sliceS rg
    have hyl := fun k hk => (World.ownsRow.lt rg k hk)
    simp only [World.size_alloc] at hyl
    subst hyv
    have s6 := cell_kept s5 hb5
    have k6 := cell_kept k5 hb5
    have x6 := cell_kept x5 hb5
    have l6 := cell_block_lt x6
    dsimp only at l6
    have HB5 := Lib.hid (below_al' (HB4.out.trans (hb5.mono HB4.out.size)) (.cells #[.slice ya V.length yc] 36))
    have RX5 := Lib.hid ((RX.out.below hb5).below (alloc_below w5 (.cells #[.slice ya V.length yc] 36)))
    have RW5 := Lib.hid ((RW4.out.below hb5).below (alloc_below w5 (.cells #[.slice ya V.length yc] 36)))
    have RG5 := Lib.hid (rg.below (alloc_below w5 (.cells #[.slice ya V.length yc] 36)))
    have s7 := cell_kept s6 (alloc_below w5 (.cells #[.slice ya V.length yc] 36))
    have k7 := cell_kept k6 (alloc_below w5 (.cells #[.slice ya V.length yc] 36))
    have x7 := cell_kept x6 (alloc_below w5 (.cells #[.slice ya V.length yc] 36))
    have y7 : (w5.alloc (.cells #[.slice ya V.length yc] 36)).cell? ⟨w5.heap.size, 0, none⟩ = some (.slice ya V.length yc) := by go_simp
    have D1 : ∀ k, (Value.slice wa V.length wc).ownBlock = some k → k ≠ gx := fun k hk => by have := hwlt k hk; omega
    have D2 : ∀ k, (Value.slice ya V.length yc).ownBlock = some k → k ≠ gx := fun k hk => by have := hyl k hk; omega
    have D3 : ∀ k, (Value.slice wa V.length wc).ownBlock = some k → some k ≠ (Value.slice ya V.length yc).ownBlock := fun k hk he => by have := hwlt k hk; have := hyl k he.symm; omega
    have D4 : ∀ b, b ≤ w4.heap.size → some b ≠ (Value.slice ya V.length yc).ownBlock := fun b hb he => by have := hyl b he.symm; omega
    have D5 : some w5.heap.size ≠ (Value.slice ya V.length yc).ownBlock := fun he => by have := hyl _ he.symm; omega
    have DD1 := Lib.hid D1
    have DD2 := Lib.hid D2
    have DD3 := Lib.hid D3
    have DD4 := Lib.hid D4
    have DD5 := Lib.hid D5
    clear hb5 s5 k5 x5 s6 k6 x6 HB4 RX RXA RW4 rg D1 D2 D3 D4 D5 hyl hwlt
    go_wp2_with fail
    refine (eqStone_same _ _ _ _ _ V RG5.out RW5.out).mono ?_
    rintro e w6 ⟨rfl, hb6⟩
    have s8 := cell_kept s7 hb6
    have k8 := cell_kept k7 hb6
    have x8 := cell_kept x7 hb6
    have y8 := cell_kept y7 hb6
    have HB6 := Lib.hid (HB5.out.trans (hb6.mono HB5.out.size))
    have RX6 := Lib.hid (RX5.out.below hb6)
    have RW6 := Lib.hid (RW5.out.below hb6)
    have RG6 := Lib.hid (RG5.out.below hb6)
    clear hb6 s7 k7 x7 y7 HB5 RX5 RW5 RG5
    go_wp2_with fail
    go_region_held3 (fun w' => w'.cell? ⟨w.heap.size, 0, none⟩ = some (.slice p0 n0 cap0) ∧ w'.cell? ⟨w4.heap.size, 0, none⟩ = some (.slice (some ⟨gx, 0, none⟩) n0 n0))
      (first | go_keep | trivial)
      (first | (go_at_call 11
                refine (toArch _ _ _ c0 _ (G0.out.below (below_drewN HB6.out _)) hs).mono ?_
                rintro e w7 ⟨gy, -, rfl, ry, hb7⟩
                have s9 : w7.cell? ⟨w.heap.size, 0, none⟩ = some (.slice p0 n0 cap0) := cell_after s8 hb7
                have x9 : w7.cell? ⟨w4.heap.size, 0, none⟩ = some (.slice (some ⟨gx, 0, none⟩) n0 n0) := cell_after x8 hb7
                have K9 := Lib.hid (cell_after k8 hb7)
                have Y9 := Lib.hid (cell_after y8 hb7)
                have hry := ry.row
                rw [HCL.out] at hry
                have RY := Lib.hid hry
                have RX7 := Lib.hid (RX6.out.after hb7)
                have RW7 := Lib.hid (RW6.out.after hb7)
                have RG7 := Lib.hid (RG6.out.after hb7)
                have HB7 := Lib.hid (below_after HB6.out hb7)
                clear ry hry hb7)
             | (go_at_call 13
                refine (eqArch_same _ _ _ _ _ c0 RX7.out RY.out).mono ?_
                rintro e w8 ⟨rfl, hb8⟩
                have s10 : w8.cell? ⟨w.heap.size, 0, none⟩ = some (.slice p0 n0 cap0) := cell_kept s9 hb8
                have x10 : w8.cell? ⟨w4.heap.size, 0, none⟩ = some (.slice (some ⟨gx, 0, none⟩) n0 n0) := cell_kept x9 hb8
                have K10 := Lib.hid (cell_kept K9.out hb8)
                have Y10 := Lib.hid (cell_kept Y9.out hb8)
                have RX8 := Lib.hid (RX7.out.below hb8)
                have RW8 := Lib.hid (RW7.out.below hb8)
                have RG8 := Lib.hid (RG7.out.below hb8)
                have HB8 := Lib.hid (HB7.out.trans (hb8.mono HB7.out.size))
                clear hb8))
    have k10 := K10.out
    have y10 := Y10.out
    clear s8 k8 x8 y8 s9 x9
    go_wp2_with fail
    refine (markArch _ _ _ c0 RX8.out (by have := HCL.out; omega)).mono ?_
    rintro e w9 ⟨rfl, -, z1, z2, z3, z4, z5⟩
    have hg9 : w8.grownBy w9 (some gx) := ⟨z2, z3, z4, z1, fun b hb hne => z5 b hb hne⟩
    have s11 := cell_mark s10 hg9 (by simp; omega)
    have k11 := cell_mark k10 hg9 (by simp; omega)
    have y11 := cell_mark y10 hg9 (by simp; omega)
    have RW9 : RowKit.Hid (Row _ _ _ _) := Lib.hid (own_mark RW8.out hg9 (fun k hk => by simpa using DD1.out k hk))
    have RG9 : RowKit.Hid (Row _ _ _ _) := Lib.hid (own_mark RG8.out hg9 (fun k hk => by simpa using DD2.out k hk))
    have HB9 := Lib.hid (HB8.out.grown hg9 HB8.out.size (fun k hk => by simp at hk; omega))
    clear z1 z2 z3 z4 z5 hg9 s10 k10 y10 x10
    rw [HCL.out]
    go_wp2_with fail
    refine (eqStone_same _ _ _ _ _ V RG9.out RW9.out).mono ?_
    rintro e w10 ⟨rfl, hb10⟩
    have s12 := cell_kept s11 hb10
    have k12 := cell_kept k11 hb10
    have y12 := cell_kept y11 hb10
    have HB10 := Lib.hid (HB9.out.trans (hb10.mono HB9.out.size))
    have RW10 := Lib.hid (RW9.out.below hb10)
    have RG10 := Lib.hid (RG9.out.below hb10)
    clear hb10 s11 k11 y11
    go_wp2_with fail
    refine (markStone _ _ _ V RG10.out hml).mono ?_
    rintro e w11 ⟨rfl, rgm, z1, z2, z3, z4, z5⟩
    have hg11 : w10.grownBy w11 (Value.slice ya V.length yc).ownBlock := ⟨z2, z3, z4, z1, z5⟩
    have s13 := cell_mark s12 hg11 (DD4.out _ (by omega))
    have k13 := cell_mark k12 hg11 (DD4.out _ (by omega))
    have y13 := cell_mark y12 hg11 DD5.out
    have RW11 : RowKit.Hid (Row _ _ _ _) := Lib.hid (own_mark RW10.out hg11 DD3.out)
    have RGM := Lib.hid rgm
    have HB11 := Lib.hid (HB10.out.grown hg11 HB10.out.size (fun k hk => Nat.le_of_not_lt fun hlt => DD4.out k (by omega) hk.symm))
    clear z1 z2 z3 z4 z5 hg11 s12 k12 y12 rgm
    go_wp2_with fail
    refine (heldStone _ _ _ _ RGM.out hml).mono ?_
    rintro e w12 ⟨rfl, hb12⟩
    have s14 := cell_kept s13 hb12
    have k14 := cell_kept k13 hb12
    have y14 := cell_kept y13 hb12
    have HB12 := Lib.hid (HB11.out.trans (hb12.mono HB11.out.size))
    have RW12 := Lib.hid (RW11.out.below hb12)
    have RG12 := Lib.hid (RGM.out.below hb12)
    clear hb12 s13 k13 y13
    go_wp2_with fail
    refine (toArch _ _ _ c0 _ (G0.out.below HB12.out) hs).mono ?_
    rintro e w13 ⟨gz, -, rfl, rz, hb13⟩
    have RZ := Lib.hid rz
    have k15 := cell_kept k14 hb13
    have y15 := cell_kept y14 hb13
    have HB13 := Lib.hid (HB12.out.trans (hb13.mono HB12.out.size))
    have RW13 := Lib.hid (RW12.out.below hb13)
    have RG13 := Lib.hid (RG12.out.below hb13)
    clear hb13 s14 k14 y14 rz
    go_wp2_with fail
    refine (implStoneOf _ _ _ _ _ c0 a1 RZ.out HCL.out).mono ?_
    rintro e w14 ⟨uh, rfl, rh, hb14⟩
    rw [HV.out] at rh
    obtain ⟨ha, hc, hhv, -⟩ := row_sliceS rh
    subst hhv
    have k16 := cell_kept (cell_kept k15 hb14) (alloc_below w14 (.cells #[.slice ha V.length hc] 36))
    have y16 := cell_kept (cell_kept y15 hb14) (alloc_below w14 (.cells #[.slice ha V.length hc] 36))
    have HB14 := Lib.hid (below_al' (HB13.out.trans (hb14.mono HB13.out.size)) (.cells #[.slice ha V.length hc] 36))
    have RW14 := Lib.hid ((RW13.out.below hb14).below (alloc_below w14 (.cells #[.slice ha V.length hc] 36)))
    have RG14 := Lib.hid ((RG13.out.below hb14).below (alloc_below w14 (.cells #[.slice ha V.length hc] 36)))
    have RH14 := Lib.hid (rh.below (alloc_below w14 (.cells #[.slice ha V.length hc] 36)))
    clear hb14 k15 y15 rh
    go_wp2_with fail
    refine (eqStone_same _ _ _ _ _ V RH14.out RW14.out).mono ?_
    rintro e w15 ⟨rfl, hb15⟩
    have y17 := cell_kept y16 hb15
    have HB15 := Lib.hid (HB14.out.trans (hb15.mono HB14.out.size))
    have RG15 := Lib.hid (RG14.out.below hb15)
    clear hb15 k16 y16
    go_wp2_with fail
    refine (heldStone _ _ _ _ RG15.out hml).mono ?_
    rintro e w16 ⟨rfl, hb16⟩
    have HB16 := Lib.hid (HB15.out.trans (hb16.mono HB15.out.size))
    clear hb16 y17
    go_wp2_with fail
    go_ret
    exact ⟨rfl, HB16.out⟩
  · have hz : szJ n0 = -1 := by unfold szJ; rw [if_neg hs]
    have HZ := Lib.hid hz
    clear hz
    go_enter Try.func5, Try.ntmps5
    go_wp2_with fail
    refine (szArch _ _ _ _ hm).mono ?_
    rintro e w1 ⟨rfl, hb1⟩
    rw [HZ.out]
    go_wp2_with fail
    go_ret
    exact ⟨rfl, HB0.out.trans (hb1.mono (by simp))⟩

/-! ### THE ROW's STEP -/
set_option maxRecDepth 100000 in
theorem lifted (os : Os) (started : os.Started) (H : Type) (enc : TypeId × Value → H) :
    ReturnsInHanded {} Try.checked os 5 .any (Rows.fnExactStoneOfSpec.pre6 enc Try.prog Try.f5 Rows.fnExactStoneOfRow.domain false) (Rows.fnExactStoneOfSpec.post enc Try.prog Try.f5 false true false false) := by
  refine returnsInHanded_of_change (C := Try.checked) own started (by kernel_rfl) Try.func5
    (ChangeSpec.witness6 (enc := enc) (C := Try.checked) false ⟨#[], #[.agg #[.slice none 0 0], .int .i64 0], []⟩ 8 (by kernel_rfl) (by kernel_rfl) (by kernel_rfl) (by kernel_rfl)) ?_
  intro W base args ds gs before hval0 hW hcnd _
  have hval : ∀ (j : Nat) t v, Try.f5.params[j]? = some t → args[j]? = some v → Value.okWide Try.prog W .any base t v := hval0
  have hW' := hW
  obtain ⟨p, q, hA0, hV, rfl, hfz, hnd⟩ := hW
  have hA : DataW.TrodAll enc Try.prog W 0 (fun _ => true) true Try.f5.params.toList args.toList ds p := hA0
  rw [Try.params5] at hA hval
  obtain ⟨v0, vs0, d0, ds0, p0, q0, hargs, rfl, rfl, h0, r0⟩ := trodAll_cons hA
  obtain ⟨v1, vs1, d1, ds1, p1, q1, rfl, rfl, rfl, h1, r1⟩ := trodAll_cons r0
  obtain ⟨rfl, rfl, rfl⟩ := trodAll_nil r1
  obtain rfl : args = #[v0, v1] := by cases args; simp_all
  obtain ⟨rfl, rfl⟩ := trodVars_none hV
  have k0 := h0
  have lt0 : ∀ x ∈ p0, x.block < W.heap.size := by obtain ⟨m, hm⟩ := k0; exact DataW.trod_lt m _ _ _ hm
  obtain ⟨p0, n0, cap0, c0, rfl, g0⟩ := open_arch (hval 0 24 v0 rfl rfl) h0
  have k1 := h1
  have lt1 : ∀ x ∈ p1, x.block < W.heap.size := by obtain ⟨m, hm⟩ := k1; exact DataW.trod_lt m _ _ _ hm
  obtain ⟨a1, rfl, rfl, rfl, g1⟩ := open_int Try.underlying3 (hval 1 3 v1 rfl rfl) h1
  clear hA0 hval0
  refine (walk p0 n0 cap0 c0 a1 W g0 g1).mono fun e W' ⟨he, bel⟩ => ?_
  subst he
  exact ⟨_, rfl, _, _, _, [], _, [], hW', trodAll_mk1 (shut_bool Try.underlying4 _), (trodAll_cons_mk (Below.trod laidOut (by kernel_rfl) (of_decide_eq_true (by kernel_rfl)) k0 bel lt0) (trodAll_cons_mk (Below.trod laidOut (by kernel_rfl) (of_decide_eq_true (by kernel_rfl)) k1 bel lt1) trodAll_mk0)), rfl, bel.frame _, fun h => by cases h⟩

theorem over : Rows.fnExactStoneOfRow.holds Try.pinned (OpenSpec.ofChange Rows.fnExactStoneOfSpec) :=
  OpenClaim.holds_of_wide 5 Try.f5 rfl rfl rfl rfl rfl rfl rfl ⟨rfl, rfl, rfl, rfl, rfl⟩ rfl rfl rfl rfl rfl (by kernel_rfl) Try.func5 (by kernel_rfl)
    (of_decide_eq_true (by kernel_rfl)) (by unfold Func.isWrapper; first | (rw [if_pos (by decide +kernel)]; kernel_rfl) | (rw [if_neg (by decide +kernel)]; exact ⟨rfl, rfl⟩))
    (fun os started H enc _ => lifted os started H enc)

/-- THE STATEMENT. -/
theorem proved : Rows.FnExactStoneOfSaid := over
#print axioms proved
end Go.Proofs.Ytggkodhfhhjihaa.fnExactStoneOf
