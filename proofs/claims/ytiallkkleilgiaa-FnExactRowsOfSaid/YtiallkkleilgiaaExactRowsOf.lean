/- For every arch and every list of loads, FnExactRowsOf answers true: the program's RowsOf gives what the model's gives, leaves its arguments as they were, and answers memory of its own. No condition. -/
import Derived.Test.YtiallkkleilgiaaCondJ
import Derived.Test.YtiallkkleilgiaaCondS
import Derived.Test.YtiallkkleilgiaaCdK
import Derived.Test.YtiallkkleilgiaaArchK
import Derived.Test.YtiallkkleilgiaaLoadK
import Derived.Test.YtiallkkleilgiaaRows
import Derived.WalkKit
import Derived.ProofKit
import Derived.OpenShut
import Derived.ShutString
import Derived.ChangeOld
import Derived.Below
namespace Go.Proofs.Ytiallkkleilgiaa.fnExactRowsOf
set_option maxRecDepth 100000
open Go.ChangeShapes Go.WideShapes Go.ChangeAt Go.RowKit
open Go.ChangeMaps (open_string shut_string)
set_option linter.unusedVariables false

theorem own : ownKnob Try.prog.godebug = none := by kernel_rfl
theorem laidOut : laidOutB Try.prog = true := by kernel_rfl

theorem mark_kept {w w' : World} {b o : Nat} {u : Value} {row : Option Nat} (hc : w.cell? ⟨b, o, none⟩ = some u) (hg : w.grownBy w' row) (hne : some b ≠ row) : w'.cell? ⟨b, o, none⟩ = some u :=
  (World.grownBy.cell_far hg ⟨b, o, none⟩ (cell_block_lt hc) hne).trans hc
theorem mark_own {w w' : World} {B n size : Nat} {e : TypeId} {v : Value} {xs : List Value} {row : Option Nat} (h : w.ownsRow B e size v n xs) (hg : w.grownBy w' row) (hne : ∀ k, v.ownBlock = some k → some k ≠ row) : w'.ownsRow B e size v n xs :=
  World.ownsRow.kept h hg (by
    cases hv : v.ownBlock with
    | none => exact .inl rfl
    | some k => exact .inr (hne k hv))
theorem mark_other {w w' : World} {B1 B2 s1 s2 n1 n2 : Nat} {e1 e2 : TypeId} {v1 v2 : Value} {xs1 xs2 : List Value} (h1 : w.ownsRow B1 e1 s1 v1 n1 xs1) (h2 : w.ownsRow B2 e2 s2 v2 n2 xs2) (he : e1 ≠ e2) (hg : w.grownBy w' v2.ownBlock) : w'.ownsRow B1 e1 s1 v1 n1 xs1 :=
  World.ownsRow.kept h1 hg (own_other h1 h2 he)

/-! ### THE WALK: the Go text returns true, and writes nothing that was there. -/
set_option maxRecDepth 100000 in
set_option maxHeartbeats 4000000 in
theorem walk (p0 : Option Addr) (n0 cap0 : Nat) (c0 : List Jt) (p1 : Option Addr) (n1 cap1 : Nat) (c1 : List Ld) (w : World) (g0 : InJts w p0 n0 cap0 c0) (g1 : InLds w p1 n1 cap1 c1) :
    Calls Try.prog 5 #[.agg #[.slice p0 n0 cap0], .slice p1 n1 cap1] w fun e w' => e = .returned (.bool true) ∧ Below w.heap.size w w' := by
  have hm : n0 ≤ maxLen := Nat.le_trans g0.2.1 g0.2.2.1
  have hm1 : n1 ≤ maxLen := Nat.le_trans g1.2.1 g1.2.2.1
  have hcl := g0.1
  have hcl1 := g1.1
  have G0 := Lib.hid g0
  have G1 := Lib.hid g1
  have HCL := Lib.hid hcl
  have HCL1 := Lib.hid hcl1
  clear g0 g1 hcl hcl1
  have hvl : (rowsV c0 c1).length ≤ 1048576 := Nat.le_trans (rowsV_length c0 c1) (by omega)
  generalize hV : (rowsV c0 c1) = V at *
  have HV := Lib.hid hV
  clear hV
  have HB0 := Lib.hid ((Below.refl w.heap.size w).alloc (Nat.le_refl _) (.cells #[.slice p0 n0 cap0] 36))
  have HS0 : RowKit.Hid ((w.alloc (.cells #[.slice p0 n0 cap0] 36)).cell? ⟨w.heap.size, 0, none⟩ = some (.slice p0 n0 cap0)) := Lib.hid (by go_simp)
  by_cases hs : n0 ≤ 1048576
  · have HZ := Lib.hid (show szJ n0 = 1048576 - (n0 : Int) by unfold szJ; rw [if_pos hs])
    by_cases ht : (n1 : Int) ≤ 1048576 - (n0 : Int)
    · have HY := Lib.hid (show szL n1 (1048576 - (n0 : Int)) = 1048576 - (n0 : Int) - (n1 : Int) by unfold szL; rw [if_pos ht])
      have ht1 : n1 ≤ 1048576 := by omega
      go_enter Try.func5, Try.ntmps5
      go_wp2_with fail
      refine (szArch _ _ _ _ hm).mono ?_
      rintro e w1 ⟨rfl, hb1⟩
      rw [HZ.out]
      have HB1 := Lib.hid (HB0.out.trans (hb1.mono (by simp)))
      have s1 := cell_kept HS0.out hb1
      clear hb1 HB0 HS0
      go_wp2_with fail
      refine (szLoadS _ _ _ _ _ hm1 ⟨by omega, by omega⟩).mono ?_
      rintro e wq ⟨rfl, rfl⟩
      rw [HY.out]
      go_wp2_with fail
      refine (toArch _ _ _ c0 _ (G0.out.below HB1.out) hs).mono ?_
      rintro e w2 ⟨ga, -, rfl, ra, hb2⟩
      have RA := Lib.hid ra
      have HB2 := Lib.hid (HB1.out.trans (hb2.mono HB1.out.size))
      have s2 := cell_kept s1 hb2
      clear hb2 HB1  s1 ra
      go_wp2_with fail
      refine (toLoadS _ _ _ c1 _ (G1.out.below HB2.out) ht1).mono ?_
      rintro e w3 ⟨gb, -, rfl, rb, hb3⟩
      have RA3 := Lib.hid (JRowAt.below RA.out hb3)
      have RB := Lib.hid rb
      have HB3 := Lib.hid (HB2.out.trans (hb3.mono HB2.out.size))
      have s3 := cell_kept s2 hb3
      clear hb3 HB2  s2 rb RA
      go_wp2_with fail
      refine (specRowsOf _ _ _ _ _ _ _ _ _ c0 c1 RA3.out HCL.out hs RB.out).mono ?_
      rintro e w4 ⟨uw, rfl, rw4, hb4⟩
      rw [HV.out] at rw4
      obtain ⟨wa, wc, hwv, -⟩ := cdrow_slice rw4
      subst hwv
      have hwlt := fun k hk => (World.ownsRow.lt rw4 k hk).2
      have RW4 : RowKit.Hid (CdRow w4 _ (.slice wa V.length wc) V) := Lib.hid rw4
      have HB4 := Lib.hid (HB3.out.trans (hb4.mono HB3.out.size))
      have s4 := cell_kept s3 hb4
      clear hb4 HB3  s3 rw4 RA3 RB
      go_wp2_with fail
      refine (toArch _ _ _ c0 _ (G0.out.below HB4.out) hs).mono ?_
      rintro e w5 ⟨gx, hgx, rfl, rx, hb5⟩
      have hws : w.heap.size < w4.heap.size := cell_block_lt s4
      have hal : Below w5.heap.size w5 (w5.alloc (.cells #[.slice (some ⟨gx, 0, none⟩) n0 n0] 44)) := (Below.refl _ _).alloc (Nat.le_refl _) _
      have h45 := hb5.size
      have hb5a := hb5.trans (hal.mono hb5.size)
      have HB5 := Lib.hid (HB4.out.trans (hb5a.mono HB4.out.size))
      have RW5 : RowKit.Hid (CdRow (w5.alloc (.cells #[.slice (some ⟨gx, 0, none⟩) n0 n0] 44)) _ (.slice wa V.length wc) V) := Lib.hid (RW4.out.below hb5a)
      have s5 := cell_kept s4 hb5a
      have x5 : (w5.alloc (.cells #[.slice (some ⟨gx, 0, none⟩) n0 n0] 44)).cell? ⟨w5.heap.size, 0, none⟩ = some (.slice (some ⟨gx, 0, none⟩) n0 n0) := by go_simp
      have rx1 := JRowAt.below rx hal
      have RX5 := Lib.hid rx1
      have hne1 : w.heap.size < w5.heap.size := by omega
      clear hb5 hb5a s4 HB4 RW4 rx hal rx1
      go_wp2_with fail
      refine (toLoadS _ _ _ c1 _ (G1.out.below HB5.out) ht1).mono ?_
      rintro e w6 ⟨gy, hgy, rfl, ry, hb6⟩
      have h56 := hb6.size
      rw [World.size_alloc] at h56 hgy
      have RY6 : RowKit.Hid (Lds w6 _ (some ⟨gy, 0, none⟩) n1 n1 c1) := Lib.hid ry
      have RX6 := Lib.hid (JRowAt.below RX5.out hb6)
      clear ry RX5
      have HB6 := Lib.hid (HB5.out.trans (hb6.mono HB5.out.size))
      have RW6 : RowKit.Hid (CdRow w6 _ (.slice wa V.length wc) V) := Lib.hid (RW5.out.below hb6)
      have s6 := cell_kept s5 hb6
      have x6 := cell_kept x5 hb6
      clear hb6 HB5 RW5 s5 x5 
      go_wp2_with fail
      refine (implRowsOf _ _ _ _ _ _ _ _ _ c0 c1 RX6.out HCL.out RY6.out).mono ?_
      rintro e w7 ⟨ug, rfl, rg, hb7⟩
      rw [HV.out] at rg
      obtain ⟨ya, yc, hyv, -⟩ := cdrow_slice rg
      subst hyv
      have hyl := fun k hk => (World.ownsRow.lt rg k hk).1
      have DD3 : RowKit.Hid (∀ k, (Value.slice wa V.length wc).ownBlock = some k → some k ≠ (Value.slice ya V.length yc).ownBlock) := Lib.hid (fun k hk he => by have := hwlt k hk; have := hyl k he.symm; omega)
      have DD4 : RowKit.Hid (∀ k, (Value.slice ya V.length yc).ownBlock = some k → w.heap.size < k) := Lib.hid (fun k hk => by have := hyl k hk; omega)
      have DX : RowKit.Hid (w.heap.size < gx ∧ w.heap.size < gy) := Lib.hid ⟨by omega, by omega⟩
      have hrx := (JRowAt.below RX6.out hb7).row
      rw [HCL.out] at hrx
      have RX7 : RowKit.Hid (JRow w7 _ (.slice (some ⟨gx, 0, none⟩) n0 n0) c0) := Lib.hid hrx
      have RG7 : RowKit.Hid (CdRow w7 _ (.slice ya V.length yc) V) := Lib.hid rg
      clear hrx RX6 rg hyl hwlt hgx hgy h45 h56 hws
      have HB7 := Lib.hid (HB6.out.trans (hb7.mono HB6.out.size))
      have RY7 : RowKit.Hid (Lds w7 _ (some ⟨gy, 0, none⟩) n1 n1 c1) := Lib.hid (RY6.out.below hb7)
      have RW7 : RowKit.Hid (CdRow w7 _ (.slice wa V.length wc) V) := Lib.hid (RW6.out.below hb7)
      have s7 := cell_kept s6 hb7
      have x7 := cell_kept x6 hb7
      clear hb7 HB6 RY6 RW6 s6 x6 
      go_wp2_with fail
      refine (eqRowS_same _ _ _ _ _ _ _ _ V ⟨RG7.out, rfl⟩ ⟨RW7.out, rfl⟩).mono ?_
      rintro e w8 ⟨rfl, hb8⟩
      have HB8 := Lib.hid (HB7.out.trans (hb8.mono HB7.out.size))
      have RX8 : RowKit.Hid (JRow w8 _ (.slice (some ⟨gx, 0, none⟩) n0 n0) c0) := Lib.hid (RX7.out.below hb8)
      have RY8 : RowKit.Hid (Lds w8 _ (some ⟨gy, 0, none⟩) n1 n1 c1) := Lib.hid (RY7.out.below hb8)
      have RW8 : RowKit.Hid (CdRow w8 _ (.slice wa V.length wc) V) := Lib.hid (RW7.out.below hb8)
      have RG8 : RowKit.Hid (CdRow w8 _ (.slice ya V.length yc) V) := Lib.hid (RG7.out.below hb8)
      have s8 := cell_kept s7 hb8
      have x8 := cell_kept x7 hb8
      clear hb8 HB7 RX7 RY7 RW7 RG7 s7 x7 
      go_wp2_with fail
      go_region_held3 (fun w' => w'.cell? ⟨w.heap.size, 0, none⟩ = some (.slice p0 n0 cap0) ∧ w'.cell? ⟨w5.heap.size, 0, none⟩ = some (.slice (some ⟨gx, 0, none⟩) n0 n0))
        (first | go_keep | trivial)
        (first | (go_at_call 17; refine (toArch _ _ _ c0 _ (G0.out.below (by first | exact HB8.out | exact below_drewN HB8.out _)) hs).mono ?_; rintro e w9 ⟨gz, -, rfl, rz, hb9⟩; have HB9 : RowKit.Hid (Below w.heap.size w w9) := Lib.hid (by first | exact HB8.out.trans (hb9.mono HB8.out.size) | exact below_after HB8.out hb9); have RX9 : RowKit.Hid (JRow w9 _ (.slice (some ⟨gx, 0, none⟩) n0 n0) c0) := Lib.hid (by first | exact RX8.out.below hb9 | exact RX8.out.after hb9); have RY9 : RowKit.Hid (Lds w9 _ (some ⟨gy, 0, none⟩) n1 n1 c1) := Lib.hid (by first | exact RY8.out.below hb9 | exact ⟨RY8.out.1.after hb9, RY8.out.2⟩); have RW9 : RowKit.Hid (CdRow w9 _ (.slice wa V.length wc) V) := Lib.hid (by first | exact RW8.out.below hb9 | exact RW8.out.after hb9); have RG9 : RowKit.Hid (CdRow w9 _ (.slice ya V.length yc) V) := Lib.hid (by first | exact RG8.out.below hb9 | exact RG8.out.after hb9); have s9 : w9.cell? ⟨w.heap.size, 0, none⟩ = some (.slice p0 n0 cap0) := (by first | exact cell_kept s8 hb9 | exact cell_after s8 hb9); have x9 : w9.cell? ⟨w5.heap.size, 0, none⟩ = some (.slice (some ⟨gx, 0, none⟩) n0 n0) := (by first | exact cell_kept x8 hb9 | exact cell_after x8 hb9); have hrz := rz.row; rw [HCL.out] at hrz; have RZ := Lib.hid hrz; clear rz hrz hb9)
               | (go_at_call 21; refine (eqArch_same _ _ _ _ _ c0 RX9.out RZ.out).mono ?_; rintro e w10 ⟨rfl, hb10⟩; have HB10 : RowKit.Hid (Below w.heap.size w w10) := Lib.hid (by first | exact HB9.out.trans (hb10.mono HB9.out.size) | exact below_after HB9.out hb10); have RX10 : RowKit.Hid (JRow w10 _ (.slice (some ⟨gx, 0, none⟩) n0 n0) c0) := Lib.hid (by first | exact RX9.out.below hb10 | exact RX9.out.after hb10); have RY10 : RowKit.Hid (Lds w10 _ (some ⟨gy, 0, none⟩) n1 n1 c1) := Lib.hid (by first | exact RY9.out.below hb10 | exact ⟨RY9.out.1.after hb10, RY9.out.2⟩); have RW10 : RowKit.Hid (CdRow w10 _ (.slice wa V.length wc) V) := Lib.hid (by first | exact RW9.out.below hb10 | exact RW9.out.after hb10); have RG10 : RowKit.Hid (CdRow w10 _ (.slice ya V.length yc) V) := Lib.hid (by first | exact RG9.out.below hb10 | exact RG9.out.after hb10); have s10 : w10.cell? ⟨w.heap.size, 0, none⟩ = some (.slice p0 n0 cap0) := (by first | exact cell_kept s9 hb10 | exact cell_after s9 hb10); have x10 : w10.cell? ⟨w5.heap.size, 0, none⟩ = some (.slice (some ⟨gx, 0, none⟩) n0 n0) := (by first | exact cell_kept x9 hb10 | exact cell_after x9 hb10); clear hb10))
      clear s8 x8 s9 x9 HB8 HB9 RX8 RX9 RY8 RY9 RW8 RW9 RG8 RG9
      go_wp2_with fail
      refine (toLoadS _ _ _ c1 _ (G1.out.below HB10.out) ht1).mono ?_
      rintro e w11 ⟨gu, -, rfl, ru, hb11⟩
      have RU := Lib.hid ru
      clear ru
      have HB11 := Lib.hid (HB10.out.trans (hb11.mono HB10.out.size))
      have RX11 : RowKit.Hid (JRow w11 _ (.slice (some ⟨gx, 0, none⟩) n0 n0) c0) := Lib.hid (RX10.out.below hb11)
      have RY11 : RowKit.Hid (Lds w11 _ (some ⟨gy, 0, none⟩) n1 n1 c1) := Lib.hid (RY10.out.below hb11)
      have RW11 : RowKit.Hid (CdRow w11 _ (.slice wa V.length wc) V) := Lib.hid (RW10.out.below hb11)
      have RG11 : RowKit.Hid (CdRow w11 _ (.slice ya V.length yc) V) := Lib.hid (RG10.out.below hb11)
      have s11 := cell_kept s10 hb11
      have x11 := cell_kept x10 hb11
      clear hb11 HB10 RX10 RY10 RW10 RG10 s10 x10 
      go_wp2_with fail
      refine (eqLoadS_same _ _ _ _ _ _ _ _ c1 RY11.out RU.out).mono ?_
      rintro e w12 ⟨rfl, hb12⟩
      clear RU
      have HB12 := Lib.hid (HB11.out.trans (hb12.mono HB11.out.size))
      have RX12 : RowKit.Hid (JRow w12 _ (.slice (some ⟨gx, 0, none⟩) n0 n0) c0) := Lib.hid (RX11.out.below hb12)
      have RY12 : RowKit.Hid (Lds w12 _ (some ⟨gy, 0, none⟩) n1 n1 c1) := Lib.hid (RY11.out.below hb12)
      have RW12 : RowKit.Hid (CdRow w12 _ (.slice wa V.length wc) V) := Lib.hid (RW11.out.below hb12)
      have RG12 : RowKit.Hid (CdRow w12 _ (.slice ya V.length yc) V) := Lib.hid (RG11.out.below hb12)
      have s12 := cell_kept s11 hb12
      have x12 := cell_kept x11 hb12
      clear hb12 HB11 RX11 RY11 RW11 RG11 s11 x11 
      go_wp2_with fail
      refine (markArch _ _ _ c0 RX12.out (by have := HCL.out; omega)).mono ?_
      rintro e w13 ⟨rfl, -, z1, z2, z3, z4, z5⟩
      have hg13 : w12.grownBy w13 (Value.slice (some ⟨gx, 0, none⟩) n0 n0).ownBlock := ⟨z2, z3, z4, z1, z5⟩
      have RY13 : RowKit.Hid (Lds w13 _ (some ⟨gy, 0, none⟩) n1 n1 c1) := Lib.hid ⟨mark_other RY12.out.1 RX12.out (by decide) hg13, RY12.out.2⟩
      have RW13 : RowKit.Hid (CdRow w13 _ (.slice wa V.length wc) V) := Lib.hid (mark_other RW12.out RX12.out (by decide) hg13)
      have RG13 : RowKit.Hid (CdRow w13 _ (.slice ya V.length yc) V) := Lib.hid (mark_other RG12.out RX12.out (by decide) hg13)
      have s13 := mark_kept s12 hg13 (by have := DX.out.1; simp [Value.ownBlock]; omega)
      have HB13 := Lib.hid (HB12.out.grown hg13 HB12.out.size (fun k hk => by have := DX.out.1; simp [Value.ownBlock] at hk; omega))
      clear z1 z2 z3 z4 z5 hg13 RX12 RY12 RW12 RG12 s12 x12 HB12
      rw [HCL.out]
      go_wp2_with fail
      refine (markLoadsFrom _ (1 + 4 * (n0 : Int)) ⟨by omega, by omega⟩ _ _ c1 RY13.out.1 (by have := HCL1.out; omega)).mono ?_
      rintro e w14 ⟨rfl, -, z1, z2, z3, z4, z5⟩
      have hg14 : w13.grownBy w14 (Value.slice (some ⟨gy, 0, none⟩) n1 n1).ownBlock := ⟨z2, z3, z4, z1, z5⟩
      have RW14 : RowKit.Hid (CdRow w14 _ (.slice wa V.length wc) V) := Lib.hid (mark_other RW13.out RY13.out.1 (by decide) hg14)
      have RG14 : RowKit.Hid (CdRow w14 _ (.slice ya V.length yc) V) := Lib.hid (mark_other RG13.out RY13.out.1 (by decide) hg14)
      have s14 := mark_kept s13 hg14 (by have := DX.out.2; simp [Value.ownBlock]; omega)
      have HB14 := Lib.hid (HB13.out.grown hg14 HB13.out.size (fun k hk => by have := DX.out.2; simp [Value.ownBlock] at hk; omega))
      clear z1 z2 z3 z4 z5 hg14 RY13 RW13 RG13 s13 HB13
      rw [HCL1.out]
      obtain ⟨K, hK⟩ : ∃ K, K = 1 + 4 * (n0 : Int) + 3 * (n1 : Int) := ⟨_, rfl⟩
      rw [← hK]
      have hK0 : ¬ K < 0 := by omega
      have hK1 : decide (K < 0) = false := decide_eq_false hK0
      clear hK
      go_wp2_with fail
      refine (eqRowS_same _ _ _ _ _ _ _ _ V ⟨RG14.out, rfl⟩ ⟨RW14.out, rfl⟩).mono ?_
      rintro e w15 ⟨rfl, hb15⟩
      have HB15 := Lib.hid (HB14.out.trans (hb15.mono HB14.out.size))
      have RW15 : RowKit.Hid (CdRow w15 _ (.slice wa V.length wc) V) := Lib.hid (RW14.out.below hb15)
      have RG15 : RowKit.Hid (CdRow w15 _ (.slice ya V.length yc) V) := Lib.hid (RG14.out.below hb15)
      have s15 := cell_kept s14 hb15
      clear hb15 HB14 RW14 RG14 s14 
      go_wp2_with fail
      refine (markCds _ _ _ V RG15.out hvl).mono ?_
      rintro e w16 ⟨rfl, rgm, z1, z2, z3, z4, z5⟩
      have hg16 : w15.grownBy w16 (Value.slice ya V.length yc).ownBlock := ⟨z2, z3, z4, z1, z5⟩
      have RW16 : RowKit.Hid (CdRow w16 _ (.slice wa V.length wc) V) := Lib.hid (mark_own RW15.out hg16 DD3.out)
      have RM16 : RowKit.Hid (CdRow w16 _ (.slice ya V.length yc) (marks4 1 V.length)) := Lib.hid rgm
      have s16 := mark_kept s15 hg16 (fun he => by have := DD4.out _ he.symm; omega)
      have HB16 := Lib.hid (HB15.out.grown hg16 HB15.out.size (fun k hk => Nat.le_of_lt (DD4.out k hk)))
      clear z1 z2 z3 z4 z5 hg16 RW15 RG15 HB15 rgm s15
      go_wp2_with fail
      refine (heldCds _ _ _ _ RM16.out hvl).mono ?_
      rintro e wq ⟨rfl, rfl⟩
      go_wp2_with fail
      refine (toArch _ _ _ c0 _ (G0.out.below HB16.out) hs).mono ?_
      rintro e w17 ⟨gv, -, rfl, ra, hb17⟩
      have RA := Lib.hid ra
      clear ra
      have HB17 := Lib.hid (HB16.out.trans (hb17.mono HB16.out.size))
      have RW17 : RowKit.Hid (CdRow w17 _ (.slice wa V.length wc) V) := Lib.hid (RW16.out.below hb17)
      have RM17 : RowKit.Hid (CdRow w17 _ (.slice ya V.length yc) (marks4 1 V.length)) := Lib.hid (RM16.out.below hb17)
      clear hb17 HB16 RW16 RM16  
      go_wp2_with fail
      refine (toLoadS _ _ _ c1 _ (G1.out.below HB17.out) ht1).mono ?_
      rintro e w18 ⟨gw, -, rfl, rb, hb18⟩
      have RA3 := Lib.hid (JRowAt.below RA.out hb18)
      have RB := Lib.hid rb
      clear rb RA
      have HB18 := Lib.hid (HB17.out.trans (hb18.mono HB17.out.size))
      have RW18 : RowKit.Hid (CdRow w18 _ (.slice wa V.length wc) V) := Lib.hid (RW17.out.below hb18)
      have RM18 : RowKit.Hid (CdRow w18 _ (.slice ya V.length yc) (marks4 1 V.length)) := Lib.hid (RM17.out.below hb18)
      clear hb18 HB17 RW17 RM17  
      go_wp2_with fail
      refine (implRowsOf _ _ _ _ _ _ _ _ _ c0 c1 RA3.out HCL.out RB.out).mono ?_
      rintro e w19 ⟨uh, rfl, rh, hb19⟩
      rw [HV.out] at rh
      obtain ⟨ha, hc, hhv, -⟩ := cdrow_slice rh
      subst hhv
      have RH : RowKit.Hid (CdRow w19 _ (.slice ha V.length hc) V) := Lib.hid rh
      clear rh RA3 RB
      have HB19 := Lib.hid (HB18.out.trans (hb19.mono HB18.out.size))
      have RW19 : RowKit.Hid (CdRow w19 _ (.slice wa V.length wc) V) := Lib.hid (RW18.out.below hb19)
      have RM19 : RowKit.Hid (CdRow w19 _ (.slice ya V.length yc) (marks4 1 V.length)) := Lib.hid (RM18.out.below hb19)
      clear hb19 HB18 RW18 RM18  
      go_wp2_with fail
      refine (eqRowS_same _ _ _ _ _ _ _ _ V ⟨RH.out, rfl⟩ ⟨RW19.out, rfl⟩).mono ?_
      rintro e w20 ⟨rfl, hb20⟩
      clear RH
      have HB20 := Lib.hid (HB19.out.trans (hb20.mono HB19.out.size))
      have RW20 : RowKit.Hid (CdRow w20 _ (.slice wa V.length wc) V) := Lib.hid (RW19.out.below hb20)
      have RM20 : RowKit.Hid (CdRow w20 _ (.slice ya V.length yc) (marks4 1 V.length)) := Lib.hid (RM19.out.below hb20)
      clear hb20 HB19 RW19 RM19  
      go_wp2_with fail
      refine (heldCds _ _ _ _ RM20.out hvl).mono ?_
      rintro e wq ⟨rfl, rfl⟩
      go_wp2_with fail
      go_ret
      exact ⟨rfl, HB20.out⟩
    · have HY := Lib.hid (show szL n1 (1048576 - (n0 : Int)) = -1 by unfold szL; rw [if_neg ht])
      go_enter Try.func5, Try.ntmps5
      go_wp2_with fail
      refine (szArch _ _ _ _ hm).mono ?_
      rintro e w1 ⟨rfl, hb1⟩
      rw [HZ.out]
      go_wp2_with fail
      refine (szLoadS _ _ _ _ _ hm1 ⟨by omega, by omega⟩).mono ?_
      rintro e wq ⟨rfl, rfl⟩
      rw [HY.out]
      go_wp2_with fail
      go_ret
      exact ⟨rfl, HB0.out.trans (hb1.mono (by simp))⟩
  · have HZ := Lib.hid (show szJ n0 = -1 by unfold szJ; rw [if_neg hs])
    go_enter Try.func5, Try.ntmps5
    go_wp2_with fail
    refine (szArch _ _ _ _ hm).mono ?_
    rintro e w1 ⟨rfl, hb1⟩
    rw [HZ.out]
    go_wp2_with fail
    go_ret
    exact ⟨rfl, HB0.out.trans (hb1.mono (by simp))⟩

/-! ### THE ROW's STEP -/
set_option maxRecDepth 100000 in
theorem lifted (os : Os) (started : os.Started) (H : Type) (enc : TypeId × Value → H) :
    ReturnsInHanded {} Try.checked os 5 .any (Rows.fnExactRowsOfSpec.pre6 enc Try.prog Try.f5 Rows.fnExactRowsOfRow.domain false) (Rows.fnExactRowsOfSpec.post enc Try.prog Try.f5 false true false false) := by
  refine returnsInHanded_of_change (C := Try.checked) own started (by kernel_rfl) Try.func5
    (ChangeSpec.witness6 (enc := enc) (C := Try.checked) false ⟨#[], #[.agg #[.slice none 0 0], .slice none 0 0], []⟩ 8 (by kernel_rfl) (by kernel_rfl) (by kernel_rfl) (by kernel_rfl)) ?_
  intro W base args ds gs before hval0 hW hcnd _
  have hval : ∀ (j : Nat) t v, Try.f5.params[j]? = some t → args[j]? = some v → Value.okWide Try.prog W .any base t v := hval0
  have hW' := hW
  obtain ⟨p, q, hA0, hV, rfl, hfz, hnd⟩ := hW
  have hA : DataW.TrodAll enc Try.prog W 0 (fun _ => true) true Try.f5.params.toList args.toList ds p := hA0
  rw [Try.params5] at hA hval
  obtain ⟨v0, vs0, d0, ds0, p0, q0, hargs, rfl, rfl, h0, r0⟩ := trodAll_cons hA
  obtain ⟨v1, vs1, d1, ds1, p1, q1, rfl, rfl, rfl, h1, r1⟩ := trodAll_cons r0
  obtain ⟨rfl, rfl, rfl⟩ := trodAll_nil r1
  obtain rfl : args = #[v0, v1] := by cases args; simp_all
  obtain ⟨rfl, rfl⟩ := trodVars_none hV
  have k0 := h0
  have lt0 : ∀ x ∈ p0, x.block < W.heap.size := by obtain ⟨m, hm⟩ := k0; exact DataW.trod_lt m _ _ _ hm
  obtain ⟨p0, n0, cap0, c0, rfl, g0⟩ := open_arch (hval 0 36 v0 rfl rfl) h0
  have k1 := h1
  have lt1 : ∀ x ∈ p1, x.block < W.heap.size := by obtain ⟨m, hm⟩ := k1; exact DataW.trod_lt m _ _ _ hm
  obtain ⟨p1, n1, cap1, c1, rfl, g1⟩ := open_loads (hval 1 37 v1 rfl rfl) h1
  clear hA0 hval0
  refine (walk p0 n0 cap0 c0 p1 n1 cap1 c1 W g0 g1).mono fun e W' ⟨he, bel⟩ => ?_
  subst he
  exact ⟨_, rfl, _, _, _, [], _, [], hW', trodAll_mk1 (shut_bool Try.underlying4 _), (trodAll_cons_mk (Below.trod laidOut (by kernel_rfl) (of_decide_eq_true (by kernel_rfl)) k0 bel lt0) (trodAll_cons_mk (Below.trod laidOut (by kernel_rfl) (of_decide_eq_true (by kernel_rfl)) k1 bel lt1) trodAll_mk0)), rfl, bel.frame _, fun h => by cases h⟩

theorem over : Rows.fnExactRowsOfRow.holds Try.pinned (OpenSpec.ofChange Rows.fnExactRowsOfSpec) :=
  OpenClaim.holds_of_wide 5 Try.f5 rfl rfl rfl rfl rfl rfl rfl ⟨rfl, rfl, rfl, rfl, rfl⟩ rfl rfl rfl rfl rfl (by kernel_rfl) Try.func5 (by kernel_rfl)
    (of_decide_eq_true (by kernel_rfl)) (by unfold Func.isWrapper; first | (rw [if_pos (by decide +kernel)]; kernel_rfl) | (rw [if_neg (by decide +kernel)]; exact ⟨rfl, rfl⟩))
    (fun os started H enc _ => lifted os started H enc)

/-- THE STATEMENT. -/
theorem proved : Rows.FnExactRowsOfSaid := over
#print axioms proved
end Go.Proofs.Ytiallkkleilgiaa.fnExactRowsOf
