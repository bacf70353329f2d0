/- For every thrust and every list of rows, FnExactJustMetBy answers true: the program's JustMetBy gives what the model's gives, in new memory, and writes into no argument. No condition. -/
import Derived.Test.YtdaiffaedejnbaaThreeO
import Derived.Test.YtdaiffaedejnbaaIntL
import Derived.Test.YtdaiffaedejnbaaCdK
import Derived.Test.YtdaiffaedejnbaaRows
import Derived.WalkKit
import Derived.ProofKit
import Derived.OpenShut
import Derived.ShutString
import Derived.ChangeOld
import Derived.Below
namespace Go.Proofs.Ytdaiffaedejnbaa.fnExactJustMetBy
set_option maxRecDepth 100000
open Go.ChangeShapes Go.WideShapes Go.ChangeAt Go.RowKit
open Go.ChangeMaps (open_string shut_string)
set_option linter.unusedVariables false

theorem own : ownKnob Try.prog.godebug = none := by kernel_rfl
theorem laidOut : laidOutB Try.prog = true := by kernel_rfl

theorem own_other {w : World} {B1 B2 s1 s2 n1 n2 : Nat} {e1 e2 : TypeId} {v1 v2 : Value} {xs1 xs2 : List Value} (h1 : w.ownsRow B1 e1 s1 v1 n1 xs1) (h2 : w.ownsRow B2 e2 s2 v2 n2 xs2) (he : e1 ≠ e2) : v1.ownBlock = none ∨ v1.ownBlock ≠ v2.ownBlock := by
  rcases h1.2 with ⟨rfl, -⟩ | ⟨g1, c1, cur1, rfl, -, hg1, -⟩
  · exact .inl rfl
  · right
    rcases h2.2 with ⟨rfl, -⟩ | ⟨g2, c2, cur2, rfl, -, hg2, -⟩
    · simp [Value.ownBlock]
    · intro h
      simp [Value.ownBlock] at h
      subst h
      rw [hg1] at hg2
      simp at hg2
      exact he hg2.2
theorem mark_kept {w w' : World} {b o : Nat} {u : Value} {row : Option Nat} (hc : w.cell? ⟨b, o, none⟩ = some u) (hg : w.grownBy w' row) (hne : some b ≠ row) : w'.cell? ⟨b, o, none⟩ = some u :=
  (World.grownBy.cell_far hg ⟨b, o, none⟩ (cell_block_lt hc) hne).trans hc
theorem mark_own {w w' : World} {B n size : Nat} {e : TypeId} {v : Value} {xs : List Value} {row : Option Nat} (h : w.ownsRow B e size v n xs) (hg : w.grownBy w' row) (hne : ∀ k, v.ownBlock = some k → some k ≠ row) : w'.ownsRow B e size v n xs :=
  World.ownsRow.kept h hg (by
    cases hv : v.ownBlock with
    | none => exact .inl rfl
    | some k => exact .inr (hne k hv))
/-- A list that was made behind another row lies in another block. -/
theorem own_later {w : World} {B n size : Nat} {e : TypeId} {v u : Value} {xs : List Value} (h : w.ownsRow B e size v n xs) (hu : ∀ k, u.ownBlock = some k → w.heap.size ≤ k) : ∀ k, v.ownBlock = some k → some k ≠ u.ownBlock := fun k hk he => by
  have h1 := (World.ownsRow.lt h k hk).2
  have h2 := hu k he.symm
  omega

/-! ### THE WALK: the Go text returns true, and writes nothing that was there. -/
set_option maxRecDepth 100000 in
set_option maxHeartbeats 4000000 in
theorem walk (jx0 jy0 jz0 ju0 : Int) (p1 : Option Addr) (n1 cap1 : Nat) (c1 : List Cd) (w : World) (g0 : I64 jx0 ∧ I64 jy0 ∧ I64 jz0 ∧ I64 ju0) (g1 : InCds w p1 n1 cap1 c1) :
    Calls Try.prog 8 #[.agg #[.int .i64 jx0, .int .i64 jy0, .int .i64 jz0, .int .i64 ju0], .slice p1 n1 cap1] w fun e w' => e = .returned (.bool true) ∧ Below w.heap.size w w' := by
  have hm : n1 ≤ maxLen := Nat.le_trans g1.2.1 g1.2.2.1
  have hcl := g1.1
  have G0 := Lib.hid g1
  have HCL := Lib.hid hcl
  clear g1 hcl
  have HB0 := Lib.hid ((Below.refl w.heap.size w).alloc (Nat.le_refl _) (.cells #[.int .i64 jx0, .int .i64 jy0, .int .i64 jz0, .int .i64 ju0] 52))
  have HT0 : RowKit.Hid (TBox (w.alloc (.cells #[.int .i64 jx0, .int .i64 jy0, .int .i64 jz0, .int .i64 ju0] 52)) w.heap.size jx0 jy0 jz0 ju0) := Lib.hid ⟨by go_simp, by go_simp, by go_simp, by go_simp⟩
  by_cases hs : n1 ≤ 1048576
  · have HZ := Lib.hid (show szCd n1 1048576 = 1048576 - (n1 : Int) by unfold szCd; rw [if_pos (by omega)])
    have hvl : (jmV (jx0, jy0, jz0, ju0) c1).length ≤ 1048576 := (by have := jmTo_le (jx0, jy0, jz0, ju0) c1 c1.length; have := HCL.out; unfold jmV; omega)
    generalize hV : (jmV (jx0, jy0, jz0, ju0) c1) = V at *
    have HV := Lib.hid hV
    clear hV
    go_enter Try.func8, Try.ntmps8
    go_wp2_with fail
    refine (szRowS _ _ _ _ _ hm ⟨by omega, by omega⟩).mono ?_
    rintro e wq ⟨rfl, rfl⟩
    rw [HZ.out]
    obtain ⟨t0, t1, t2, t3⟩ := id HT0.out
    go_wp2_with fail
    refine (toThrust _ _ _ _ _).mono ?_
    rintro e w1 ⟨rfl, hb1⟩
    clear t0 t1 t2 t3
    have HB1 := Lib.hid (HB0.out.trans (hb1.mono HB0.out.size))
    have HT1 := Lib.hid (HT0.out.below hb1)
    clear hb1 HB0  HT0 
    go_wp2_with fail
    refine (toRowS _ _ _ c1 _ (G0.out.below HB1.out) hs).mono ?_
    rintro e w2 ⟨ga, hga, rfl, rga, hb2⟩
    have RA := Lib.hid rga
    have HB2 := Lib.hid (HB1.out.trans (hb2.mono HB1.out.size))
    have HT2 := Lib.hid (HT1.out.below hb2)
    clear hb2 HB1  HT1 rga hga
    go_wp2_with fail
    refine (specJustMetBy _ _ _ _ _ _ _ _ _ c1 RA.out hs).mono ?_
    rintro e w3 ⟨uw, rfl, rw3, hb3⟩
    rw [HV.out] at rw3
    obtain ⟨wa, wc, hwv, -⟩ := inrow_slice rw3
    subst hwv
    have RW3 : RowKit.Hid (InRow w3 _ (.slice wa V.length wc) V) := Lib.hid rw3
    have HB3 := Lib.hid (HB2.out.trans (hb3.mono HB2.out.size))
    have HT3 := Lib.hid (HT2.out.below hb3)
    clear hb3 HB2  HT2 rw3 RA
    go_wp2_with fail
    refine (toRowS _ _ _ c1 _ (G0.out.below HB3.out) hs).mono ?_
    rintro e w4 ⟨gx, hgx, rfl, rgx, hb4⟩
    have RX4 : RowKit.Hid (Cds w4 _ (some ⟨gx, 0, none⟩) n1 n1 c1) := Lib.hid rgx
    have hgx3 : w.heap.size ≤ w3.heap.size := HB3.out.size
    have hgxt : w.heap.size < w3.heap.size := cell_block_lt HT3.out.1
    have HGX := Lib.hid (show w.heap.size < gx by omega)
    have HB4 := Lib.hid (HB3.out.trans (hb4.mono HB3.out.size))
    have RW4 : RowKit.Hid (InRow w4 _ (.slice wa V.length wc) V) := Lib.hid (RW3.out.below hb4)
    have HT4 := Lib.hid (HT3.out.below hb4)
    clear hb4 HB3 RW3 HT3 rgx hgx hgx3 hgxt
    obtain ⟨t0, t1, t2, t3⟩ := id HT4.out
    go_wp2_with fail
    refine (toThrust _ _ _ _ _).mono ?_
    rintro e w5 ⟨rfl, hb5⟩
    clear t0 t1 t2 t3
    have HB5 := Lib.hid (HB4.out.trans (hb5.mono HB4.out.size))
    have RX5 : RowKit.Hid (Cds w5 _ (some ⟨gx, 0, none⟩) n1 n1 c1) := Lib.hid (RX4.out.below hb5)
    have RW5 : RowKit.Hid (InRow w5 _ (.slice wa V.length wc) V) := Lib.hid (RW4.out.below hb5)
    have HT5 := Lib.hid (HT4.out.below hb5)
    clear hb5 HB4 RX4 RW4 HT4 
    go_wp2_with fail
    refine (implJustMetBy _ _ _ _ _ _ _ _ _ c1 RX5.out hs).mono ?_
    rintro e w6 ⟨ug, rfl, rg, hb6⟩
    rw [HV.out] at rg
    obtain ⟨ya, yc, hyv, -⟩ := inrow_slice rg
    subst hyv
    have RG6 : RowKit.Hid (InRow w6 _ (.slice ya V.length yc) V) := Lib.hid rg
    have hyl := fun k hk => (World.ownsRow.lt rg k hk).1
    have DD3 : RowKit.Hid (∀ k, (Value.slice wa V.length wc).ownBlock = some k → some k ≠ (Value.slice ya V.length yc).ownBlock) := Lib.hid (own_later RW5.out hyl)
    have hsz := HB5.out.size
    have htz : w.heap.size < w5.heap.size := cell_block_lt HT5.out.1
    have DD4 : RowKit.Hid (∀ k, (Value.slice ya V.length yc).ownBlock = some k → w.heap.size < k) := Lib.hid (fun k hk => by have := hyl k hk; omega)
    have HB6 := Lib.hid (HB5.out.trans (hb6.mono HB5.out.size))
    have RX6 : RowKit.Hid (Cds w6 _ (some ⟨gx, 0, none⟩) n1 n1 c1) := Lib.hid (RX5.out.below hb6)
    have RW6 : RowKit.Hid (InRow w6 _ (.slice wa V.length wc) V) := Lib.hid (RW5.out.below hb6)
    have HT6 := Lib.hid (HT5.out.below hb6)
    clear hb6 HB5 RX5 RW5 HT5 rg hyl hsz htz
    go_wp2_with fail
    refine (eqIntS_same _ _ _ _ _ _ _ _ V ⟨RG6.out, rfl⟩ ⟨RW6.out, rfl⟩).mono ?_
    rintro e w7 ⟨rfl, hb7⟩
    have HB7 := Lib.hid (HB6.out.trans (hb7.mono HB6.out.size))
    have RX7 : RowKit.Hid (Cds w7 _ (some ⟨gx, 0, none⟩) n1 n1 c1) := Lib.hid (RX6.out.below hb7)
    have RW7 : RowKit.Hid (InRow w7 _ (.slice wa V.length wc) V) := Lib.hid (RW6.out.below hb7)
    have RG7 : RowKit.Hid (InRow w7 _ (.slice ya V.length yc) V) := Lib.hid (RG6.out.below hb7)
    have HT7 := Lib.hid (HT6.out.below hb7)
    clear hb7 HB6 RX6 RW6 RG6 HT6 
    go_wp2_with fail
    refine (toRowS _ _ _ c1 _ (G0.out.below HB7.out) hs).mono ?_
    rintro e w8 ⟨gz, hgz, rfl, rgz, hb8⟩
    have RZ := Lib.hid rgz
    have HB8 := Lib.hid (HB7.out.trans (hb8.mono HB7.out.size))
    have RX8 : RowKit.Hid (Cds w8 _ (some ⟨gx, 0, none⟩) n1 n1 c1) := Lib.hid (RX7.out.below hb8)
    have RW8 : RowKit.Hid (InRow w8 _ (.slice wa V.length wc) V) := Lib.hid (RW7.out.below hb8)
    have RG8 : RowKit.Hid (InRow w8 _ (.slice ya V.length yc) V) := Lib.hid (RG7.out.below hb8)
    have HT8 := Lib.hid (HT7.out.below hb8)
    clear hb8 HB7 RX7 RW7 RG7 HT7 rgz hgz
    go_wp2_with fail
    refine (eqRowS_same _ _ _ _ _ _ _ _ c1 RX8.out RZ.out).mono ?_
    rintro e w9 ⟨rfl, hb9⟩
    clear RZ
    have HB9 := Lib.hid (HB8.out.trans (hb9.mono HB8.out.size))
    have RX9 : RowKit.Hid (Cds w9 _ (some ⟨gx, 0, none⟩) n1 n1 c1) := Lib.hid (RX8.out.below hb9)
    have RW9 : RowKit.Hid (InRow w9 _ (.slice wa V.length wc) V) := Lib.hid (RW8.out.below hb9)
    have RG9 : RowKit.Hid (InRow w9 _ (.slice ya V.length yc) V) := Lib.hid (RG8.out.below hb9)
    have HT9 := Lib.hid (HT8.out.below hb9)
    clear hb9 HB8 RX8 RW8 RG8 HT8 
    go_wp2_with fail
    refine (markCds _ _ _ c1 RX9.out.1 (by have := HCL.out; omega)).mono ?_
    rintro e w10 ⟨rfl, -, z1, z2, z3, z4, z5⟩
    have hg10 : w9.grownBy w10 (Value.slice (some ⟨gx, 0, none⟩) n1 n1).ownBlock := ⟨z2, z3, z4, z1, z5⟩
    have RW10 : RowKit.Hid (InRow w10 _ (.slice wa V.length wc) V) := Lib.hid (World.ownsRow.kept RW9.out hg10 (own_other RW9.out RX9.out.1 (by decide)))
    have RG10 : RowKit.Hid (InRow w10 _ (.slice ya V.length yc) V) := Lib.hid (World.ownsRow.kept RG9.out hg10 (own_other RG9.out RX9.out.1 (by decide)))
    have HT10 : RowKit.Hid (TBox w10 w.heap.size jx0 jy0 jz0 ju0) := Lib.hid (by
      have hne : some w.heap.size ≠ (Value.slice (some ⟨gx, 0, none⟩) n1 n1).ownBlock := by have := HGX.out; simp [Value.ownBlock]; omega
      exact ⟨mark_kept HT9.out.1 hg10 hne, mark_kept HT9.out.2.1 hg10 hne, mark_kept HT9.out.2.2.1 hg10 hne, mark_kept HT9.out.2.2.2 hg10 hne⟩)
    have HB10 := Lib.hid (HB9.out.grown hg10 HB9.out.size (fun k hk => by have := HGX.out; simp [Value.ownBlock] at hk; omega))
    clear z1 z2 z3 z4 z5 hg10 RX9 RW9 RG9 HB9 HT9
    rw [HCL.out]
    obtain ⟨K, hK⟩ : ∃ K, K = 1 + 4 * (n1 : Int) := ⟨_, rfl⟩
    rw [← hK]
    have hK0 : ¬ K < 0 := by omega
    have hK1 : decide (K < 0) = false := decide_eq_false hK0
    clear hK
    go_wp2_with fail
    refine (eqIntS_same _ _ _ _ _ _ _ _ V ⟨RG10.out, rfl⟩ ⟨RW10.out, rfl⟩).mono ?_
    rintro e w11 ⟨rfl, hb11⟩
    have HB11 := Lib.hid (HB10.out.trans (hb11.mono HB10.out.size))
    have RW11 : RowKit.Hid (InRow w11 _ (.slice wa V.length wc) V) := Lib.hid (RW10.out.below hb11)
    have RG11 : RowKit.Hid (InRow w11 _ (.slice ya V.length yc) V) := Lib.hid (RG10.out.below hb11)
    have HT11 := Lib.hid (HT10.out.below hb11)
    clear hb11 HB10 RW10 RG10 HT10 
    go_wp2_with fail
    refine (markIns _ _ _ V RG11.out hvl).mono ?_
    rintro e w12 ⟨rfl, rgm, hg12⟩
    have RW12 : RowKit.Hid (InRow w12 _ (.slice wa V.length wc) V) := Lib.hid (mark_own RW11.out hg12 DD3.out)
    have RM12 : RowKit.Hid (InRow w12 _ (.slice ya V.length yc) (marksI 1 V.length)) := Lib.hid rgm
    have HT12 : RowKit.Hid (TBox w12 w.heap.size jx0 jy0 jz0 ju0) := Lib.hid (by
      have hne : some w.heap.size ≠ (Value.slice ya V.length yc).ownBlock := fun he => by have := DD4.out _ he.symm; omega
      exact ⟨mark_kept HT11.out.1 hg12 hne, mark_kept HT11.out.2.1 hg12 hne, mark_kept HT11.out.2.2.1 hg12 hne, mark_kept HT11.out.2.2.2 hg12 hne⟩)
    have HB12 := Lib.hid (HB11.out.grown hg12 HB11.out.size (fun k hk => by have := DD4.out k hk; omega))
    clear hg12 RW11 RG11 HB11 rgm HT11
    obtain ⟨M, hM⟩ : ∃ M, M = 1 + (V.length : Int) := ⟨_, rfl⟩
    have hM0 : ¬ M < 0 := by omega
    have hM1 : decide (M < 0) = false := decide_eq_false hM0
    have hMM : (M != M) = false := by simp
    have HMH := Lib.hid (fun w B (hr : InRow w B (.slice ya V.length yc) (marksI 1 V.length)) => heldIns w B V.length _ hr hvl)
    rw [← hM] at HMH ⊢
    clear hM
    go_wp2_with fail
    refine (HMH.out _ _ RM12.out).mono ?_
    rintro e w13 ⟨rfl, hb13⟩
    have HB13 := Lib.hid (HB12.out.trans (hb13.mono HB12.out.size))
    have RW13 : RowKit.Hid (InRow w13 _ (.slice wa V.length wc) V) := Lib.hid (RW12.out.below hb13)
    have RM13 : RowKit.Hid (InRow w13 _ (.slice ya V.length yc) (marksI 1 V.length)) := Lib.hid (RM12.out.below hb13)
    have HT13 := Lib.hid (HT12.out.below hb13)
    clear hb13 HB12 RW12 RM12 HT12 
    obtain ⟨t0, t1, t2, t3⟩ := id HT13.out
    go_wp2_with fail
    refine (toThrust _ _ _ _ _).mono ?_
    rintro e w14 ⟨rfl, hb14⟩
    clear t0 t1 t2 t3
    have HB14 := Lib.hid (HB13.out.trans (hb14.mono HB13.out.size))
    have RW14 : RowKit.Hid (InRow w14 _ (.slice wa V.length wc) V) := Lib.hid (RW13.out.below hb14)
    have RM14 : RowKit.Hid (InRow w14 _ (.slice ya V.length yc) (marksI 1 V.length)) := Lib.hid (RM13.out.below hb14)
    have HT14 := Lib.hid (HT13.out.below hb14)
    clear hb14 HB13 RW13 RM13 HT13 
    go_wp2_with fail
    refine (toRowS _ _ _ c1 _ (G0.out.below HB14.out) hs).mono ?_
    rintro e w15 ⟨gv, hgv, rfl, rgv, hb15⟩
    have RA := Lib.hid rgv
    have HB15 := Lib.hid (HB14.out.trans (hb15.mono HB14.out.size))
    have RW15 : RowKit.Hid (InRow w15 _ (.slice wa V.length wc) V) := Lib.hid (RW14.out.below hb15)
    have RM15 : RowKit.Hid (InRow w15 _ (.slice ya V.length yc) (marksI 1 V.length)) := Lib.hid (RM14.out.below hb15)
    have HT15 := Lib.hid (HT14.out.below hb15)
    clear hb15 HB14 RW14 RM14 HT14 rgv hgv
    go_wp2_with fail
    refine (implJustMetBy _ _ _ _ _ _ _ _ _ c1 RA.out hs).mono ?_
    rintro e w16 ⟨uh, rfl, rh, hb16⟩
    rw [HV.out] at rh
    obtain ⟨ha, hc, hhv, -⟩ := inrow_slice rh
    subst hhv
    have RH : RowKit.Hid (InRow w16 _ (.slice ha V.length hc) V) := Lib.hid rh
    clear rh RA
    have HB16 := Lib.hid (HB15.out.trans (hb16.mono HB15.out.size))
    have RW16 : RowKit.Hid (InRow w16 _ (.slice wa V.length wc) V) := Lib.hid (RW15.out.below hb16)
    have RM16 : RowKit.Hid (InRow w16 _ (.slice ya V.length yc) (marksI 1 V.length)) := Lib.hid (RM15.out.below hb16)
    have HT16 := Lib.hid (HT15.out.below hb16)
    clear hb16 HB15 RW15 RM15 HT15 
    go_wp2_with fail
    refine (eqIntS_same _ _ _ _ _ _ _ _ V ⟨RH.out, rfl⟩ ⟨RW16.out, rfl⟩).mono ?_
    rintro e w17 ⟨rfl, hb17⟩
    clear RH
    have HB17 := Lib.hid (HB16.out.trans (hb17.mono HB16.out.size))
    have RW17 : RowKit.Hid (InRow w17 _ (.slice wa V.length wc) V) := Lib.hid (RW16.out.below hb17)
    have RM17 : RowKit.Hid (InRow w17 _ (.slice ya V.length yc) (marksI 1 V.length)) := Lib.hid (RM16.out.below hb17)
    have HT17 := Lib.hid (HT16.out.below hb17)
    clear hb17 HB16 RW16 RM16 HT16 
    go_wp2_with fail
    refine (HMH.out _ _ RM17.out).mono ?_
    rintro e w18 ⟨rfl, hb18⟩
    have HB18 := Lib.hid (HB17.out.trans (hb18.mono HB17.out.size))
    clear hb18
    go_wp2_with fail
    go_ret
    exact ⟨rfl, HB18.out⟩
  · have HZ := Lib.hid (show szCd n1 1048576 = -1 by unfold szCd; rw [if_neg (by omega)])
    go_enter Try.func8, Try.ntmps8
    go_wp2_with fail
    refine (szRowS _ _ _ _ _ hm ⟨by omega, by omega⟩).mono ?_
    rintro e wq ⟨rfl, rfl⟩
    rw [HZ.out]
    go_wp2_with fail
    go_ret
    exact ⟨rfl, HB0.out⟩

/-! ### THE ROW's STEP -/
set_option maxRecDepth 100000 in
theorem lifted (os : Os) (started : os.Started) (H : Type) (enc : TypeId × Value → H) :
    ReturnsInHanded {} Try.checked os 8 .any (Rows.fnExactJustMetBySpec.pre6 enc Try.prog Try.f8 Rows.fnExactJustMetByRow.domain false) (Rows.fnExactJustMetBySpec.post enc Try.prog Try.f8 false true false false) := by
  refine returnsInHanded_of_change (C := Try.checked) own started (by kernel_rfl) Try.func8
    (ChangeSpec.witness6 (enc := enc) (C := Try.checked) false ⟨#[], #[.agg #[.int .i64 0, .int .i64 0, .int .i64 0, .int .i64 0], .slice none 0 0], []⟩ 8 (by kernel_rfl) (by kernel_rfl) (by kernel_rfl) (by kernel_rfl)) ?_
  intro W base args ds gs before hval0 hW hcnd _
  have hval : ∀ (j : Nat) t v, Try.f8.params[j]? = some t → args[j]? = some v → Value.okWide Try.prog W .any base t v := hval0
  have hW' := hW
  obtain ⟨p, q, hA0, hV, rfl, hfz, hnd⟩ := hW
  have hA : DataW.TrodAll enc Try.prog W 0 (fun _ => true) true Try.f8.params.toList args.toList ds p := hA0
  rw [Try.params8] at hA hval
  obtain ⟨v0, vs0, d0, ds0, p0, q0, hargs, rfl, rfl, h0, r0⟩ := trodAll_cons hA
  obtain ⟨v1, vs1, d1, ds1, p1, q1, rfl, rfl, rfl, h1, r1⟩ := trodAll_cons r0
  obtain ⟨rfl, rfl, rfl⟩ := trodAll_nil r1
  obtain rfl : args = #[v0, v1] := by cases args; simp_all
  obtain ⟨rfl, rfl⟩ := trodVars_none hV
  have k0 := h0
  have lt0 : ∀ x ∈ p0, x.block < W.heap.size := by obtain ⟨m, hm⟩ := k0; exact DataW.trod_lt m _ _ _ hm
  obtain ⟨jx0, jy0, jz0, ju0, rfl, g0⟩ := open_thrust (hval 0 52 v0 rfl rfl) h0
  have k1 := h1
  have lt1 : ∀ x ∈ p1, x.block < W.heap.size := by obtain ⟨m, hm⟩ := k1; exact DataW.trod_lt m _ _ _ hm
  obtain ⟨p1, n1, cap1, c1, rfl, g1⟩ := open_cds (hval 1 55 v1 rfl rfl) h1
  clear hA0 hval0
  refine (walk jx0 jy0 jz0 ju0 p1 n1 cap1 c1 W g0 g1).mono fun e W' ⟨he, bel⟩ => ?_
  subst he
  exact ⟨_, rfl, _, _, _, [], _, [], hW', trodAll_mk1 (shut_bool Try.underlying4 _), (trodAll_cons_mk (Below.trod laidOut (by kernel_rfl) (of_decide_eq_true (by kernel_rfl)) k0 bel lt0) (trodAll_cons_mk (Below.trod laidOut (by kernel_rfl) (of_decide_eq_true (by kernel_rfl)) k1 bel lt1) trodAll_mk0)), rfl, bel.frame _, fun h => by cases h⟩

theorem over : Rows.fnExactJustMetByRow.holds Try.pinned (OpenSpec.ofChange Rows.fnExactJustMetBySpec) :=
  OpenClaim.holds_of_wide 8 Try.f8 rfl rfl rfl rfl rfl rfl rfl ⟨rfl, rfl, rfl, rfl, rfl⟩ rfl rfl rfl rfl rfl (by kernel_rfl) Try.func8 (by kernel_rfl)
    (of_decide_eq_true (by kernel_rfl)) (by unfold Func.isWrapper; first | (rw [if_pos (by decide +kernel)]; kernel_rfl) | (rw [if_neg (by decide +kernel)]; exact ⟨rfl, rfl⟩))
    (fun os started H enc _ => lifted os started H enc)

/-- THE STATEMENT. -/
theorem proved : Rows.FnExactJustMetBySaid := over
#print axioms proved
end Go.Proofs.Ytdaiffaedejnbaa.fnExactJustMetBy
