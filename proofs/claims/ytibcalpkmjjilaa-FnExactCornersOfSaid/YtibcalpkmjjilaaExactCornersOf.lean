/- For every list of rows, FnExactCornersOf answers true: the program's CornersOf gives what the model's gives, in new memory, and writes into no argument. No condition. -/
import Derived.Test.YtibcalpkmjjilaaThreeM
import Derived.Test.YtibcalpkmjjilaaThreeN
import Derived.Test.YtibcalpkmjjilaaThK
import Derived.Test.YtibcalpkmjjilaaCdK
import Derived.Test.YtibcalpkmjjilaaRows
import Derived.WalkKit
import Derived.ProofKit
import Derived.OpenShut
import Derived.ShutString
import Derived.ChangeOld
import Derived.Below
namespace Go.Proofs.Ytibcalpkmjjilaa.fnExactCornersOf
set_option maxRecDepth 100000
open Go.ChangeShapes Go.WideShapes Go.ChangeAt Go.RowKit
open Go.ChangeMaps (open_string shut_string)
set_option linter.unusedVariables false

theorem own : ownKnob Try.prog.godebug = none := by kernel_rfl
theorem laidOut : laidOutB Try.prog = true := by kernel_rfl

theorem own_other {w : World} {B1 B2 s1 s2 n1 n2 : Nat} {e1 e2 : TypeId} {v1 v2 : Value} {xs1 xs2 : List Value} (h1 : w.ownsRow B1 e1 s1 v1 n1 xs1) (h2 : w.ownsRow B2 e2 s2 v2 n2 xs2) (he : e1 ≠ e2) : v1.ownBlock = none ∨ v1.ownBlock ≠ v2.ownBlock := by
  rcases h1.2 with ⟨rfl, -⟩ | ⟨g1, c1, cur1, rfl, -, hg1, -⟩
  · exact .inl rfl
  · right
    rcases h2.2 with ⟨rfl, -⟩ | ⟨g2, c2, cur2, rfl, -, hg2, -⟩
    · simp [Value.ownBlock]
    · intro h
      simp [Value.ownBlock] at h
      subst h
      rw [hg1] at hg2
      simp at hg2
      exact he hg2.2
theorem mark_kept {w w' : World} {b o : Nat} {u : Value} {row : Option Nat} (hc : w.cell? ⟨b, o, none⟩ = some u) (hg : w.grownBy w' row) (hne : some b ≠ row) : w'.cell? ⟨b, o, none⟩ = some u :=
  (World.grownBy.cell_far hg ⟨b, o, none⟩ (cell_block_lt hc) hne).trans hc
theorem mark_own {w w' : World} {B n size : Nat} {e : TypeId} {v : Value} {xs : List Value} {row : Option Nat} (h : w.ownsRow B e size v n xs) (hg : w.grownBy w' row) (hne : ∀ k, v.ownBlock = some k → some k ≠ row) : w'.ownsRow B e size v n xs :=
  World.ownsRow.kept h hg (by
    cases hv : v.ownBlock with
    | none => exact .inl rfl
    | some k => exact .inr (hne k hv))
/-- A list that was made behind another row lies in another block. -/
theorem own_later {w : World} {B n size : Nat} {e : TypeId} {v u : Value} {xs : List Value} (h : w.ownsRow B e size v n xs) (hu : ∀ k, u.ownBlock = some k → w.heap.size ≤ k) : ∀ k, v.ownBlock = some k → some k ≠ u.ownBlock := fun k hk he => by
  have h1 := (World.ownsRow.lt h k hk).2
  have h2 := hu k he.symm
  omega

/-! ### THE WALK: the Go text returns true, and writes nothing that was there. -/
set_option maxRecDepth 100000 in
set_option maxHeartbeats 4000000 in
theorem walk (p0 : Option Addr) (n0 cap0 : Nat) (c0 : List Cd) (w : World) (g0 : InCds w p0 n0 cap0 c0) :
    Calls Try.prog 4 #[.slice p0 n0 cap0] w fun e w' => e = .returned (.bool true) ∧ Below w.heap.size w w' := by
  have hm : n0 ≤ maxLen := Nat.le_trans g0.2.1 g0.2.2.1
  have hcl := g0.1
  have G0 := Lib.hid g0
  have HCL := Lib.hid hcl
  clear g0 hcl
  have HB0 := Lib.hid (Below.refl w.heap.size w)
  by_cases hs : n0 ≤ 1048576
  · have HZ := Lib.hid (show szCd n0 1048576 = 1048576 - (n0 : Int) by unfold szCd; rw [if_pos (by omega)])
    have hvl : (coV c0).length ≤ 1048576 := Nat.le_trans (coV_len c0) (by omega)
    generalize hV : (coV c0) = V at *
    have HV := Lib.hid hV
    clear hV
    go_enter Try.func4, Try.ntmps4
    go_wp2_with fail
    refine (szRowS _ _ _ _ _ hm ⟨by omega, by omega⟩).mono ?_
    rintro e wq ⟨rfl, rfl⟩
    rw [HZ.out]
    go_wp2_with fail
    refine (toRowS _ _ _ c0 _ (G0.out.below HB0.out) hs).mono ?_
    rintro e w2 ⟨ga, hga, rfl, rga, hb2⟩
    have RA := Lib.hid rga
    have HB2 := Lib.hid (HB0.out.trans (hb2.mono HB0.out.size))
    clear hb2 HB0  rga hga
    go_wp2_with fail
    refine (specCornersOf _ _ _ _ _ c0 RA.out).mono ?_
    rintro e w3 ⟨uw, rfl, rw3, hb3⟩
    rw [HV.out] at rw3
    obtain ⟨wa, wc, hwv, -⟩ := throw_slice rw3
    subst hwv
    have RW3 : RowKit.Hid (ThRow w3 _ (.slice wa V.length wc) V) := Lib.hid rw3
    have HB3 := Lib.hid (HB2.out.trans (hb3.mono HB2.out.size))
    clear hb3 HB2  rw3 RA
    go_wp2_with fail
    refine (toRowS _ _ _ c0 _ (G0.out.below HB3.out) hs).mono ?_
    rintro e w4 ⟨gx, hgx, rfl, rgx, hb4⟩
    have RX4 : RowKit.Hid (Cds w4 _ (some ⟨gx, 0, none⟩) n0 n0 c0) := Lib.hid rgx
    have hgx3 : w.heap.size ≤ w3.heap.size := HB3.out.size
    have HGX := Lib.hid (show w.heap.size ≤ gx by omega)
    have HB4 := Lib.hid (HB3.out.trans (hb4.mono HB3.out.size))
    have RW4 : RowKit.Hid (ThRow w4 _ (.slice wa V.length wc) V) := Lib.hid (RW3.out.below hb4)
    clear hb4 HB3 RW3 rgx hgx hgx3
    go_wp2_with fail
    refine (implCornersOf _ _ _ _ _ c0 RX4.out).mono ?_
    rintro e w6 ⟨ug, rfl, rg, hb6⟩
    rw [HV.out] at rg
    obtain ⟨ya, yc, hyv, -⟩ := throw_slice rg
    subst hyv
    have RG6 : RowKit.Hid (ThRow w6 _ (.slice ya V.length yc) V) := Lib.hid rg
    have hyl := fun k hk => (World.ownsRow.lt rg k hk).1
    have DD3 : RowKit.Hid (∀ k, (Value.slice wa V.length wc).ownBlock = some k → some k ≠ (Value.slice ya V.length yc).ownBlock) := Lib.hid (own_later RW4.out hyl)
    have hsz := HB4.out.size
    have DD4 : RowKit.Hid (∀ k, (Value.slice ya V.length yc).ownBlock = some k → w.heap.size ≤ k) := Lib.hid (fun k hk => by have := hyl k hk; omega)
    have HB6 := Lib.hid (HB4.out.trans (hb6.mono HB4.out.size))
    have RX6 : RowKit.Hid (Cds w6 _ (some ⟨gx, 0, none⟩) n0 n0 c0) := Lib.hid (RX4.out.below hb6)
    have RW6 : RowKit.Hid (ThRow w6 _ (.slice wa V.length wc) V) := Lib.hid (RW4.out.below hb6)
    clear hb6 HB4 RX4 RW4 rg hyl hsz
    go_wp2_with fail
    refine (eqThrustS_same _ _ _ _ _ _ _ _ V ⟨RG6.out, rfl⟩ ⟨RW6.out, rfl⟩).mono ?_
    rintro e w7 ⟨rfl, hb7⟩
    have HB7 := Lib.hid (HB6.out.trans (hb7.mono HB6.out.size))
    have RX7 : RowKit.Hid (Cds w7 _ (some ⟨gx, 0, none⟩) n0 n0 c0) := Lib.hid (RX6.out.below hb7)
    have RW7 : RowKit.Hid (ThRow w7 _ (.slice wa V.length wc) V) := Lib.hid (RW6.out.below hb7)
    have RG7 : RowKit.Hid (ThRow w7 _ (.slice ya V.length yc) V) := Lib.hid (RG6.out.below hb7)
    clear hb7 HB6 RX6 RW6 RG6 
    go_wp2_with fail
    refine (toRowS _ _ _ c0 _ (G0.out.below HB7.out) hs).mono ?_
    rintro e w8 ⟨gz, hgz, rfl, rgz, hb8⟩
    have RZ := Lib.hid rgz
    have HB8 := Lib.hid (HB7.out.trans (hb8.mono HB7.out.size))
    have RX8 : RowKit.Hid (Cds w8 _ (some ⟨gx, 0, none⟩) n0 n0 c0) := Lib.hid (RX7.out.below hb8)
    have RW8 : RowKit.Hid (ThRow w8 _ (.slice wa V.length wc) V) := Lib.hid (RW7.out.below hb8)
    have RG8 : RowKit.Hid (ThRow w8 _ (.slice ya V.length yc) V) := Lib.hid (RG7.out.below hb8)
    clear hb8 HB7 RX7 RW7 RG7 rgz hgz
    go_wp2_with fail
    refine (eqRowS_same _ _ _ _ _ _ _ _ c0 RX8.out RZ.out).mono ?_
    rintro e w9 ⟨rfl, hb9⟩
    clear RZ
    have HB9 := Lib.hid (HB8.out.trans (hb9.mono HB8.out.size))
    have RX9 : RowKit.Hid (Cds w9 _ (some ⟨gx, 0, none⟩) n0 n0 c0) := Lib.hid (RX8.out.below hb9)
    have RW9 : RowKit.Hid (ThRow w9 _ (.slice wa V.length wc) V) := Lib.hid (RW8.out.below hb9)
    have RG9 : RowKit.Hid (ThRow w9 _ (.slice ya V.length yc) V) := Lib.hid (RG8.out.below hb9)
    clear hb9 HB8 RX8 RW8 RG8 
    go_wp2_with fail
    refine (markCds _ _ _ c0 RX9.out.1 (by have := HCL.out; omega)).mono ?_
    rintro e w10 ⟨rfl, -, z1, z2, z3, z4, z5⟩
    have hg10 : w9.grownBy w10 (Value.slice (some ⟨gx, 0, none⟩) n0 n0).ownBlock := ⟨z2, z3, z4, z1, z5⟩
    have RW10 : RowKit.Hid (ThRow w10 _ (.slice wa V.length wc) V) := Lib.hid (World.ownsRow.kept RW9.out hg10 (own_other RW9.out RX9.out.1 (by decide)))
    have RG10 : RowKit.Hid (ThRow w10 _ (.slice ya V.length yc) V) := Lib.hid (World.ownsRow.kept RG9.out hg10 (own_other RG9.out RX9.out.1 (by decide)))
    have HB10 := Lib.hid (HB9.out.grown hg10 HB9.out.size (fun k hk => by have := HGX.out; simp [Value.ownBlock] at hk; omega))
    clear z1 z2 z3 z4 z5 hg10 RX9 RW9 RG9 HB9
    rw [HCL.out]
    obtain ⟨K, hK⟩ : ∃ K, K = 1 + 4 * (n0 : Int) := ⟨_, rfl⟩
    rw [← hK]
    have hK0 : ¬ K < 0 := by omega
    have hK1 : decide (K < 0) = false := decide_eq_false hK0
    clear hK
    go_wp2_with fail
    refine (eqThrustS_same _ _ _ _ _ _ _ _ V ⟨RG10.out, rfl⟩ ⟨RW10.out, rfl⟩).mono ?_
    rintro e w11 ⟨rfl, hb11⟩
    have HB11 := Lib.hid (HB10.out.trans (hb11.mono HB10.out.size))
    have RW11 : RowKit.Hid (ThRow w11 _ (.slice wa V.length wc) V) := Lib.hid (RW10.out.below hb11)
    have RG11 : RowKit.Hid (ThRow w11 _ (.slice ya V.length yc) V) := Lib.hid (RG10.out.below hb11)
    clear hb11 HB10 RW10 RG10 
    go_wp2_with fail
    refine (markThs _ _ _ V RG11.out hvl).mono ?_
    rintro e w12 ⟨rfl, rgm, z1, z2, z3, z4, z5⟩
    have hg12 : w11.grownBy w12 (Value.slice ya V.length yc).ownBlock := ⟨z2, z3, z4, z1, z5⟩
    clear z1 z2 z3 z4 z5
    have RW12 : RowKit.Hid (ThRow w12 _ (.slice wa V.length wc) V) := Lib.hid (mark_own RW11.out hg12 DD3.out)
    have RM12 : RowKit.Hid (ThRow w12 _ (.slice ya V.length yc) (marks4 1 V.length)) := Lib.hid rgm
    have HB12 := Lib.hid (HB11.out.grown hg12 HB11.out.size (fun k hk => by have := DD4.out k hk; omega))
    clear hg12 RW11 RG11 HB11 rgm
    obtain ⟨M, hM⟩ : ∃ M, M = 1 + 4 * (V.length : Int) := ⟨_, rfl⟩
    have hM0 : ¬ M < 0 := by omega
    have hM1 : decide (M < 0) = false := decide_eq_false hM0
    have hMM : (M != M) = false := by simp
    have HMH := Lib.hid (fun w B (hr : ThRow w B (.slice ya V.length yc) (marks4 1 V.length)) => heldThs w B V.length _ hr hvl)
    rw [← hM] at HMH ⊢
    clear hM
    go_wp2_with fail
    refine (HMH.out _ _ RM12.out).mono ?_
    rintro e wq ⟨rfl, rfl⟩
    go_wp2_with fail
    refine (toRowS _ _ _ c0 _ (G0.out.below HB12.out) hs).mono ?_
    rintro e w15 ⟨gv, hgv, rfl, rgv, hb15⟩
    have RA := Lib.hid rgv
    have HB15 := Lib.hid (HB12.out.trans (hb15.mono HB12.out.size))
    have RW15 : RowKit.Hid (ThRow w15 _ (.slice wa V.length wc) V) := Lib.hid (RW12.out.below hb15)
    have RM15 : RowKit.Hid (ThRow w15 _ (.slice ya V.length yc) (marks4 1 V.length)) := Lib.hid (RM12.out.below hb15)
    clear hb15 HB12 RW12 RM12 rgv hgv
    go_wp2_with fail
    refine (implCornersOf _ _ _ _ _ c0 RA.out).mono ?_
    rintro e w16 ⟨uh, rfl, rh, hb16⟩
    rw [HV.out] at rh
    obtain ⟨ha, hc, hhv, -⟩ := throw_slice rh
    subst hhv
    have RH : RowKit.Hid (ThRow w16 _ (.slice ha V.length hc) V) := Lib.hid rh
    clear rh RA
    have HB16 := Lib.hid (HB15.out.trans (hb16.mono HB15.out.size))
    have RW16 : RowKit.Hid (ThRow w16 _ (.slice wa V.length wc) V) := Lib.hid (RW15.out.below hb16)
    have RM16 : RowKit.Hid (ThRow w16 _ (.slice ya V.length yc) (marks4 1 V.length)) := Lib.hid (RM15.out.below hb16)
    clear hb16 HB15 RW15 RM15 
    go_wp2_with fail
    refine (eqThrustS_same _ _ _ _ _ _ _ _ V ⟨RH.out, rfl⟩ ⟨RW16.out, rfl⟩).mono ?_
    rintro e w17 ⟨rfl, hb17⟩
    clear RH
    have HB17 := Lib.hid (HB16.out.trans (hb17.mono HB16.out.size))
    have RW17 : RowKit.Hid (ThRow w17 _ (.slice wa V.length wc) V) := Lib.hid (RW16.out.below hb17)
    have RM17 : RowKit.Hid (ThRow w17 _ (.slice ya V.length yc) (marks4 1 V.length)) := Lib.hid (RM16.out.below hb17)
    clear hb17 HB16 RW16 RM16 
    go_wp2_with fail
    refine (HMH.out _ _ RM17.out).mono ?_
    rintro e wq ⟨rfl, rfl⟩
    go_wp2_with fail
    go_ret
    exact ⟨rfl, HB17.out⟩
  · have HZ := Lib.hid (show szCd n0 1048576 = -1 by unfold szCd; rw [if_neg (by omega)])
    go_enter Try.func4, Try.ntmps4
    go_wp2_with fail
    refine (szRowS _ _ _ _ _ hm ⟨by omega, by omega⟩).mono ?_
    rintro e wq ⟨rfl, rfl⟩
    rw [HZ.out]
    go_wp2_with fail
    go_ret
    exact ⟨rfl, HB0.out⟩

/-! ### THE ROW's STEP -/
set_option maxRecDepth 100000 in
theorem lifted (os : Os) (started : os.Started) (H : Type) (enc : TypeId × Value → H) :
    ReturnsInHanded {} Try.checked os 4 .any (Rows.fnExactCornersOfSpec.pre6 enc Try.prog Try.f4 Rows.fnExactCornersOfRow.domain false) (Rows.fnExactCornersOfSpec.post enc Try.prog Try.f4 false true false false) := by
  refine returnsInHanded_of_change (C := Try.checked) own started (by kernel_rfl) Try.func4
    (ChangeSpec.witness6 (enc := enc) (C := Try.checked) false ⟨#[], #[.slice none 0 0], []⟩ 8 (by kernel_rfl) (by kernel_rfl) (by kernel_rfl) (by kernel_rfl)) ?_
  intro W base args ds gs before hval0 hW hcnd _
  have hval : ∀ (j : Nat) t v, Try.f4.params[j]? = some t → args[j]? = some v → Value.okWide Try.prog W .any base t v := hval0
  have hW' := hW
  obtain ⟨p, q, hA0, hV, rfl, hfz, hnd⟩ := hW
  have hA : DataW.TrodAll enc Try.prog W 0 (fun _ => true) true Try.f4.params.toList args.toList ds p := hA0
  rw [Try.params4] at hA hval
  obtain ⟨v0, vs0, d0, ds0, p0, q0, hargs, rfl, rfl, h0, r0⟩ := trodAll_cons hA
  obtain ⟨rfl, rfl, rfl⟩ := trodAll_nil r0
  obtain rfl : args = #[v0] := by cases args; simp_all
  obtain ⟨rfl, rfl⟩ := trodVars_none hV
  have k0 := h0
  have lt0 : ∀ x ∈ p0, x.block < W.heap.size := by obtain ⟨m, hm⟩ := k0; exact DataW.trod_lt m _ _ _ hm
  obtain ⟨p0, n0, cap0, c0, rfl, g0⟩ := open_cds (hval 0 48 v0 rfl rfl) h0
  clear hA0 hval0
  refine (walk p0 n0 cap0 c0 W g0).mono fun e W' ⟨he, bel⟩ => ?_
  subst he
  exact ⟨_, rfl, _, _, _, [], _, [], hW', trodAll_mk1 (shut_bool Try.underlying4 _), (trodAll_cons_mk (Below.trod laidOut (by kernel_rfl) (of_decide_eq_true (by kernel_rfl)) k0 bel lt0) trodAll_mk0), rfl, bel.frame _, fun h => by cases h⟩

theorem over : Rows.fnExactCornersOfRow.holds Try.pinned (OpenSpec.ofChange Rows.fnExactCornersOfSpec) :=
  OpenClaim.holds_of_wide 4 Try.f4 rfl rfl rfl rfl rfl rfl rfl ⟨rfl, rfl, rfl, rfl, rfl⟩ rfl rfl rfl rfl rfl (by kernel_rfl) Try.func4 (by kernel_rfl)
    (of_decide_eq_true (by kernel_rfl)) (by unfold Func.isWrapper; first | (rw [if_pos (by decide +kernel)]; kernel_rfl) | (rw [if_neg (by decide +kernel)]; exact ⟨rfl, rfl⟩))
    (fun os started H enc _ => lifted os started H enc)

/-- THE STATEMENT. -/
theorem proved : Rows.FnExactCornersOfSaid := over
#print axioms proved
end Go.Proofs.Ytibcalpkmjjilaa.fnExactCornersOf
