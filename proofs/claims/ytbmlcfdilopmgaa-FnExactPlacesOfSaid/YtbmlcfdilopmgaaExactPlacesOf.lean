/- For every arch, loads and thrust, FnExactPlacesOf answers true: the program's PlacesOf gives what the model's gives, in new memory, and writes into no argument. -/
import Derived.Test.YtbmlcfdilopmgaaGLine
import Derived.Test.YtbmlcfdilopmgaaLineS
import Derived.Test.YtbmlcfdilopmgaaIntSS
import Derived.Test.YtbmlcfdilopmgaaGArch
import Derived.Test.YtbmlcfdilopmgaaGLoad
import Derived.Test.YtbmlcfdilopmgaaRows
import Derived.WalkKit
import Derived.ProofKit
import Derived.OpenShut
import Derived.ShutString
import Derived.ChangeOld
import Derived.Below
namespace Go.Proofs.Ytbmlcfdilopmgaa.fnExactPlacesOf
set_option maxRecDepth 100000
open Go.ChangeShapes Go.WideShapes Go.ChangeAt Go.RowKit
open Go.ChangeMaps (open_string shut_string)
set_option linter.unusedVariables false

theorem own : ownKnob Try.prog.godebug = none := by kernel_rfl
theorem laidOut : laidOutB Try.prog = true := by kernel_rfl

theorem mark_kept {w w' : World} {b o : Nat} {u : Value} {row : Option Nat} (hc : w.cell? ⟨b, o, none⟩ = some u) (hg : w.grownBy w' row) (hne : some b ≠ row) : w'.cell? ⟨b, o, none⟩ = some u :=
  (World.grownBy.cell_far hg ⟨b, o, none⟩ (cell_block_lt hc) hne).trans hc
theorem mark_other {w w' : World} {B1 B2 s1 s2 n1 n2 : Nat} {e1 e2 : TypeId} {v1 v2 : Value} {xs1 xs2 : List Value} (h1 : w.ownsRow B1 e1 s1 v1 n1 xs1) (h2 : w.ownsRow B2 e2 s2 v2 n2 xs2) (he : e1 ≠ e2) (hg : w.grownBy w' v2.ownBlock) : w'.ownsRow B1 e1 s1 v1 n1 xs1 :=
  World.ownsRow.kept h1 hg (own_two h1 h2 he)
theorem low_kept {w w' : World} {b o B : Nat} {u : Value} (hc : w.cell? ⟨b, o, none⟩ = some u) (hb : Below B w w') (h : b < B) : w'.cell? ⟨b, o, none⟩ = some u := (hb.cell (p := ⟨b, o, none⟩) h).trans hc

/-! ### THE WALK: the Go text returns true, and writes nothing that was there. -/
set_option maxRecDepth 100000 in
set_option maxHeartbeats 8000000 in
theorem walk (p0 : Option Addr) (n0 cap0 : Nat) (c0 : List Jt) (p1 : Option Addr) (n1 cap1 : Nat) (c1 : List Ld) (jx2 jy2 jz2 ju2 : Int) (w : World) (g0 : InJts w p0 n0 cap0 c0) (g1 : InLds w p1 n1 cap1 c1) (g2 : I64 jx2 ∧ I64 jy2 ∧ I64 jz2 ∧ I64 ju2) :
    Calls Try.prog 4 #[.agg #[.slice p0 n0 cap0], .slice p1 n1 cap1, .agg #[.int .i64 jx2, .int .i64 jy2, .int .i64 jz2, .int .i64 ju2]] w fun e w' => e = .returned (.bool true) ∧ Below w.heap.size w w' := by
  have hm : n0 ≤ maxLen := Nat.le_trans g0.2.1 g0.2.2.1
  have hm1 : n1 ≤ maxLen := Nat.le_trans g1.2.1 g1.2.2.1
  have hcl := g0.1
  have hcl1 := g1.1
  have G0 := Lib.hid g0
  have G1 := Lib.hid g1
  have HCL := Lib.hid hcl
  have HCL1 := Lib.hid hcl1
  clear g0 g1 hcl hcl1
  have HS := Lib.hid (fun (hs : n0 ≤ 1048576) (W : World) (B B2 g cap : Nat) (la : Option Addr) (m lc : Nat) hr hl => specPlacesOf W B B2 g cap n0 la m lc c0 c1 jx2 jy2 jz2 ju2 hr HCL.out hs hl)
  have HI := Lib.hid (fun (W : World) (B B2 g cap : Nat) (la : Option Addr) (m lc : Nat) hr hl => implPlacesOf W B B2 g cap n0 la m lc c0 c1 jx2 jy2 jz2 ju2 hr HCL.out hl)
  have hvl : (lineV c0 c1 jx2 jy2 jz2 ju2).length ≤ 1048576 := (by have := lineV_small c0 c1 jx2 jy2 jz2 ju2; omega)
  generalize (lineV c0 c1 jx2 jy2 jz2 ju2) = V at HS HI hvl
  have hb0 := ((Below.refl w.heap.size w).alloc (Nat.le_refl _) (.cells #[.slice p0 n0 cap0] 46)).alloc (by simp) (.cells #[.int .i64 jx2, .int .i64 jy2, .int .i64 jz2, .int .i64 ju2] 48)
  have HB0 := Lib.hid hb0
  have s0 : ((w.alloc (.cells #[.slice p0 n0 cap0] 46)).alloc (.cells #[.int .i64 jx2, .int .i64 jy2, .int .i64 jz2, .int .i64 ju2] 48)).cell? ⟨w.heap.size, 0, none⟩ = some (.slice p0 n0 cap0) := by go_simp
  have ta0 : ((w.alloc (.cells #[.slice p0 n0 cap0] 46)).alloc (.cells #[.int .i64 jx2, .int .i64 jy2, .int .i64 jz2, .int .i64 ju2] 48)).cell? ⟨w.heap.size + 1, 0, none⟩ = some (.int .i64 jx2) := by go_simp
  have tb0 : ((w.alloc (.cells #[.slice p0 n0 cap0] 46)).alloc (.cells #[.int .i64 jx2, .int .i64 jy2, .int .i64 jz2, .int .i64 ju2] 48)).cell? ⟨w.heap.size + 1, 1, none⟩ = some (.int .i64 jy2) := by go_simp
  have tc0 : ((w.alloc (.cells #[.slice p0 n0 cap0] 46)).alloc (.cells #[.int .i64 jx2, .int .i64 jy2, .int .i64 jz2, .int .i64 ju2] 48)).cell? ⟨w.heap.size + 1, 2, none⟩ = some (.int .i64 jz2) := by go_simp
  have td0 : ((w.alloc (.cells #[.slice p0 n0 cap0] 46)).alloc (.cells #[.int .i64 jx2, .int .i64 jy2, .int .i64 jz2, .int .i64 ju2] 48)).cell? ⟨w.heap.size + 1, 3, none⟩ = some (.int .i64 ju2) := by go_simp
  clear hb0
  by_cases hs : n0 ≤ 1048576
  · have HZ := Lib.hid (show szJ n0 = 1048576 - (n0 : Int) by unfold szJ; rw [if_pos hs])
    by_cases ht : (n1 : Int) ≤ 1048576 - (n0 : Int)
    · have HY := Lib.hid (show szL n1 (1048576 - (n0 : Int)) = 1048576 - (n0 : Int) - (n1 : Int) by unfold szL; rw [if_pos ht])
      have ht1 : n1 ≤ 1048576 := by omega
      go_enter Try.func4, Try.ntmps4
      go_wp2_with fail
      refine (szArch _ _ _ _ hm).mono ?_
      rintro e w1 ⟨rfl, hb1⟩
      rw [HZ.out]
      have HB1 : RowKit.Hid (Below w.heap.size w w1) := Lib.hid (by first | exact HB0.out.trans (hb1.mono HB0.out.size) | exact below_after HB0.out hb1)
      have s1 : w1.cell? ⟨w.heap.size, 0, none⟩ = some (.slice p0 n0 cap0) := (by first | exact cell_kept s0 hb1 | exact cell_after s0 hb1)
      have ta1 : w1.cell? ⟨w.heap.size + 1, 0, none⟩ = some (.int .i64 jx2) := (by first | exact cell_kept ta0 hb1 | exact cell_after ta0 hb1)
      have tb1 : w1.cell? ⟨w.heap.size + 1, 1, none⟩ = some (.int .i64 jy2) := (by first | exact cell_kept tb0 hb1 | exact cell_after tb0 hb1)
      have tc1 : w1.cell? ⟨w.heap.size + 1, 2, none⟩ = some (.int .i64 jz2) := (by first | exact cell_kept tc0 hb1 | exact cell_after tc0 hb1)
      have td1 : w1.cell? ⟨w.heap.size + 1, 3, none⟩ = some (.int .i64 ju2) := (by first | exact cell_kept td0 hb1 | exact cell_after td0 hb1)
      clear hb1 s0 ta0 tb0 tc0 td0 HB0 
      go_wp2_with fail
      refine (szLoadS _ _ _ _ _ hm1 ⟨by omega, by omega⟩).mono ?_
      rintro e wq ⟨rfl, rfl⟩
      rw [HY.out]
      go_wp2_with fail
      go_region_held3 (fun w' => w'.cell? ⟨w.heap.size, 0, none⟩ = some (.slice p0 n0 cap0) ∧ w'.cell? ⟨w.heap.size + 1, 0, none⟩ = some (.int .i64 jx2) ∧ w'.cell? ⟨w.heap.size + 1, 1, none⟩ = some (.int .i64 jy2) ∧ w'.cell? ⟨w.heap.size + 1, 2, none⟩ = some (.int .i64 jz2) ∧ w'.cell? ⟨w.heap.size + 1, 3, none⟩ = some (.int .i64 ju2))
        (first | go_keep | trivial)
        (first
          | (go_at_call 18; refine (toArch _ _ _ c0 _ (G0.out.below (by first | exact HB1.out | exact below_drewN HB1.out _)) hs).mono ?_; rintro e w2 ⟨ga, -, rfl, ra, hb2⟩; have HB2 : RowKit.Hid (Below w.heap.size w w2) := Lib.hid (by first | exact HB1.out.trans (hb2.mono HB1.out.size) | exact below_after HB1.out hb2); have s2 : w2.cell? ⟨w.heap.size, 0, none⟩ = some (.slice p0 n0 cap0) := (by first | exact cell_kept s1 hb2 | exact cell_after s1 hb2); have ta2 : w2.cell? ⟨w.heap.size + 1, 0, none⟩ = some (.int .i64 jx2) := (by first | exact cell_kept ta1 hb2 | exact cell_after ta1 hb2); have tb2 : w2.cell? ⟨w.heap.size + 1, 1, none⟩ = some (.int .i64 jy2) := (by first | exact cell_kept tb1 hb2 | exact cell_after tb1 hb2); have tc2 : w2.cell? ⟨w.heap.size + 1, 2, none⟩ = some (.int .i64 jz2) := (by first | exact cell_kept tc1 hb2 | exact cell_after tc1 hb2); have td2 : w2.cell? ⟨w.heap.size + 1, 3, none⟩ = some (.int .i64 ju2) := (by first | exact cell_kept td1 hb2 | exact cell_after td1 hb2); have RA2 := Lib.hid ra; clear ra hb2)
          | (go_at_call 19; refine (toLoadS _ _ _ c1 _ (G1.out.below (by first | exact HB2.out | exact below_drewN HB2.out _)) ht1).mono ?_; rintro e w3 ⟨gb, -, rfl, rb, hb3⟩; have HB3 : RowKit.Hid (Below w.heap.size w w3) := Lib.hid (by first | exact HB2.out.trans (hb3.mono HB2.out.size) | exact below_after HB2.out hb3); have s3 : w3.cell? ⟨w.heap.size, 0, none⟩ = some (.slice p0 n0 cap0) := (by first | exact cell_kept s2 hb3 | exact cell_after s2 hb3); have ta3 : w3.cell? ⟨w.heap.size + 1, 0, none⟩ = some (.int .i64 jx2) := (by first | exact cell_kept ta2 hb3 | exact cell_after ta2 hb3); have tb3 : w3.cell? ⟨w.heap.size + 1, 1, none⟩ = some (.int .i64 jy2) := (by first | exact cell_kept tb2 hb3 | exact cell_after tb2 hb3); have tc3 : w3.cell? ⟨w.heap.size + 1, 2, none⟩ = some (.int .i64 jz2) := (by first | exact cell_kept tc2 hb3 | exact cell_after tc2 hb3); have td3 : w3.cell? ⟨w.heap.size + 1, 3, none⟩ = some (.int .i64 ju2) := (by first | exact cell_kept td2 hb3 | exact cell_after td2 hb3); have RA3 : RowKit.Hid (JRowAt w3 _ ga n0 c0) := Lib.hid (by first | exact JRowAt.below RA2.out hb3 | exact JRowAt.after RA2.out hb3); have RB3 := Lib.hid rb; clear rb hb3)
          | (go_at_call 20; refine (toThrust _ _ _ _ _).mono ?_; rintro e w4 ⟨rfl, hb4⟩; have HB4 : RowKit.Hid (Below w.heap.size w w4) := Lib.hid (by first | exact HB3.out.trans (hb4.mono HB3.out.size) | exact below_after HB3.out hb4); have s4 : w4.cell? ⟨w.heap.size, 0, none⟩ = some (.slice p0 n0 cap0) := (by first | exact cell_kept s3 hb4 | exact cell_after s3 hb4); have ta4 : w4.cell? ⟨w.heap.size + 1, 0, none⟩ = some (.int .i64 jx2) := (by first | exact cell_kept ta3 hb4 | exact cell_after ta3 hb4); have tb4 : w4.cell? ⟨w.heap.size + 1, 1, none⟩ = some (.int .i64 jy2) := (by first | exact cell_kept tb3 hb4 | exact cell_after tb3 hb4); have tc4 : w4.cell? ⟨w.heap.size + 1, 2, none⟩ = some (.int .i64 jz2) := (by first | exact cell_kept tc3 hb4 | exact cell_after tc3 hb4); have td4 : w4.cell? ⟨w.heap.size + 1, 3, none⟩ = some (.int .i64 ju2) := (by first | exact cell_kept td3 hb4 | exact cell_after td3 hb4); have RA4 : RowKit.Hid (JRowAt w4 _ ga n0 c0) := Lib.hid (by first | exact JRowAt.below RA3.out hb4 | exact JRowAt.after RA3.out hb4); have RB4 : RowKit.Hid (Lds w4 _ (some ⟨gb, 0, none⟩) n1 n1 c1) := Lib.hid (by first | exact RB3.out.below hb4 | exact ⟨RB3.out.1.after hb4, RB3.out.2⟩); clear hb4)
          | (go_at_call 17; refine (HS.out hs _ _ _ _ _ _ _ _ RA4.out RB4.out).mono ?_; rintro e wv ⟨uw, rfl, rw4, hbv⟩; have HBv : RowKit.Hid (Below w.heap.size w wv) := Lib.hid (by first | exact HB4.out.trans (hbv.mono HB4.out.size) | exact below_after HB4.out hbv); have sv : wv.cell? ⟨w.heap.size, 0, none⟩ = some (.slice p0 n0 cap0) := (by first | exact cell_kept s4 hbv | exact cell_after s4 hbv); have tav : wv.cell? ⟨w.heap.size + 1, 0, none⟩ = some (.int .i64 jx2) := (by first | exact cell_kept ta4 hbv | exact cell_after ta4 hbv); have tbv : wv.cell? ⟨w.heap.size + 1, 1, none⟩ = some (.int .i64 jy2) := (by first | exact cell_kept tb4 hbv | exact cell_after tb4 hbv); have tcv : wv.cell? ⟨w.heap.size + 1, 2, none⟩ = some (.int .i64 jz2) := (by first | exact cell_kept tc4 hbv | exact cell_after tc4 hbv); have tdv : wv.cell? ⟨w.heap.size + 1, 3, none⟩ = some (.int .i64 ju2) := (by first | exact cell_kept td4 hbv | exact cell_after td4 hbv); have RWv : RowKit.Hid (QR wv _ uw V) := Lib.hid rw4; clear rw4 hbv))
      clear HS s2 ta2 tb2 tc2 td2 s3 ta3 tb3 tc3 td3 s4 ta4 tb4 tc4 td4 RA2 RA3 RA4 RB3 RB4 HB1 HB2 HB3 HB4
      have hwv : w.heap.size + 1 < wv.heap.size := cell_block_lt tav
      have HWV := Lib.hid hwv
      have HCv : RowKit.Hid (Below wv.heap.size wv wv) := Lib.hid (Below.refl _ _)
      clear hwv
      go_wp2_with fail
      refine (toArch _ _ _ c0 _ (G0.out.below (by first | exact HBv.out | exact below_drewN HBv.out _)) hs).mono ?_
      rintro e w5 ⟨gx, hgx, rfl, rx, hb5⟩
      have hgx5 : wv.heap.size ≤ gx := by first | exact hgx | simpa using hgx
      have hal : Below w5.heap.size w5 (w5.alloc (.cells #[.slice (some ⟨gx, 0, none⟩) n0 n0] 26)) := (Below.refl _ _).alloc (Nat.le_refl _) _
      have hb5' : Below w.heap.size w w5 := by first | exact HBv.out.trans (hb5.mono HBv.out.size) | exact below_after HBv.out hb5
      have hc5' : Below wv.heap.size wv w5 := by first | exact HCv.out.trans (hb5.mono HCv.out.size) | exact below_after HCv.out hb5
      have HB5 := Lib.hid (hb5'.alloc hb5'.size (.cells #[.slice (some ⟨gx, 0, none⟩) n0 n0] 26))
      have HC5 := Lib.hid (hc5'.alloc hc5'.size (.cells #[.slice (some ⟨gx, 0, none⟩) n0 n0] 26))
      have s5' : w5.cell? ⟨w.heap.size, 0, none⟩ = some (.slice p0 n0 cap0) := by first | exact cell_kept sv hb5 | exact cell_after sv hb5
      have ta5' : w5.cell? ⟨w.heap.size + 1, 0, none⟩ = some (.int .i64 jx2) := by first | exact cell_kept tav hb5 | exact cell_after tav hb5
      have tb5' : w5.cell? ⟨w.heap.size + 1, 1, none⟩ = some (.int .i64 jy2) := by first | exact cell_kept tbv hb5 | exact cell_after tbv hb5
      have tc5' : w5.cell? ⟨w.heap.size + 1, 2, none⟩ = some (.int .i64 jz2) := by first | exact cell_kept tcv hb5 | exact cell_after tcv hb5
      have td5' : w5.cell? ⟨w.heap.size + 1, 3, none⟩ = some (.int .i64 ju2) := by first | exact cell_kept tdv hb5 | exact cell_after tdv hb5
      have s5 := cell_kept s5' hal
      have ta5 := cell_kept ta5' hal
      have tb5 := cell_kept tb5' hal
      have tc5 := cell_kept tc5' hal
      have td5 := cell_kept td5' hal
      have x5 : (w5.alloc (.cells #[.slice (some ⟨gx, 0, none⟩) n0 n0] 26)).cell? ⟨w5.heap.size, 0, none⟩ = some (.slice (some ⟨gx, 0, none⟩) n0 n0) := by go_simp
      have RX5 := Lib.hid (JRowAt.below rx hal)
      have hne1 : w.heap.size < w5.heap.size := by have := cell_block_lt s5'; simpa using this
      have hne2 : w.heap.size + 1 < w5.heap.size := by have := cell_block_lt ta5'; simpa using this
      have HWX := Lib.hid (And.intro hgx5 hc5'.size)
      clear hb5 hb5' hc5' rx hal HBv HCv hgx hgx5 sv tav tbv tcv tdv s5' ta5' tb5' tc5' td5'
      go_wp2_with fail
      refine (toLoadS _ _ _ c1 _ (G1.out.below HB5.out) ht1).mono ?_
      rintro e w6 ⟨gy, hgy, rfl, ry, hb6⟩
      have HWY := Lib.hid (show wv.heap.size ≤ gy by have := HC5.out.size; first | omega | (simp at hgy this; omega))
      have RY6 : RowKit.Hid (Lds w6 _ (some ⟨gy, 0, none⟩) n1 n1 c1) := Lib.hid ry
      clear ry hgy
      have HB6 : RowKit.Hid (Below w.heap.size w w6) := Lib.hid (by first | exact HB5.out.trans (hb6.mono HB5.out.size) | exact below_after HB5.out hb6)
      have HC6 : RowKit.Hid (Below wv.heap.size wv w6) := Lib.hid (by first | exact HC5.out.trans (hb6.mono HC5.out.size) | exact below_after HC5.out hb6)
      have s6 : w6.cell? ⟨w.heap.size, 0, none⟩ = some (.slice p0 n0 cap0) := (by first | exact cell_kept s5 hb6 | exact cell_after s5 hb6)
      have ta6 : w6.cell? ⟨w.heap.size + 1, 0, none⟩ = some (.int .i64 jx2) := (by first | exact cell_kept ta5 hb6 | exact cell_after ta5 hb6)
      have tb6 : w6.cell? ⟨w.heap.size + 1, 1, none⟩ = some (.int .i64 jy2) := (by first | exact cell_kept tb5 hb6 | exact cell_after tb5 hb6)
      have tc6 : w6.cell? ⟨w.heap.size + 1, 2, none⟩ = some (.int .i64 jz2) := (by first | exact cell_kept tc5 hb6 | exact cell_after tc5 hb6)
      have td6 : w6.cell? ⟨w.heap.size + 1, 3, none⟩ = some (.int .i64 ju2) := (by first | exact cell_kept td5 hb6 | exact cell_after td5 hb6)
      have x6 : w6.cell? ⟨w5.heap.size, 0, none⟩ = some (.slice (some ⟨gx, 0, none⟩) n0 n0) := (by first | exact cell_kept x5 hb6 | exact cell_after x5 hb6)
      have RX6 : RowKit.Hid (JRowAt w6 _ gx n0 c0) := Lib.hid (by first | exact JRowAt.below RX5.out hb6 | exact JRowAt.after RX5.out hb6)
      clear hb6 s5 ta5 tb5 tc5 td5 x5 HB5 HC5 RX5
      go_wp2_with fail
      go_region_held3 (fun w' => w'.cell? ⟨w.heap.size, 0, none⟩ = some (.slice p0 n0 cap0) ∧ w'.cell? ⟨w.heap.size + 1, 0, none⟩ = some (.int .i64 jx2) ∧ w'.cell? ⟨w.heap.size + 1, 1, none⟩ = some (.int .i64 jy2) ∧ w'.cell? ⟨w.heap.size + 1, 2, none⟩ = some (.int .i64 jz2) ∧ w'.cell? ⟨w.heap.size + 1, 3, none⟩ = some (.int .i64 ju2) ∧ w'.cell? ⟨w5.heap.size, 0, none⟩ = some (.slice (some ⟨gx, 0, none⟩) n0 n0))
        (first | go_keep | trivial)
        (first
          | (go_at_call 20; refine (toThrust _ _ _ _ _).mono ?_; rintro e wa ⟨rfl, hba⟩; have HBa : RowKit.Hid (Below w.heap.size w wa) := Lib.hid (by first | exact HB6.out.trans (hba.mono HB6.out.size) | exact below_after HB6.out hba); have HCa : RowKit.Hid (Below wv.heap.size wv wa) := Lib.hid (by first | exact HC6.out.trans (hba.mono HC6.out.size) | exact below_after HC6.out hba); have sa : wa.cell? ⟨w.heap.size, 0, none⟩ = some (.slice p0 n0 cap0) := (by first | exact cell_kept s6 hba | exact cell_after s6 hba); have taa : wa.cell? ⟨w.heap.size + 1, 0, none⟩ = some (.int .i64 jx2) := (by first | exact cell_kept ta6 hba | exact cell_after ta6 hba); have tba : wa.cell? ⟨w.heap.size + 1, 1, none⟩ = some (.int .i64 jy2) := (by first | exact cell_kept tb6 hba | exact cell_after tb6 hba); have tca : wa.cell? ⟨w.heap.size + 1, 2, none⟩ = some (.int .i64 jz2) := (by first | exact cell_kept tc6 hba | exact cell_after tc6 hba); have tda : wa.cell? ⟨w.heap.size + 1, 3, none⟩ = some (.int .i64 ju2) := (by first | exact cell_kept td6 hba | exact cell_after td6 hba); have xa : wa.cell? ⟨w5.heap.size, 0, none⟩ = some (.slice (some ⟨gx, 0, none⟩) n0 n0) := (by first | exact cell_kept x6 hba | exact cell_after x6 hba); have RXa : RowKit.Hid (JRowAt wa _ gx n0 c0) := Lib.hid (by first | exact JRowAt.below RX6.out hba | exact JRowAt.after RX6.out hba); have RYa : RowKit.Hid (Lds wa _ (some ⟨gy, 0, none⟩) n1 n1 c1) := Lib.hid (by first | exact RY6.out.below hba | exact ⟨RY6.out.1.after hba, RY6.out.2⟩); clear hba)
          | (go_at_call 8; refine (HI.out _ _ _ _ _ _ _ _ RXa.out RYa.out).mono ?_; rintro e w7 ⟨ug, rfl, rg, hb7⟩; have HB7 : RowKit.Hid (Below w.heap.size w w7) := Lib.hid (by first | exact HBa.out.trans (hb7.mono HBa.out.size) | exact below_after HBa.out hb7); have HC7 : RowKit.Hid (Below wv.heap.size wv w7) := Lib.hid (by first | exact HCa.out.trans (hb7.mono HCa.out.size) | exact below_after HCa.out hb7); have s7 : w7.cell? ⟨w.heap.size, 0, none⟩ = some (.slice p0 n0 cap0) := (by first | exact cell_kept sa hb7 | exact cell_after sa hb7); have ta7 : w7.cell? ⟨w.heap.size + 1, 0, none⟩ = some (.int .i64 jx2) := (by first | exact cell_kept taa hb7 | exact cell_after taa hb7); have tb7 : w7.cell? ⟨w.heap.size + 1, 1, none⟩ = some (.int .i64 jy2) := (by first | exact cell_kept tba hb7 | exact cell_after tba hb7); have tc7 : w7.cell? ⟨w.heap.size + 1, 2, none⟩ = some (.int .i64 jz2) := (by first | exact cell_kept tca hb7 | exact cell_after tca hb7); have td7 : w7.cell? ⟨w.heap.size + 1, 3, none⟩ = some (.int .i64 ju2) := (by first | exact cell_kept tda hb7 | exact cell_after tda hb7); have x7 : w7.cell? ⟨w5.heap.size, 0, none⟩ = some (.slice (some ⟨gx, 0, none⟩) n0 n0) := (by first | exact cell_kept xa hb7 | exact cell_after xa hb7); have RX7 : RowKit.Hid (JRowAt w7 _ gx n0 c0) := Lib.hid (by first | exact JRowAt.below RXa.out hb7 | exact JRowAt.after RXa.out hb7); have RY7 : RowKit.Hid (Lds w7 _ (some ⟨gy, 0, none⟩) n1 n1 c1) := Lib.hid (by first | exact RYa.out.below hb7 | exact ⟨RYa.out.1.after hb7, RYa.out.2⟩); have RG7 : RowKit.Hid (QR w7 wv.heap.size ug V) := Lib.hid (rg.base (by have := HCa.out.size; first | exact this | (simp; omega))); clear rg hb7))
      clear s6 ta6 tb6 tc6 td6 x6 sa taa tba tca tda xa HB6 HBa HC6 HCa RX6 RXa RY6 RYa
      have hrx := RX7.out.row
      rw [HCL.out] at hrx
      have RJ7 : RowKit.Hid (JRow w7 _ (.slice (some ⟨gx, 0, none⟩) n0 n0) c0) := Lib.hid hrx
      clear hrx RX7
      go_wp2_with fail
      refine (eqR _ _ _ _ _ V RG7.out (RWv.out.below HC7.out)).mono ?_
      rintro e w8 ⟨rfl, hb8⟩
      have HB8 : RowKit.Hid (Below w.heap.size w w8) := Lib.hid (by first | exact HB7.out.trans (hb8.mono HB7.out.size) | exact below_after HB7.out hb8)
      have HC8 : RowKit.Hid (Below wv.heap.size wv w8) := Lib.hid (by first | exact HC7.out.trans (hb8.mono HC7.out.size) | exact below_after HC7.out hb8)
      have s8 : w8.cell? ⟨w.heap.size, 0, none⟩ = some (.slice p0 n0 cap0) := (by first | exact cell_kept s7 hb8 | exact cell_after s7 hb8)
      have ta8 : w8.cell? ⟨w.heap.size + 1, 0, none⟩ = some (.int .i64 jx2) := (by first | exact cell_kept ta7 hb8 | exact cell_after ta7 hb8)
      have tb8 : w8.cell? ⟨w.heap.size + 1, 1, none⟩ = some (.int .i64 jy2) := (by first | exact cell_kept tb7 hb8 | exact cell_after tb7 hb8)
      have tc8 : w8.cell? ⟨w.heap.size + 1, 2, none⟩ = some (.int .i64 jz2) := (by first | exact cell_kept tc7 hb8 | exact cell_after tc7 hb8)
      have td8 : w8.cell? ⟨w.heap.size + 1, 3, none⟩ = some (.int .i64 ju2) := (by first | exact cell_kept td7 hb8 | exact cell_after td7 hb8)
      have x8 : w8.cell? ⟨w5.heap.size, 0, none⟩ = some (.slice (some ⟨gx, 0, none⟩) n0 n0) := (by first | exact cell_kept x7 hb8 | exact cell_after x7 hb8)
      have RJ8 : RowKit.Hid (JRow w8 _ (.slice (some ⟨gx, 0, none⟩) n0 n0) c0) := Lib.hid (by first | exact RJ7.out.below hb8 | exact RJ7.out.after hb8)
      have RY8 : RowKit.Hid (Lds w8 _ (some ⟨gy, 0, none⟩) n1 n1 c1) := Lib.hid (by first | exact RY7.out.below hb8 | exact ⟨RY7.out.1.after hb8, RY7.out.2⟩)
      have RG8 : RowKit.Hid (QR w8 wv.heap.size ug V) := Lib.hid (by first | exact RG7.out.below hb8 | exact RG7.out.after hb8)
      clear hb8 s7 ta7 tb7 tc7 td7 x7 HB7 HC7 RJ7 RY7 RG7
      go_wp2_with fail
      go_region_held3 (fun w' => w'.cell? ⟨w.heap.size, 0, none⟩ = some (.slice p0 n0 cap0) ∧ w'.cell? ⟨w.heap.size + 1, 0, none⟩ = some (.int .i64 jx2) ∧ w'.cell? ⟨w.heap.size + 1, 1, none⟩ = some (.int .i64 jy2) ∧ w'.cell? ⟨w.heap.size + 1, 2, none⟩ = some (.int .i64 jz2) ∧ w'.cell? ⟨w.heap.size + 1, 3, none⟩ = some (.int .i64 ju2) ∧ w'.cell? ⟨w5.heap.size, 0, none⟩ = some (.slice (some ⟨gx, 0, none⟩) n0 n0))
        (first | go_keep | trivial)
        (first | (go_at_call 18; refine (toArch _ _ _ c0 _ (G0.out.below (by first | exact HB8.out | exact below_drewN HB8.out _)) hs).mono ?_; rintro e w9 ⟨gz, -, rfl, rz, hb9⟩; have HB9 : RowKit.Hid (Below w.heap.size w w9) := Lib.hid (by first | exact HB8.out.trans (hb9.mono HB8.out.size) | exact below_after HB8.out hb9); have HC9 : RowKit.Hid (Below wv.heap.size wv w9) := Lib.hid (by first | exact HC8.out.trans (hb9.mono HC8.out.size) | exact below_after HC8.out hb9); have s9 : w9.cell? ⟨w.heap.size, 0, none⟩ = some (.slice p0 n0 cap0) := (by first | exact cell_kept s8 hb9 | exact cell_after s8 hb9); have ta9 : w9.cell? ⟨w.heap.size + 1, 0, none⟩ = some (.int .i64 jx2) := (by first | exact cell_kept ta8 hb9 | exact cell_after ta8 hb9); have tb9 : w9.cell? ⟨w.heap.size + 1, 1, none⟩ = some (.int .i64 jy2) := (by first | exact cell_kept tb8 hb9 | exact cell_after tb8 hb9); have tc9 : w9.cell? ⟨w.heap.size + 1, 2, none⟩ = some (.int .i64 jz2) := (by first | exact cell_kept tc8 hb9 | exact cell_after tc8 hb9); have td9 : w9.cell? ⟨w.heap.size + 1, 3, none⟩ = some (.int .i64 ju2) := (by first | exact cell_kept td8 hb9 | exact cell_after td8 hb9); have x9 : w9.cell? ⟨w5.heap.size, 0, none⟩ = some (.slice (some ⟨gx, 0, none⟩) n0 n0) := (by first | exact cell_kept x8 hb9 | exact cell_after x8 hb9); have RJ9 : RowKit.Hid (JRow w9 _ (.slice (some ⟨gx, 0, none⟩) n0 n0) c0) := Lib.hid (by first | exact RJ8.out.below hb9 | exact RJ8.out.after hb9); have RY9 : RowKit.Hid (Lds w9 _ (some ⟨gy, 0, none⟩) n1 n1 c1) := Lib.hid (by first | exact RY8.out.below hb9 | exact ⟨RY8.out.1.after hb9, RY8.out.2⟩); have RG9 : RowKit.Hid (QR w9 wv.heap.size ug V) := Lib.hid (by first | exact RG8.out.below hb9 | exact RG8.out.after hb9); have hrz := rz.row; rw [HCL.out] at hrz; have RZ := Lib.hid hrz; clear rz hrz hb9)
               | (go_at_call 22; refine (eqArch_same _ _ _ _ _ c0 RJ9.out RZ.out).mono ?_; rintro e w10 ⟨rfl, hb10⟩; have HB10 : RowKit.Hid (Below w.heap.size w w10) := Lib.hid (by first | exact HB9.out.trans (hb10.mono HB9.out.size) | exact below_after HB9.out hb10); have HC10 : RowKit.Hid (Below wv.heap.size wv w10) := Lib.hid (by first | exact HC9.out.trans (hb10.mono HC9.out.size) | exact below_after HC9.out hb10); have s10 : w10.cell? ⟨w.heap.size, 0, none⟩ = some (.slice p0 n0 cap0) := (by first | exact cell_kept s9 hb10 | exact cell_after s9 hb10); have ta10 : w10.cell? ⟨w.heap.size + 1, 0, none⟩ = some (.int .i64 jx2) := (by first | exact cell_kept ta9 hb10 | exact cell_after ta9 hb10); have tb10 : w10.cell? ⟨w.heap.size + 1, 1, none⟩ = some (.int .i64 jy2) := (by first | exact cell_kept tb9 hb10 | exact cell_after tb9 hb10); have tc10 : w10.cell? ⟨w.heap.size + 1, 2, none⟩ = some (.int .i64 jz2) := (by first | exact cell_kept tc9 hb10 | exact cell_after tc9 hb10); have td10 : w10.cell? ⟨w.heap.size + 1, 3, none⟩ = some (.int .i64 ju2) := (by first | exact cell_kept td9 hb10 | exact cell_after td9 hb10); have x10 : w10.cell? ⟨w5.heap.size, 0, none⟩ = some (.slice (some ⟨gx, 0, none⟩) n0 n0) := (by first | exact cell_kept x9 hb10 | exact cell_after x9 hb10); have RJ10 : RowKit.Hid (JRow w10 _ (.slice (some ⟨gx, 0, none⟩) n0 n0) c0) := Lib.hid (by first | exact RJ9.out.below hb10 | exact RJ9.out.after hb10); have RY10 : RowKit.Hid (Lds w10 _ (some ⟨gy, 0, none⟩) n1 n1 c1) := Lib.hid (by first | exact RY9.out.below hb10 | exact ⟨RY9.out.1.after hb10, RY9.out.2⟩); have RG10 : RowKit.Hid (QR w10 wv.heap.size ug V) := Lib.hid (by first | exact RG9.out.below hb10 | exact RG9.out.after hb10); clear hb10))
      clear s8 ta8 tb8 tc8 td8 x8 s9 ta9 tb9 tc9 td9 x9 HB8 HB9 HC8 HC9 RJ8 RJ9 RY8 RY9 RG8 RG9 RZ
      go_wp2_with fail
      refine (toLoadS _ _ _ c1 _ (G1.out.below HB10.out) ht1).mono ?_
      rintro e w11 ⟨gu, -, rfl, ru, hb11⟩
      have RU := Lib.hid ru
      clear ru
      have HB11 : RowKit.Hid (Below w.heap.size w w11) := Lib.hid (by first | exact HB10.out.trans (hb11.mono HB10.out.size) | exact below_after HB10.out hb11)
      have HC11 : RowKit.Hid (Below wv.heap.size wv w11) := Lib.hid (by first | exact HC10.out.trans (hb11.mono HC10.out.size) | exact below_after HC10.out hb11)
      have s11 : w11.cell? ⟨w.heap.size, 0, none⟩ = some (.slice p0 n0 cap0) := (by first | exact cell_kept s10 hb11 | exact cell_after s10 hb11)
      have ta11 : w11.cell? ⟨w.heap.size + 1, 0, none⟩ = some (.int .i64 jx2) := (by first | exact cell_kept ta10 hb11 | exact cell_after ta10 hb11)
      have tb11 : w11.cell? ⟨w.heap.size + 1, 1, none⟩ = some (.int .i64 jy2) := (by first | exact cell_kept tb10 hb11 | exact cell_after tb10 hb11)
      have tc11 : w11.cell? ⟨w.heap.size + 1, 2, none⟩ = some (.int .i64 jz2) := (by first | exact cell_kept tc10 hb11 | exact cell_after tc10 hb11)
      have td11 : w11.cell? ⟨w.heap.size + 1, 3, none⟩ = some (.int .i64 ju2) := (by first | exact cell_kept td10 hb11 | exact cell_after td10 hb11)
      have x11 : w11.cell? ⟨w5.heap.size, 0, none⟩ = some (.slice (some ⟨gx, 0, none⟩) n0 n0) := (by first | exact cell_kept x10 hb11 | exact cell_after x10 hb11)
      have RJ11 : RowKit.Hid (JRow w11 _ (.slice (some ⟨gx, 0, none⟩) n0 n0) c0) := Lib.hid (by first | exact RJ10.out.below hb11 | exact RJ10.out.after hb11)
      have RY11 : RowKit.Hid (Lds w11 _ (some ⟨gy, 0, none⟩) n1 n1 c1) := Lib.hid (by first | exact RY10.out.below hb11 | exact ⟨RY10.out.1.after hb11, RY10.out.2⟩)
      have RG11 : RowKit.Hid (QR w11 wv.heap.size ug V) := Lib.hid (by first | exact RG10.out.below hb11 | exact RG10.out.after hb11)
      clear hb11 s10 ta10 tb10 tc10 td10 x10 HB10 HC10 RJ10 RY10 RG10
      go_wp2_with fail
      refine (eqLoadS_same _ _ _ _ _ _ _ _ c1 RY11.out RU.out).mono ?_
      rintro e w12 ⟨rfl, hb12⟩
      clear RU
      have HB12 : RowKit.Hid (Below w.heap.size w w12) := Lib.hid (by first | exact HB11.out.trans (hb12.mono HB11.out.size) | exact below_after HB11.out hb12)
      have HC12 : RowKit.Hid (Below wv.heap.size wv w12) := Lib.hid (by first | exact HC11.out.trans (hb12.mono HC11.out.size) | exact below_after HC11.out hb12)
      have s12 : w12.cell? ⟨w.heap.size, 0, none⟩ = some (.slice p0 n0 cap0) := (by first | exact cell_kept s11 hb12 | exact cell_after s11 hb12)
      have ta12 : w12.cell? ⟨w.heap.size + 1, 0, none⟩ = some (.int .i64 jx2) := (by first | exact cell_kept ta11 hb12 | exact cell_after ta11 hb12)
      have tb12 : w12.cell? ⟨w.heap.size + 1, 1, none⟩ = some (.int .i64 jy2) := (by first | exact cell_kept tb11 hb12 | exact cell_after tb11 hb12)
      have tc12 : w12.cell? ⟨w.heap.size + 1, 2, none⟩ = some (.int .i64 jz2) := (by first | exact cell_kept tc11 hb12 | exact cell_after tc11 hb12)
      have td12 : w12.cell? ⟨w.heap.size + 1, 3, none⟩ = some (.int .i64 ju2) := (by first | exact cell_kept td11 hb12 | exact cell_after td11 hb12)
      have x12 : w12.cell? ⟨w5.heap.size, 0, none⟩ = some (.slice (some ⟨gx, 0, none⟩) n0 n0) := (by first | exact cell_kept x11 hb12 | exact cell_after x11 hb12)
      have RJ12 : RowKit.Hid (JRow w12 _ (.slice (some ⟨gx, 0, none⟩) n0 n0) c0) := Lib.hid (by first | exact RJ11.out.below hb12 | exact RJ11.out.after hb12)
      have RY12 : RowKit.Hid (Lds w12 _ (some ⟨gy, 0, none⟩) n1 n1 c1) := Lib.hid (by first | exact RY11.out.below hb12 | exact ⟨RY11.out.1.after hb12, RY11.out.2⟩)
      have RG12 : RowKit.Hid (QR w12 wv.heap.size ug V) := Lib.hid (by first | exact RG11.out.below hb12 | exact RG11.out.after hb12)
      clear hb12 s11 ta11 tb11 tc11 td11 x11 HB11 HC11 RJ11 RY11 RG11
      go_wp2_with fail
      refine (markArch _ _ _ c0 RJ12.out (by have := HCL.out; omega)).mono ?_
      rintro e w13 ⟨rfl, -, z1, z2, z3, z4, z5⟩
      have hg13 : w12.grownBy w13 (Value.slice (some ⟨gx, 0, none⟩) n0 n0).ownBlock := ⟨z2, z3, z4, z1, z5⟩
      have RY13 : RowKit.Hid (Lds w13 _ (some ⟨gy, 0, none⟩) n1 n1 c1) := Lib.hid ⟨mark_other RY12.out.1 RJ12.out (by decide) hg13, RY12.out.2⟩
      have RG13 : RowKit.Hid (QR w13 wv.heap.size ug V) := Lib.hid (RG12.out.other RJ12.out (by decide) (by decide) hg13)
      have HGX := Lib.hid (show w.heap.size + 1 < gx by have := HWV.out; have := HWX.out.1; omega)
      have s13 : w13.cell? ⟨w.heap.size, 0, none⟩ = some (.slice p0 n0 cap0) := mark_kept s12 hg13 (by have := HGX.out; simp [Value.ownBlock]; omega)
      have ta13 : w13.cell? ⟨w.heap.size + 1, 0, none⟩ = some (.int .i64 jx2) := mark_kept ta12 hg13 (by have := HGX.out; simp [Value.ownBlock]; omega)
      have tb13 : w13.cell? ⟨w.heap.size + 1, 1, none⟩ = some (.int .i64 jy2) := mark_kept tb12 hg13 (by have := HGX.out; simp [Value.ownBlock]; omega)
      have tc13 : w13.cell? ⟨w.heap.size + 1, 2, none⟩ = some (.int .i64 jz2) := mark_kept tc12 hg13 (by have := HGX.out; simp [Value.ownBlock]; omega)
      have td13 : w13.cell? ⟨w.heap.size + 1, 3, none⟩ = some (.int .i64 ju2) := mark_kept td12 hg13 (by have := HGX.out; simp [Value.ownBlock]; omega)
      have HB13 := Lib.hid (HB12.out.grown hg13 HB12.out.size (fun k hk => by have := HGX.out; simp [Value.ownBlock] at hk; omega))
      have HC13 := Lib.hid (HC12.out.grown hg13 HC12.out.size (fun k hk => by have := HWX.out.1; simp [Value.ownBlock] at hk; omega))
      clear z1 z2 z3 z4 z5 hg13 RJ12 RY12 RG12 x12 HB12 HC12 s12 ta12 tb12 tc12 td12
      rw [HCL.out]
      go_wp2_with fail
      refine (markLoadsFrom _ (1 + 4 * (n0 : Int)) ⟨by omega, by omega⟩ _ _ c1 RY13.out.1 (by have := HCL1.out; omega)).mono ?_
      rintro e w14 ⟨rfl, -, z1, z2, z3, z4, z5⟩
      have hg14 : w13.grownBy w14 (Value.slice (some ⟨gy, 0, none⟩) n1 n1).ownBlock := ⟨z2, z3, z4, z1, z5⟩
      have RG14 : RowKit.Hid (QR w14 wv.heap.size ug V) := Lib.hid (RG13.out.other RY13.out.1 (by decide) (by decide) hg14)
      have s14 : w14.cell? ⟨w.heap.size, 0, none⟩ = some (.slice p0 n0 cap0) := mark_kept s13 hg14 (by have := HWY.out; have := HWV.out; simp [Value.ownBlock]; omega)
      have ta14 : w14.cell? ⟨w.heap.size + 1, 0, none⟩ = some (.int .i64 jx2) := mark_kept ta13 hg14 (by have := HWY.out; have := HWV.out; simp [Value.ownBlock]; omega)
      have tb14 : w14.cell? ⟨w.heap.size + 1, 1, none⟩ = some (.int .i64 jy2) := mark_kept tb13 hg14 (by have := HWY.out; have := HWV.out; simp [Value.ownBlock]; omega)
      have tc14 : w14.cell? ⟨w.heap.size + 1, 2, none⟩ = some (.int .i64 jz2) := mark_kept tc13 hg14 (by have := HWY.out; have := HWV.out; simp [Value.ownBlock]; omega)
      have td14 : w14.cell? ⟨w.heap.size + 1, 3, none⟩ = some (.int .i64 ju2) := mark_kept td13 hg14 (by have := HWY.out; have := HWV.out; simp [Value.ownBlock]; omega)
      have HB14 := Lib.hid (HB13.out.grown hg14 HB13.out.size (fun k hk => by have := HWY.out; have := HWV.out; simp [Value.ownBlock] at hk; omega))
      have HC14 := Lib.hid (HC13.out.grown hg14 HC13.out.size (fun k hk => by have := HWY.out; simp [Value.ownBlock] at hk; omega))
      clear z1 z2 z3 z4 z5 hg14 RY13 RG13 HB13 HC13 s13 ta13 tb13 tc13 td13
      rw [HCL1.out]
      obtain ⟨K, hK⟩ : ∃ K, K = 1 + 4 * (n0 : Int) + 3 * (n1 : Int) := ⟨_, rfl⟩
      rw [← hK]
      have hK0 : ¬ K < 0 := by omega
      have hK1 : decide (K < 0) = false := decide_eq_false hK0
      clear hK
      go_wp2_with fail
      refine (eqR _ _ _ _ _ V RG14.out (RWv.out.below HC14.out)).mono ?_
      rintro e w15 ⟨rfl, hb15⟩
      have HB15 : RowKit.Hid (Below w.heap.size w w15) := Lib.hid (by first | exact HB14.out.trans (hb15.mono HB14.out.size) | exact below_after HB14.out hb15)
      have HC15 : RowKit.Hid (Below wv.heap.size wv w15) := Lib.hid (by first | exact HC14.out.trans (hb15.mono HC14.out.size) | exact below_after HC14.out hb15)
      have s15 : w15.cell? ⟨w.heap.size, 0, none⟩ = some (.slice p0 n0 cap0) := (by first | exact cell_kept s14 hb15 | exact cell_after s14 hb15)
      have ta15 : w15.cell? ⟨w.heap.size + 1, 0, none⟩ = some (.int .i64 jx2) := (by first | exact cell_kept ta14 hb15 | exact cell_after ta14 hb15)
      have tb15 : w15.cell? ⟨w.heap.size + 1, 1, none⟩ = some (.int .i64 jy2) := (by first | exact cell_kept tb14 hb15 | exact cell_after tb14 hb15)
      have tc15 : w15.cell? ⟨w.heap.size + 1, 2, none⟩ = some (.int .i64 jz2) := (by first | exact cell_kept tc14 hb15 | exact cell_after tc14 hb15)
      have td15 : w15.cell? ⟨w.heap.size + 1, 3, none⟩ = some (.int .i64 ju2) := (by first | exact cell_kept td14 hb15 | exact cell_after td14 hb15)
      have RG15 : RowKit.Hid (QR w15 wv.heap.size ug V) := Lib.hid (by first | exact RG14.out.below hb15 | exact RG14.out.after hb15)
      clear hb15 s14 ta14 tb14 tc14 td14 HB14 HC14 RG14
      go_wp2_with fail
      refine (markR _ _ _ V RG15.out hvl HC15.out.size).mono ?_
      rintro e w16 ⟨rfl, rgm, hb16⟩
      have RM16 : RowKit.Hid (QR w16 wv.heap.size ug (mk2 V.length)) := Lib.hid rgm
      have s16 : w16.cell? ⟨w.heap.size, 0, none⟩ = some (.slice p0 n0 cap0) := low_kept s15 hb16 (by have := HWV.out; omega)
      have ta16 : w16.cell? ⟨w.heap.size + 1, 0, none⟩ = some (.int .i64 jx2) := low_kept ta15 hb16 (by have := HWV.out; omega)
      have tb16 : w16.cell? ⟨w.heap.size + 1, 1, none⟩ = some (.int .i64 jy2) := low_kept tb15 hb16 (by have := HWV.out; omega)
      have tc16 : w16.cell? ⟨w.heap.size + 1, 2, none⟩ = some (.int .i64 jz2) := low_kept tc15 hb16 (by have := HWV.out; omega)
      have td16 : w16.cell? ⟨w.heap.size + 1, 3, none⟩ = some (.int .i64 ju2) := low_kept td15 hb16 (by have := HWV.out; omega)
      have HC16 := Lib.hid (HC15.out.trans hb16)
      have HB16 := Lib.hid (HB15.out.trans (hb16.mono (by have := HWV.out; omega)))
      have HD16 : RowKit.Hid (Below w16.heap.size w16 w16) := Lib.hid (Below.refl _ _)
      clear hb16 RG15 HB15 HC15 rgm s15 ta15 tb15 tc15 td15
      obtain ⟨M, hM⟩ : ∃ M : Int, M = 1 + 2 * (V.length : Int) := ⟨_, rfl⟩
      have hM0 : decide (M < 0) = false := decide_eq_false (by omega)
      have hMM : (M != M) = false := by simp
      have HM := Lib.hid hM
      rw [← hM]
      clear hM
      go_wp2_with fail
      refine (heldR _ _ V.length _ RM16.out hvl).mono ?_
      rintro e w17 ⟨rfl, hb17⟩
      rw [← HM.out]
      have HB17 : RowKit.Hid (Below w.heap.size w w17) := Lib.hid (by first | exact HB16.out.trans (hb17.mono HB16.out.size) | exact below_after HB16.out hb17)
      have HC17 : RowKit.Hid (Below wv.heap.size wv w17) := Lib.hid (by first | exact HC16.out.trans (hb17.mono HC16.out.size) | exact below_after HC16.out hb17)
      have HD17 : RowKit.Hid (Below w16.heap.size w16 w17) := Lib.hid (by first | exact HD16.out.trans (hb17.mono HD16.out.size) | exact below_after HD16.out hb17)
      have s17 : w17.cell? ⟨w.heap.size, 0, none⟩ = some (.slice p0 n0 cap0) := (by first | exact cell_kept s16 hb17 | exact cell_after s16 hb17)
      have ta17 : w17.cell? ⟨w.heap.size + 1, 0, none⟩ = some (.int .i64 jx2) := (by first | exact cell_kept ta16 hb17 | exact cell_after ta16 hb17)
      have tb17 : w17.cell? ⟨w.heap.size + 1, 1, none⟩ = some (.int .i64 jy2) := (by first | exact cell_kept tb16 hb17 | exact cell_after tb16 hb17)
      have tc17 : w17.cell? ⟨w.heap.size + 1, 2, none⟩ = some (.int .i64 jz2) := (by first | exact cell_kept tc16 hb17 | exact cell_after tc16 hb17)
      have td17 : w17.cell? ⟨w.heap.size + 1, 3, none⟩ = some (.int .i64 ju2) := (by first | exact cell_kept td16 hb17 | exact cell_after td16 hb17)
      clear hb17 s16 ta16 tb16 tc16 td16 HB16 HC16 HD16 
      go_wp2_with fail
      go_region_held3 (fun w' => w'.cell? ⟨w.heap.size, 0, none⟩ = some (.slice p0 n0 cap0) ∧ w'.cell? ⟨w.heap.size + 1, 0, none⟩ = some (.int .i64 jx2) ∧ w'.cell? ⟨w.heap.size + 1, 1, none⟩ = some (.int .i64 jy2) ∧ w'.cell? ⟨w.heap.size + 1, 2, none⟩ = some (.int .i64 jz2) ∧ w'.cell? ⟨w.heap.size + 1, 3, none⟩ = some (.int .i64 ju2))
        (first | go_keep | trivial)
        (first
          | (go_at_call 18; refine (toArch _ _ _ c0 _ (G0.out.below (by first | exact HB17.out | exact below_drewN HB17.out _)) hs).mono ?_; rintro e w18 ⟨ga, -, rfl, ra, hb18⟩; have HB18 : RowKit.Hid (Below w.heap.size w w18) := Lib.hid (by first | exact HB17.out.trans (hb18.mono HB17.out.size) | exact below_after HB17.out hb18); have HC18 : RowKit.Hid (Below wv.heap.size wv w18) := Lib.hid (by first | exact HC17.out.trans (hb18.mono HC17.out.size) | exact below_after HC17.out hb18); have HD18 : RowKit.Hid (Below w16.heap.size w16 w18) := Lib.hid (by first | exact HD17.out.trans (hb18.mono HD17.out.size) | exact below_after HD17.out hb18); have s18 : w18.cell? ⟨w.heap.size, 0, none⟩ = some (.slice p0 n0 cap0) := (by first | exact cell_kept s17 hb18 | exact cell_after s17 hb18); have ta18 : w18.cell? ⟨w.heap.size + 1, 0, none⟩ = some (.int .i64 jx2) := (by first | exact cell_kept ta17 hb18 | exact cell_after ta17 hb18); have tb18 : w18.cell? ⟨w.heap.size + 1, 1, none⟩ = some (.int .i64 jy2) := (by first | exact cell_kept tb17 hb18 | exact cell_after tb17 hb18); have tc18 : w18.cell? ⟨w.heap.size + 1, 2, none⟩ = some (.int .i64 jz2) := (by first | exact cell_kept tc17 hb18 | exact cell_after tc17 hb18); have td18 : w18.cell? ⟨w.heap.size + 1, 3, none⟩ = some (.int .i64 ju2) := (by first | exact cell_kept td17 hb18 | exact cell_after td17 hb18); have RA18 := Lib.hid ra; clear ra hb18)
          | (go_at_call 19; refine (toLoadS _ _ _ c1 _ (G1.out.below (by first | exact HB18.out | exact below_drewN HB18.out _)) ht1).mono ?_; rintro e w19 ⟨gb, -, rfl, rb, hb19⟩; have HB19 : RowKit.Hid (Below w.heap.size w w19) := Lib.hid (by first | exact HB18.out.trans (hb19.mono HB18.out.size) | exact below_after HB18.out hb19); have HC19 : RowKit.Hid (Below wv.heap.size wv w19) := Lib.hid (by first | exact HC18.out.trans (hb19.mono HC18.out.size) | exact below_after HC18.out hb19); have HD19 : RowKit.Hid (Below w16.heap.size w16 w19) := Lib.hid (by first | exact HD18.out.trans (hb19.mono HD18.out.size) | exact below_after HD18.out hb19); have s19 : w19.cell? ⟨w.heap.size, 0, none⟩ = some (.slice p0 n0 cap0) := (by first | exact cell_kept s18 hb19 | exact cell_after s18 hb19); have ta19 : w19.cell? ⟨w.heap.size + 1, 0, none⟩ = some (.int .i64 jx2) := (by first | exact cell_kept ta18 hb19 | exact cell_after ta18 hb19); have tb19 : w19.cell? ⟨w.heap.size + 1, 1, none⟩ = some (.int .i64 jy2) := (by first | exact cell_kept tb18 hb19 | exact cell_after tb18 hb19); have tc19 : w19.cell? ⟨w.heap.size + 1, 2, none⟩ = some (.int .i64 jz2) := (by first | exact cell_kept tc18 hb19 | exact cell_after tc18 hb19); have td19 : w19.cell? ⟨w.heap.size + 1, 3, none⟩ = some (.int .i64 ju2) := (by first | exact cell_kept td18 hb19 | exact cell_after td18 hb19); have RA19 : RowKit.Hid (JRowAt w19 _ ga n0 c0) := Lib.hid (by first | exact JRowAt.below RA18.out hb19 | exact JRowAt.after RA18.out hb19); have RB19 := Lib.hid rb; clear rb hb19)
          | (go_at_call 20; refine (toThrust _ _ _ _ _).mono ?_; rintro e w20 ⟨rfl, hb20⟩; have HB20 : RowKit.Hid (Below w.heap.size w w20) := Lib.hid (by first | exact HB19.out.trans (hb20.mono HB19.out.size) | exact below_after HB19.out hb20); have HC20 : RowKit.Hid (Below wv.heap.size wv w20) := Lib.hid (by first | exact HC19.out.trans (hb20.mono HC19.out.size) | exact below_after HC19.out hb20); have HD20 : RowKit.Hid (Below w16.heap.size w16 w20) := Lib.hid (by first | exact HD19.out.trans (hb20.mono HD19.out.size) | exact below_after HD19.out hb20); have s20 : w20.cell? ⟨w.heap.size, 0, none⟩ = some (.slice p0 n0 cap0) := (by first | exact cell_kept s19 hb20 | exact cell_after s19 hb20); have ta20 : w20.cell? ⟨w.heap.size + 1, 0, none⟩ = some (.int .i64 jx2) := (by first | exact cell_kept ta19 hb20 | exact cell_after ta19 hb20); have tb20 : w20.cell? ⟨w.heap.size + 1, 1, none⟩ = some (.int .i64 jy2) := (by first | exact cell_kept tb19 hb20 | exact cell_after tb19 hb20); have tc20 : w20.cell? ⟨w.heap.size + 1, 2, none⟩ = some (.int .i64 jz2) := (by first | exact cell_kept tc19 hb20 | exact cell_after tc19 hb20); have td20 : w20.cell? ⟨w.heap.size + 1, 3, none⟩ = some (.int .i64 ju2) := (by first | exact cell_kept td19 hb20 | exact cell_after td19 hb20); have RA20 : RowKit.Hid (JRowAt w20 _ ga n0 c0) := Lib.hid (by first | exact JRowAt.below RA19.out hb20 | exact JRowAt.after RA19.out hb20); have RB20 : RowKit.Hid (Lds w20 _ (some ⟨gb, 0, none⟩) n1 n1 c1) := Lib.hid (by first | exact RB19.out.below hb20 | exact ⟨RB19.out.1.after hb20, RB19.out.2⟩); clear hb20)
          | (go_at_call 8; refine (HI.out _ _ _ _ _ _ _ _ RA20.out RB20.out).mono ?_; rintro e w21 ⟨uh, rfl, rh, hb21⟩; have HB21 : RowKit.Hid (Below w.heap.size w w21) := Lib.hid (by first | exact HB20.out.trans (hb21.mono HB20.out.size) | exact below_after HB20.out hb21); have HC21 : RowKit.Hid (Below wv.heap.size wv w21) := Lib.hid (by first | exact HC20.out.trans (hb21.mono HC20.out.size) | exact below_after HC20.out hb21); have HD21 : RowKit.Hid (Below w16.heap.size w16 w21) := Lib.hid (by first | exact HD20.out.trans (hb21.mono HD20.out.size) | exact below_after HD20.out hb21); have s21 : w21.cell? ⟨w.heap.size, 0, none⟩ = some (.slice p0 n0 cap0) := (by first | exact cell_kept s20 hb21 | exact cell_after s20 hb21); have ta21 : w21.cell? ⟨w.heap.size + 1, 0, none⟩ = some (.int .i64 jx2) := (by first | exact cell_kept ta20 hb21 | exact cell_after ta20 hb21); have tb21 : w21.cell? ⟨w.heap.size + 1, 1, none⟩ = some (.int .i64 jy2) := (by first | exact cell_kept tb20 hb21 | exact cell_after tb20 hb21); have tc21 : w21.cell? ⟨w.heap.size + 1, 2, none⟩ = some (.int .i64 jz2) := (by first | exact cell_kept tc20 hb21 | exact cell_after tc20 hb21); have td21 : w21.cell? ⟨w.heap.size + 1, 3, none⟩ = some (.int .i64 ju2) := (by first | exact cell_kept td20 hb21 | exact cell_after td20 hb21); have RH : RowKit.Hid (QR w21 _ uh V) := Lib.hid rh; clear rh hb21))
      clear HI s17 ta17 tb17 tc17 td17 s18 ta18 tb18 tc18 td18 s19 ta19 tb19 tc19 td19 s20 ta20 tb20 tc20 td20 HB17 HB18 HB19 HB20 HC17 HC18 HC19 HC20 HD17 HD18 HD19 HD20
      go_wp2_with fail
      refine (eqR _ _ _ _ _ V RH.out (RWv.out.below HC21.out)).mono ?_
      rintro e w22 ⟨rfl, hb22⟩
      clear RH
      have HB22 : RowKit.Hid (Below w.heap.size w w22) := Lib.hid (by first | exact HB21.out.trans (hb22.mono HB21.out.size) | exact below_after HB21.out hb22)
      have HC22 : RowKit.Hid (Below wv.heap.size wv w22) := Lib.hid (by first | exact HC21.out.trans (hb22.mono HC21.out.size) | exact below_after HC21.out hb22)
      have HD22 : RowKit.Hid (Below w16.heap.size w16 w22) := Lib.hid (by first | exact HD21.out.trans (hb22.mono HD21.out.size) | exact below_after HD21.out hb22)
      have s22 : w22.cell? ⟨w.heap.size, 0, none⟩ = some (.slice p0 n0 cap0) := (by first | exact cell_kept s21 hb22 | exact cell_after s21 hb22)
      have ta22 : w22.cell? ⟨w.heap.size + 1, 0, none⟩ = some (.int .i64 jx2) := (by first | exact cell_kept ta21 hb22 | exact cell_after ta21 hb22)
      have tb22 : w22.cell? ⟨w.heap.size + 1, 1, none⟩ = some (.int .i64 jy2) := (by first | exact cell_kept tb21 hb22 | exact cell_after tb21 hb22)
      have tc22 : w22.cell? ⟨w.heap.size + 1, 2, none⟩ = some (.int .i64 jz2) := (by first | exact cell_kept tc21 hb22 | exact cell_after tc21 hb22)
      have td22 : w22.cell? ⟨w.heap.size + 1, 3, none⟩ = some (.int .i64 ju2) := (by first | exact cell_kept td21 hb22 | exact cell_after td21 hb22)
      clear hb22 s21 ta21 tb21 tc21 td21 HB21 HC21 HD21 
      go_wp2_with fail
      refine (heldR _ _ V.length _ (RM16.out.below HD22.out) hvl).mono ?_
      rintro e w23 ⟨rfl, hb23⟩
      rw [← HM.out]
      have HB23 : RowKit.Hid (Below w.heap.size w w23) := Lib.hid (by first | exact HB22.out.trans (hb23.mono HB22.out.size) | exact below_after HB22.out hb23)
      have s23 : w23.cell? ⟨w.heap.size, 0, none⟩ = some (.slice p0 n0 cap0) := (by first | exact cell_kept s22 hb23 | exact cell_after s22 hb23)
      have ta23 : w23.cell? ⟨w.heap.size + 1, 0, none⟩ = some (.int .i64 jx2) := (by first | exact cell_kept ta22 hb23 | exact cell_after ta22 hb23)
      have tb23 : w23.cell? ⟨w.heap.size + 1, 1, none⟩ = some (.int .i64 jy2) := (by first | exact cell_kept tb22 hb23 | exact cell_after tb22 hb23)
      have tc23 : w23.cell? ⟨w.heap.size + 1, 2, none⟩ = some (.int .i64 jz2) := (by first | exact cell_kept tc22 hb23 | exact cell_after tc22 hb23)
      have td23 : w23.cell? ⟨w.heap.size + 1, 3, none⟩ = some (.int .i64 ju2) := (by first | exact cell_kept td22 hb23 | exact cell_after td22 hb23)
      clear hb23 s22 ta22 tb22 tc22 td22 HB22 
      go_wp2_with fail
      go_ret
      exact ⟨rfl, HB23.out⟩
    · have HY := Lib.hid (show szL n1 (1048576 - (n0 : Int)) = -1 by unfold szL; rw [if_neg ht])
      go_enter Try.func4, Try.ntmps4
      go_wp2_with fail
      refine (szArch _ _ _ _ hm).mono ?_
      rintro e w1 ⟨rfl, hb1⟩
      rw [HZ.out]
      go_wp2_with fail
      refine (szLoadS _ _ _ _ _ hm1 ⟨by omega, by omega⟩).mono ?_
      rintro e wq ⟨rfl, rfl⟩
      rw [HY.out]
      go_wp2_with fail
      go_ret
      exact ⟨rfl, HB0.out.trans (hb1.mono HB0.out.size)⟩
  · have HZ := Lib.hid (show szJ n0 = -1 by unfold szJ; rw [if_neg hs])
    go_enter Try.func4, Try.ntmps4
    go_wp2_with fail
    refine (szArch _ _ _ _ hm).mono ?_
    rintro e w1 ⟨rfl, hb1⟩
    rw [HZ.out]
    go_wp2_with fail
    go_ret
    exact ⟨rfl, HB0.out.trans (hb1.mono HB0.out.size)⟩

/-! ### THE ROW's STEP -/
set_option maxRecDepth 100000 in
theorem lifted (os : Os) (started : os.Started) (H : Type) (enc : TypeId × Value → H) :
    ReturnsInHanded {} Try.checked os 4 .any (Rows.fnExactPlacesOfSpec.pre6 enc Try.prog Try.f4 Rows.fnExactPlacesOfRow.domain false) (Rows.fnExactPlacesOfSpec.post enc Try.prog Try.f4 false true false false) := by
  refine returnsInHanded_of_change (C := Try.checked) own started (by kernel_rfl) Try.func4
    (ChangeSpec.witness6 (enc := enc) (C := Try.checked) false ⟨#[], #[.agg #[.slice none 0 0], .slice none 0 0, .agg #[.int .i64 0, .int .i64 0, .int .i64 0, .int .i64 0]], []⟩ 8 (by kernel_rfl) (by kernel_rfl) (by kernel_rfl) (by kernel_rfl)) ?_
  intro W base args ds gs before hval0 hW hcnd _
  have hval : ∀ (j : Nat) t v, Try.f4.params[j]? = some t → args[j]? = some v → Value.okWide Try.prog W .any base t v := hval0
  have hW' := hW
  obtain ⟨p, q, hA0, hV, rfl, hfz, hnd⟩ := hW
  have hA : DataW.TrodAll enc Try.prog W 0 (fun _ => true) true Try.f4.params.toList args.toList ds p := hA0
  rw [Try.params4] at hA hval
  obtain ⟨v0, vs0, d0, ds0, p0, q0, hargs, rfl, rfl, h0, r0⟩ := trodAll_cons hA
  obtain ⟨v1, vs1, d1, ds1, p1, q1, rfl, rfl, rfl, h1, r1⟩ := trodAll_cons r0
  obtain ⟨v2, vs2, d2, ds2, p2, q2, rfl, rfl, rfl, h2, r2⟩ := trodAll_cons r1
  obtain ⟨rfl, rfl, rfl⟩ := trodAll_nil r2
  obtain rfl : args = #[v0, v1, v2] := by cases args; simp_all
  obtain ⟨rfl, rfl⟩ := trodVars_none hV
  have k0 := h0
  have lt0 : ∀ x ∈ p0, x.block < W.heap.size := by obtain ⟨m, hm⟩ := k0; exact DataW.trod_lt m _ _ _ hm
  obtain ⟨p0, n0, cap0, c0, rfl, g0⟩ := open_arch (hval 0 46 v0 rfl rfl) h0
  have k1 := h1
  have lt1 : ∀ x ∈ p1, x.block < W.heap.size := by obtain ⟨m, hm⟩ := k1; exact DataW.trod_lt m _ _ _ hm
  obtain ⟨p1, n1, cap1, c1, rfl, g1⟩ := open_loads (hval 1 47 v1 rfl rfl) h1
  have k2 := h2
  have lt2 : ∀ x ∈ p2, x.block < W.heap.size := by obtain ⟨m, hm⟩ := k2; exact DataW.trod_lt m _ _ _ hm
  obtain ⟨jx2, jy2, jz2, ju2, rfl, g2⟩ := open_thrust (hval 2 48 v2 rfl rfl) h2
  clear hA0 hval0
  refine (walk p0 n0 cap0 c0 p1 n1 cap1 c1 jx2 jy2 jz2 ju2 W g0 g1 g2).mono fun e W' ⟨he, bel⟩ => ?_
  subst he
  exact ⟨_, rfl, _, _, _, [], _, [], hW', trodAll_mk1 (shut_bool Try.underlying4 _), (trodAll_cons_mk (Below.trod laidOut (by kernel_rfl) (of_decide_eq_true (by kernel_rfl)) k0 bel lt0) (trodAll_cons_mk (Below.trod laidOut (by kernel_rfl) (of_decide_eq_true (by kernel_rfl)) k1 bel lt1) (trodAll_cons_mk (Below.trod laidOut (by kernel_rfl) (of_decide_eq_true (by kernel_rfl)) k2 bel lt2) trodAll_mk0))), rfl, bel.frame _, fun h => by cases h⟩

theorem over : Rows.fnExactPlacesOfRow.holds Try.pinned (OpenSpec.ofChange Rows.fnExactPlacesOfSpec) :=
  OpenClaim.holds_of_wide 4 Try.f4 rfl rfl rfl rfl rfl rfl rfl ⟨rfl, rfl, rfl, rfl, rfl⟩ rfl rfl rfl rfl rfl (by kernel_rfl) Try.func4 (by kernel_rfl)
    (of_decide_eq_true (by kernel_rfl)) (by unfold Func.isWrapper; first | (rw [if_pos (by decide +kernel)]; kernel_rfl) | (rw [if_neg (by decide +kernel)]; exact ⟨rfl, rfl⟩))
    (fun os started H enc _ => lifted os started H enc)

/-- THE STATEMENT. -/
theorem proved : Rows.FnExactPlacesOfSaid := over
#print axioms proved
end Go.Proofs.Ytbmlcfdilopmgaa.fnExactPlacesOf
