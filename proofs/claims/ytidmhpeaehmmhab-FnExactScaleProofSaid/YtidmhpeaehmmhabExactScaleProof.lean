/- For every list of conditions, every proof and every number, FnExactScaleProof answers true: the program's ScaleProof answers what the model's answers, in new memory, and writes into no argument. No condition. -/
import Derived.Test.YtidmhpeaehmmhabProofT
import Derived.Test.YtidmhpeaehmmhabPrK
import Derived.Test.YtidmhpeaehmmhabCdK
import Derived.Test.YtidmhpeaehmmhabThrustX
import Derived.Test.YtidmhpeaehmmhabStepC
import Derived.Test.YtidmhpeaehmmhabRows
import Derived.WalkKit
import Derived.ProofKit
import Derived.OpenShut
import Derived.ShutString
import Derived.ChangeOld
import Derived.Below
namespace Go.Proofs.Ytidmhpeaehmmhab.fnExactScaleProof
set_option maxRecDepth 100000
open Go.ChangeShapes Go.WideShapes Go.ChangeAt Go.RowKit
open Go.ChangeMaps (open_string shut_string)
set_option linter.unusedVariables false

theorem own : ownKnob Try.prog.godebug = none := by kernel_rfl
theorem laidOut : laidOutB Try.prog = true := by kernel_rfl

set_option linter.unusedSimpArgs false
theorem InRow.setCellB {w : World} {B b : Nat} {v : Value} {l : List Int} (h : InRow w B v l) (hb : ∀ k, v.ownBlock = some k → b ≠ k) (o : Nat) (u : Value) : InRow (w.setCell ⟨b, o, none⟩ u) B v l := InRow.setCell h hb o u

/-! ### THE WALK: the Go text returns true, and writes nothing that was there. -/
set_option maxRecDepth 100000 in
set_option maxHeartbeats 8000000 in
theorem walk (p0 : Option Addr) (n0 cap0 : Nat) (c0 : List Cd) (p1 : Option Addr) (n1 cap1 : Nat) (c1 : List Int) (q1 : Option Addr) (m1 kap1 : Nat) (e1 : List Int) (a2 : Int) (w : World) (g0 : InCds w p0 n0 cap0 c0) (g1 : InNs w p1 n1 cap1 c1 ∧ InNs w q1 m1 kap1 e1) (g2 : (Lit.int .i64 a2).wf = true) :
    Calls Try.prog 5 #[.slice p0 n0 cap0, .agg #[.slice p1 n1 cap1, .slice q1 m1 kap1], .int .i64 a2] w fun e w' => e = .returned (.bool true) ∧ Below w.heap.size w w' := by
  obtain ⟨g1a, g1b⟩ := g1
  have hm0 : n0 ≤ maxLen := Nat.le_trans g0.2.1 g0.2.2.1
  have hm1 : n1 ≤ maxLen := Nat.le_trans g1a.room.1 g1a.room.2
  have hm2 : m1 ≤ maxLen := Nat.le_trans g1b.room.1 g1b.room.2
  have hcl := g0.1
  have hl1 := g1a.len
  have hl2 := g1b.len
  have G0 := Lib.hid g0
  have GA := Lib.hid g1a
  have GB := Lib.hid g1b
  clear g0 g1a g1b
  have HB0 := Lib.hid ((Below.refl w.heap.size w).alloc (Nat.le_refl _) (.cells #[.slice p1 n1 cap1, .slice q1 m1 kap1] 25))
  have HX0 := Lib.hid (pbox_alloc w p1 q1 n1 cap1 m1 kap1 25)
  by_cases hs : n0 ≤ 1048576
  case neg =>
    have HY := Lib.hid (show szCd n0 1048576 = -1 by unfold szCd; rw [if_neg (by omega)])
    clear hcl hl1 hl2
    go_enter Try.func5, Try.ntmps5
    go_wp2_with fail
    refine (szRowS _ _ _ _ _ hm0 ⟨by omega, by omega⟩).mono ?_
    rintro e wq ⟨rfl, rfl⟩
    rw [HY.out]
    go_wp2_with fail
    go_ret
    exact ⟨rfl, HB0.out⟩
  have HY := Lib.hid (show szCd n0 1048576 = 1048576 - (n0 : Int) by unfold szCd; rw [if_pos (by omega)])
  obtain ⟨L, hL⟩ : ∃ L : Int, L = 1048576 - (n0 : Int) := ⟨_, rfl⟩
  rw [← hL] at HY
  have hL0 : ¬ L < 0 := by omega
  have hL1 : decide (L < 0) = false := decide_eq_false hL0
  have HLB := Lib.hid (show 0 ≤ L ∧ L ≤ 1048576 by omega)
  have HLQ := Lib.hid hL
  have HCL := Lib.hid hcl
  have HL1 := Lib.hid hl1
  have HL2 := Lib.hid hl2
  clear hL hcl hl1 hl2
  go_enter Try.func5, Try.ntmps5
  go_wp2_with fail
  refine (szRowS _ _ _ _ _ hm0 ⟨by omega, by omega⟩).mono ?_
  rintro e wq ⟨rfl, rfl⟩
  rw [HY.out]
  obtain ⟨k0, k1⟩ := id HX0.out
  go_wp2_with fail
  refine (szProof _ _ _ _ _ _ _ _ hm1 hm2 HLB.out).mono ?_
  rintro e w1 ⟨rfl, hb1⟩
  have HB1 := Lib.hid (HB0.out.trans (hb1.mono HB0.out.size))
  have HX1 := Lib.hid (HX0.out.below hb1)
  clear hb1 HB0 HX0 k0 k1
  by_cases hs1 : (n1 : Int) + m1 ≤ L
  case neg =>
    have HZ := Lib.hid (show szP n1 m1 L = -1 from if_neg hs1)
    rw [HZ.out]
    clear hs1
    go_wp2_with fail
    go_ret
    exact ⟨rfl, HB1.out⟩
  have HZZ := Lib.hid (show szP n1 m1 L = L - n1 - m1 from if_pos hs1)
  obtain ⟨Q0, hQ⟩ : ∃ Q0 : Int, Q0 = L - n1 - m1 := ⟨_, rfl⟩
  rw [← hQ] at HZZ
  have hQ0 : ¬ Q0 < 0 := by omega
  have hQ1 : decide (Q0 < 0) = false := decide_eq_false hQ0
  have hLb := HLB.out
  have hn1 : n1 ≤ 1048576 := by omega
  have hn2 : m1 ≤ 1048576 := by omega
  rw [HZZ.out]
  clear hQ hs1 hLb
  have hRl : (scRows c0 c1 e1 a2).length ≤ 1048576 := by
    unfold scRows
    split
    · rw [HL1.out]; exact hn1
    · simp
  have hQl : (scFacs c0 c1 e1 a2).length ≤ 1048576 := by
    unfold scFacs
    split
    · rw [tms_length, HL2.out]; exact hn2
    · simp
  generalize hR : scRows c0 c1 e1 a2 = R at *
  generalize hFq : scFacs c0 c1 e1 a2 = Q at *
  generalize hO : scOk c0 c1 e1 a2 = O at *
  have HVR := Lib.hid hR
  have HVF := Lib.hid hFq
  have HVO := Lib.hid hO
  have hoo : (O != O) = false := by simp
  clear hR hFq hO
  obtain ⟨H, hH⟩ : ∃ H, H = w.heap.size := ⟨_, rfl⟩
  have HH := Lib.hid hH
  rw [← hH] at HX1 ⊢
  clear hH
  obtain ⟨k0, k1⟩ := id HX1.out
  go_upto_region 8 with fail
  generalize hW : w1 = W at *
  clear hW
  have F0 := Lib.hid (fun (U : World) (hU : Below W.heap.size W U) => HX1.out.below hU)
  have ZZ := Lib.hid (Below.refl W.heap.size W)
  have G0W := Lib.hid (G0.out.below HB1.out)
  have GAW := Lib.hid (GA.out.below HB1.out)
  have GBW := Lib.hid (GB.out.below HB1.out)
  have c1' := Nat.ne_of_lt (cell_block_lt k0)
  dsimp only at c1'
  have c2' := Ne.symm c1'
  go_cut [8, 9] from 29 to 37 (fun p q wx => ∃ (bw : Nat) (wa : Option Addr) (wc : Nat) (wb : Option Addr) (wd : Nat), p = .pointer (some ⟨bw, 0, none⟩) ∧ q = .bool O ∧ W.heap.size ≤ bw ∧ bw < wx.heap.size ∧ PV wx bw wa R.length wc wb Q.length wd R Q ∧ Below W.heap.size W wx)
  case first =>
    go_region_held3 (fun w' => w'.cell? ⟨H, 0, none⟩ = some (.slice p1 n1 cap1) ∧ w'.cell? ⟨H, 1, none⟩ = some (.slice q1 m1 kap1))
      (first | (exact F0.out _ ZZ.out) | (exact F0.out _ (tbelowD ZZ.out)) | (exact F0.out _ (below_drewN ZZ.out _)) | (exact F0.out _ (cal ZZ.out _)) | (exact F0.out _ (cal (tbelowD ZZ.out) _)) | (exact F0.out _ (cal (below_drewN ZZ.out _) _)) | (exact F0.out _ (tbelowD (cal ZZ.out _))) | (refine ⟨?_, ?_⟩ <;> exact tcell_sf (by assumption) (by assumption)) | go_keep | trivial)
      (first
        | (go_at_call 9; refine (toRowS _ _ _ c0 _ (G0W.out.below (by first | exact ZZ.out | exact tbelowD ZZ.out | exact below_drewN ZZ.out _ | exact cal ZZ.out _ | exact cal (below_drewN ZZ.out _) _)) hs).mono ?_; rintro e y ⟨ga, hga, rfl, ra, hy⟩; (first | (have z := fp_al hy) | (have z := fp_dal hy) | (have z := fp_keep HZ (by first | exact hy | exact ts_drew hy | exact ts_al hy | exact ts_dal hy)) | skip); have SZ1 := hy.size; have ZZ : RowKit.Hid (Below W.heap.size W y) := Lib.hid (by first | exact cstep ZZ hy | exact cstepD ZZ hy | exact cstepA ZZ hy | exact cstepDA ZZ hy); have RA := Lib.hid ra; clear hy ra hga; have sz := ZZ.out.size; obtain ⟨k0, k1⟩ := F0.out _ ZZ.out; have nc1 := Nat.ne_of_lt (cell_block_lt k0); dsimp only at nc1; have nc2 := Ne.symm nc1; (try (have HZ := Lib.hid z; obtain ⟨zc, zd, ze, zf, zl⟩ := z)))
        | (go_at_call 10; refine (toProof _ _ _ _ _ _ c1 e1 _ (GAW.out.below (by first | exact ZZ.out | exact tbelowD ZZ.out | exact below_drewN ZZ.out _ | exact cal ZZ.out _ | exact cal (below_drewN ZZ.out _) _)) (GBW.out.below (by first | exact ZZ.out | exact tbelowD ZZ.out | exact below_drewN ZZ.out _ | exact cal ZZ.out _ | exact cal (below_drewN ZZ.out _) _)) hn1 hn2).mono ?_; rintro e y ⟨gp, gf, hgp, hgf, rfl, rp, rf, hy⟩; (first | (have z := fp_al hy) | (have z := fp_dal hy) | (have z := fp_keep HZ (by first | exact hy | exact ts_drew hy | exact ts_al hy | exact ts_dal hy)) | skip); have SZ2 := hy.size; have RA := Lib.hid (RA.out.below (by first | exact hy | exact ts_drew hy | exact ts_al hy | exact ts_dal hy)); have ZZ : RowKit.Hid (Below W.heap.size W y) := Lib.hid (by first | exact cstep ZZ hy | exact cstepD ZZ hy | exact cstepA ZZ hy | exact cstepDA ZZ hy); have RP := Lib.hid rp; have RF := Lib.hid rf; clear hy rp rf hgp hgf; have sz := ZZ.out.size; obtain ⟨k0, k1⟩ := F0.out _ ZZ.out; have nc1 := Nat.ne_of_lt (cell_block_lt k0); dsimp only at nc1; have nc2 := Ne.symm nc1; (try (have HZ := Lib.hid z; obtain ⟨zc, zd, ze, zf, zl⟩ := z)))
        | (go_at_call 16; refine (specScaleProof _ _ _ _ _ _ _ _ _ _ _ _ _ c0 c1 e1 a2 (by first | exact RP.out | exact RP.out.below (tbelowD (Below.refl _ _)) | exact RP.out.below (below_drewN (Below.refl _ _) _) | exact RP.out.below (cal (Lib.hid (Below.refl _ _)).out _) | exact RP.out.below (cal (below_drewN (Below.refl _ _) _) _)) (by first | exact RF.out | exact RF.out.below (tbelowD (Below.refl _ _)) | exact RF.out.below (below_drewN (Below.refl _ _) _) | exact RF.out.below (cal (Lib.hid (Below.refl _ _)).out _) | exact RF.out.below (cal (below_drewN (Below.refl _ _) _) _)) (by first | exact RA.out | exact RA.out.below (tbelowD (Below.refl _ _)) | exact RA.out.below (below_drewN (Below.refl _ _) _) | exact RA.out.below (cal (Lib.hid (Below.refl _ _)).out _) | exact RA.out.below (cal (below_drewN (Below.refl _ _) _) _)) hn1 ⟨_, rfl⟩).mono ?_; rintro e y ⟨va, vb, rfl, r1, r2, hd, hy⟩; rw [HVO.out]; rw [HVR.out] at r1; rw [HVF.out] at r2; obtain ⟨wa, wc, rfl, -, -⟩ := inrow_slice r1; obtain ⟨wb, wd, rfl, -, -⟩ := inrow_slice r2; (first | (have z := fp_al hy) | (have z := fp_dal hy) | (have z := fp_keep HZ (by first | exact hy | exact ts_drew hy | exact ts_al hy | exact ts_dal hy)) | skip); have SZ3 := hy.size; have R1 := Lib.hid r1; have R2 := Lib.hid r2; have HD := Lib.hid hd; have ZZ : RowKit.Hid (Below W.heap.size W y) := Lib.hid (by first | exact cstep ZZ hy | exact cstepD ZZ hy | exact cstepA ZZ hy | exact cstepDA ZZ hy); clear hy r1 r2 hd; have sz := ZZ.out.size; obtain ⟨k0, k1⟩ := F0.out _ ZZ.out; have nc1 := Nat.ne_of_lt (cell_block_lt k0); dsimp only at nc1; have nc2 := Ne.symm nc1; (try (have HZ := Lib.hid z; obtain ⟨zc, zd, ze, zf, zl⟩ := z))))
    all_goals
      go_wp2_with fail
      go_meet
      have q6 := ZZ.out.size
      have l1 := fun k hk => World.ownsRow.lt R1.out k hk
      have l2 := fun k hk => World.ownsRow.lt R2.out k hk
      simp at SZ1 SZ2 SZ3
      try simp only [World.size_alloc, World.heap_drewN] at l1 l2
    all_goals first
      | exact ⟨_, wa, wc, wb, wd, rfl, rfl, q6, by simp, ⟨pbox_alloc _ _ _ _ _ _ _ _, ⟨(R1.out.base (Nat.zero_le _)).alloc _, rfl⟩, ⟨(R2.out.base (Nat.zero_le _)).alloc _, rfl⟩⟩, cal ZZ.out _⟩
      | (refine ⟨_, wa, wc, wb, wd, rfl, rfl, ?_, ?_, ⟨?_, ⟨InRow.setCellB (InRow.setCellB (R1.out.base (Nat.zero_le _)) ?_ _ _) ?_ _ _, rfl⟩, ⟨InRow.setCellB (InRow.setCellB (R2.out.base (Nat.zero_le _)) ?_ _ _) ?_ _ _, rfl⟩⟩, ?_⟩ <;> first
          | exact Nat.le_refl _
          | (simp only [World.size_setCell]; omega)
          | omega
          | (intro k hk; have h1 := l1 k hk; omega)
          | (intro k hk; have h2 := l2 k hk; omega)
          | (refine ⟨?_, ?_⟩ <;> go_simp; done)
          | exact (ZZ.out.setCell (p := ⟨_, 0, none⟩) (by first | exact Nat.le_refl _ | (dsimp only; omega)) _).setCell (p := ⟨_, 1, none⟩) (by first | exact Nat.le_refl _ | (dsimp only; omega)) _)
  case rest =>
    obtain ⟨bw, wa, wc, wb, wd, rfl, rfl, hbw0, hbw1, hpv, hbx⟩ := hcut
    have HB2 := Lib.hid (HB1.out.trans (hbx.mono HB1.out.size))
    have HX2 := Lib.hid (HX1.out.below hbx)
    have PW2 := Lib.hid hpv
    have hHW : H < W.heap.size := cell_block_lt HX1.out.1
    have l1 := fun k hk => (World.ownsRow.lt hpv.one.1 k hk).2
    have l2 := fun k hk => (World.ownsRow.lt hpv.two.1 k hk).2
    rename World => w2
    obtain ⟨s1, hs1⟩ : ∃ s1, s1 = w2.heap.size := ⟨_, rfl⟩
    have IW := Lib.hid (show H < bw ∧ bw < s1 ∧ (∀ k, (Value.slice wa R.length wc).ownBlock = some k → k < s1) ∧ ∀ k, (Value.slice wb Q.length wd).ownBlock = some k → k < s1 from ⟨by omega, by omega, fun k hk => by have := l1 k hk; omega, fun k hk => by have := l2 k hk; omega⟩)
    have HS1 := Lib.hid hs1
    clear hbx hpv l1 l2 hs1 hbw0 hbw1 hHW F0 ZZ HB1 HX1 k0 k1 G0W GAW GBW c1' c2'
    go_wp2_with fail
    refine (toRowS _ _ _ c0 _ (G0.out.below HB2.out) hs).mono ?_
    rintro e w3 ⟨gx, hgx, rfl, rx, hb3⟩
    have RX3 := Lib.hid rx
    have hgl := (World.ownsRow.lt rx.1 gx rfl).2
    obtain ⟨s2, hs2⟩ : ∃ s2, s2 = w3.heap.size := ⟨_, rfl⟩
    have IGX := Lib.hid (show s1 ≤ gx ∧ gx < s2 by have := HS1.out; omega)
    have HS2 := Lib.hid hs2
    clear rx hgl hgx hs2 HS1
    have HB3 := Lib.hid (HB2.out.trans (hb3.mono HB2.out.size))
    have HX3 := Lib.hid (HX2.out.below hb3)
    have PW3 := Lib.hid (PW2.out.below hb3)
    clear hb3 HB2 HX2 PW2
    obtain ⟨k0, k1⟩ := id HX3.out
    go_wp2_with fail
    refine (toProof _ _ _ _ _ _ c1 e1 _ (GA.out.below HB3.out) (GB.out.below HB3.out) hn1 hn2).mono ?_
    rintro e w4 ⟨gp, gf, hgp, hgf, rfl, rp, rf, hb4⟩
    have hal := pr_al w4 (.cells #[.slice (some ⟨gp, 0, none⟩) n1 n1, .slice (some ⟨gf, 0, none⟩) m1 m1] 32)
    have hb5 : Below w3.heap.size w3 _ := hb4.trans (hal.mono hb4.size)
    have PX5 : RowKit.Hid (PV (w4.alloc (.cells #[.slice (some ⟨gp, 0, none⟩) n1 n1, .slice (some ⟨gf, 0, none⟩) m1 m1] 32)) w4.heap.size (some ⟨gp, 0, none⟩) n1 n1 (some ⟨gf, 0, none⟩) m1 m1 c1 e1) := Lib.hid ⟨pbox_alloc _ _ _ _ _ _ _ _, (rp.below hal).base (Nat.zero_le _), (rf.below hal).base (Nat.zero_le _)⟩
    have RX5 := Lib.hid (RX3.out.below hb5)
    have hl4 := (World.ownsRow.lt rp.1 gp rfl).2
    have hl5 := (World.ownsRow.lt rf.1 gf rfl).2
    have hz4 := hb4.size
    obtain ⟨bi, hbi⟩ : ∃ bi, w4.heap.size = bi := ⟨_, rfl⟩
    have IX := Lib.hid (show s2 ≤ gp ∧ gp < gf ∧ gf < bi ∧ s2 ≤ bi by have := HS2.out; omega)
    have hz5 : (w4.alloc (.cells #[.slice (some ⟨gp, 0, none⟩) n1 n1, .slice (some ⟨gf, 0, none⟩) m1 m1] 32)).heap.size = bi + 1 := by simp [hbi]
    clear rp rf hl4 hl5 hz4 hal hb4 HS2 hgp hgf
    have HB5 := Lib.hid (HB3.out.trans (hb5.mono HB3.out.size))
    have HX5 := Lib.hid (HX3.out.below hb5)
    have PW5 := Lib.hid (PW3.out.below hb5)
    clear hb5 HB3 HX3 PW3
    clear RX3 k0 k1
    obtain ⟨i0, i1⟩ := id PX5.out.box
    have HBI := Lib.hid hbi
    go_wp2_with fail
    refine (implScaleProof _ _ _ _ _ _ _ _ _ _ _ _ _ c0 c1 e1 a2 PX5.out.one PX5.out.two RX5.out).mono ?_
    rintro e w6 ⟨va, vb, rfl, r1, r2, hd, hb6⟩
    rw [HVO.out]
    rw [HVR.out] at r1
    rw [HVF.out] at r2
    obtain ⟨ga, gc, rfl, -, -⟩ := inrow_slice r1
    obtain ⟨gb, gd, rfl, -, -⟩ := inrow_slice r2
    rw [hz5] at r1 r2
    rw [hbi] at PX5
    have l1 := fun k hk => World.ownsRow.lt r1 k hk
    have l2 := fun k hk => World.ownsRow.lt r2 k hk
    have hz6 : bi + 1 ≤ w6.heap.size := by have := hb6.size; omega
    have hal := pr_al w6 (.cells #[.slice ga R.length gc, .slice gb Q.length gd] 32)
    have PG7 : RowKit.Hid (PV (w6.alloc (.cells #[.slice ga R.length gc, .slice gb Q.length gd] 32)) w6.heap.size ga R.length gc gb Q.length gd R Q) := Lib.hid ⟨pbox_alloc _ _ _ _ _ _ _ _, ⟨(r1.below hal).base (Nat.zero_le _), rfl⟩, ⟨(r2.below hal).base (Nat.zero_le _), rfl⟩⟩
    have HDG := Lib.hid hd
    obtain ⟨bg, hbg⟩ : ∃ bg, w6.heap.size = bg := ⟨_, rfl⟩
    have IG := Lib.hid (show bi < bg ∧ (∀ k, (Value.slice ga R.length gc).ownBlock = some k → bi < k ∧ k < bg) ∧ ∀ k, (Value.slice gb Q.length gd).ownBlock = some k → bi < k ∧ k < bg from ⟨by omega, fun k hk => by have := l1 k hk; omega, fun k hk => by have := l2 k hk; omega⟩)
    have hb7 := hb6.trans (hal.mono hb6.size)
    clear r1 r2 hd l1 l2 hz6 hz5 hal hb6 i0 i1 hbi
    have RX7 := Lib.hid (RX5.out.below hb7)
    clear RX5
    have HB7 := Lib.hid (HB5.out.trans (hb7.mono HB5.out.size))
    have HX7 := Lib.hid (HX5.out.below hb7)
    have PW7 := Lib.hid (PW5.out.below hb7)
    have PX7 := Lib.hid (PX5.out.below hb7)
    clear hb7 HB5 HX5 PW5 PX5
    have HBG := Lib.hid hbg
    obtain ⟨i0, i1⟩ := id PG7.out.box
    obtain ⟨j0, j1⟩ := id PW7.out.box
    go_wp2_with fail
    refine (eqProof_same _ _ _ _ _ _ _ _ _ _ _ _ _ _ _ R Q PG7.out.one PG7.out.two PW7.out.one PW7.out.two).mono ?_
    rintro e w8 ⟨rfl, hb8⟩
    rw [hbg] at PG7
    clear i0 i1 j0 j1 hbg
    have RX8 := Lib.hid (RX7.out.below hb8)
    clear RX7
    have HB8 := Lib.hid (HB7.out.trans (hb8.mono HB7.out.size))
    have HX8 := Lib.hid (HX7.out.below hb8)
    have PW8 := Lib.hid (PW7.out.below hb8)
    have PX8 := Lib.hid (PX7.out.below hb8)
    have PG8 := Lib.hid (PG7.out.below hb8)
    clear hb8 HB7 HX7 PW7 PX7 PG7
    go_wp2_with fail
    refine (toRowS _ _ _ c0 _ (G0.out.below HB8.out) hs).mono ?_
    rintro e w9 ⟨gy, -, rfl, ry, hb9⟩
    have RY := Lib.hid ry
    have RX9 := Lib.hid (RX8.out.below hb9)
    clear RX8 ry
    have HB9 := Lib.hid (HB8.out.trans (hb9.mono HB8.out.size))
    have HX9 := Lib.hid (HX8.out.below hb9)
    have PW9 := Lib.hid (PW8.out.below hb9)
    have PX9 := Lib.hid (PX8.out.below hb9)
    have PG9 := Lib.hid (PG8.out.below hb9)
    clear hb9 HB8 HX8 PW8 PX8 PG8
    go_wp2_with fail
    refine (eqRowS_same _ _ _ _ _ _ _ _ c0 RX9.out RY.out).mono ?_
    rintro e w10 ⟨rfl, hb10⟩
    have RX10 := Lib.hid (RX9.out.below hb10)
    clear RX9 RY
    have HB10 := Lib.hid (HB9.out.trans (hb10.mono HB9.out.size))
    have HX10 := Lib.hid (HX9.out.below hb10)
    have PW10 := Lib.hid (PW9.out.below hb10)
    have PX10 := Lib.hid (PX9.out.below hb10)
    have PG10 := Lib.hid (PG9.out.below hb10)
    clear hb10 HB9 HX9 PW9 PX9 PG9
    obtain ⟨k0, k1⟩ := id HX10.out
    obtain ⟨i0, i1⟩ := id PX10.out.box
    go_upto_region 16 with fail
    generalize hW : w10 = W at *
    clear hW
    have F0 := Lib.hid (fun (U : World) (hU : Below W.heap.size W U) => (⟨(HX10.out.below hU).1, (HX10.out.below hU).2, (PX10.out.box.below hU).1, (PX10.out.box.below hU).2⟩ : U.cell? ⟨H, 0, none⟩ = some (.slice p1 n1 cap1) ∧ U.cell? ⟨H, 1, none⟩ = some (.slice q1 m1 kap1) ∧ U.cell? ⟨bi, 0, none⟩ = some (.slice (some ⟨gp, 0, none⟩) n1 n1) ∧ U.cell? ⟨bi, 1, none⟩ = some (.slice (some ⟨gf, 0, none⟩) m1 m1)))
    have ZZ := Lib.hid (Below.refl W.heap.size W)
    have GAW := Lib.hid (GA.out.below HB10.out)
    have GBW := Lib.hid (GB.out.below HB10.out)
    go_cut [67] from 63 to 66 (fun r wx => r = .bool false ∧ Below W.heap.size W wx)
    case first =>
      go_region_held3 (fun w' => w'.cell? ⟨H, 0, none⟩ = some (.slice p1 n1 cap1) ∧ w'.cell? ⟨H, 1, none⟩ = some (.slice q1 m1 kap1) ∧ w'.cell? ⟨bi, 0, none⟩ = some (.slice (some ⟨gp, 0, none⟩) n1 n1) ∧ w'.cell? ⟨bi, 1, none⟩ = some (.slice (some ⟨gf, 0, none⟩) m1 m1))
        (first | (exact F0.out _ ZZ.out) | (exact F0.out _ (tbelowD ZZ.out)) | (exact F0.out _ (below_drewN ZZ.out _)) | go_keep | trivial)
        (first
          | (go_at_call 10; refine (toProof _ _ _ _ _ _ c1 e1 _ (GAW.out.below (by first | exact ZZ.out | exact tbelowD ZZ.out | exact below_drewN ZZ.out _)) (GBW.out.below (by first | exact ZZ.out | exact tbelowD ZZ.out | exact below_drewN ZZ.out _)) hn1 hn2).mono ?_; rintro e y ⟨gp2, gf2, hgp2, hgf2, rfl, rp2, rf2, hy⟩; have ZZ : RowKit.Hid (Below W.heap.size W y) := Lib.hid (by first | exact cstep ZZ hy | exact cstepD ZZ hy); have RP2 := Lib.hid rp2; have RF2 := Lib.hid rf2; have RP9 := Lib.hid (PX10.out.one.below ZZ.out); have RF9 := Lib.hid (PX10.out.two.below ZZ.out); clear hy rp2 rf2 hgp2 hgf2; obtain ⟨k0, k1, i0, i1⟩ := F0.out _ ZZ.out)
          | (go_at_call 13; refine (eqProof_same _ _ _ _ _ _ _ _ _ _ _ _ _ _ _ c1 e1 (by first | exact RP9.out | exact RP9.out.below (tbelowD (Below.refl _ _)) | exact RP9.out.below (below_drewN (Below.refl _ _) _) | exact RP9.out.below (cal (Lib.hid (Below.refl _ _)).out _) | exact RP9.out.below (cal (below_drewN (Below.refl _ _) _) _)) (by first | exact RF9.out | exact RF9.out.below (tbelowD (Below.refl _ _)) | exact RF9.out.below (below_drewN (Below.refl _ _) _) | exact RF9.out.below (cal (Lib.hid (Below.refl _ _)).out _) | exact RF9.out.below (cal (below_drewN (Below.refl _ _) _) _)) (by first | exact RP2.out | exact RP2.out.below (tbelowD (Below.refl _ _)) | exact RP2.out.below (below_drewN (Below.refl _ _) _) | exact RP2.out.below (cal (Lib.hid (Below.refl _ _)).out _) | exact RP2.out.below (cal (below_drewN (Below.refl _ _) _) _)) (by first | exact RF2.out | exact RF2.out.below (tbelowD (Below.refl _ _)) | exact RF2.out.below (below_drewN (Below.refl _ _) _) | exact RF2.out.below (cal (Lib.hid (Below.refl _ _)).out _) | exact RF2.out.below (cal (below_drewN (Below.refl _ _) _) _))).mono ?_; rintro e y ⟨rfl, hy⟩; have ZZ : RowKit.Hid (Below W.heap.size W y) := Lib.hid (by first | exact cstep ZZ hy | exact cstepD ZZ hy); clear hy; obtain ⟨k0, k1, i0, i1⟩ := F0.out _ ZZ.out))
      all_goals
        go_wp2_with fail
        go_meet
        exact ⟨rfl, ZZ.out⟩
    case rest =>
      obtain ⟨rfl, hb11⟩ := hcut
      have RX11 := Lib.hid (RX10.out.below hb11)
      clear F0 ZZ k0 k1 i0 i1 GAW GBW RX10
      have HB11 := Lib.hid (HB10.out.trans (hb11.mono HB10.out.size))
      have HX11 := Lib.hid (HX10.out.below hb11)
      have PW11 := Lib.hid (PW10.out.below hb11)
      have PX11 := Lib.hid (PX10.out.below hb11)
      have PG11 := Lib.hid (PG10.out.below hb11)
      clear hb11 HB10 HX10 PW10 PX10 PG10
      rename World => w11
      have hiw := IW.out
      have higx := IGX.out
      have hix := IX.out
      have hig := IG.out
      go_wp2_with fail
      refine (markCds _ _ _ c0 RX11.out.1 (by have := HCL.out; omega)).mono ?_
      rintro e w12 ⟨rfl, -, z1, z2, z3, z4, z5⟩
      have hg12 : w11.grownBy w12 (some gx) := ⟨z2, z3, z4, z1, z5⟩
      clear z1 z2 z3 z4 z5
      have HX12 := Lib.hid (HX11.out.grown hg12 (by simp; omega))
      have PW12 := Lib.hid (PW11.out.kept hg12 (by simp; omega) (fun k hk => by have := hiw.2.2.1 k hk; simp; omega) (fun k hk => by have := hiw.2.2.2 k hk; simp; omega))
      have PX12 := Lib.hid (PX11.out.kept hg12 (by simp; omega) (fun k hk => by simp [Value.ownBlock] at hk; simp; omega) (fun k hk => by simp [Value.ownBlock] at hk; simp; omega))
      have PG12 := Lib.hid (PG11.out.kept hg12 (by simp; omega) (fun k hk => by have := hig.2.1 k hk; simp; omega) (fun k hk => by have := hig.2.2 k hk; simp; omega))
      have HB12 := Lib.hid (HB11.out.grown hg12 HB11.out.size (fun k hk => by cases hk; have := HH.out; omega))
      clear hg12 HX11 PW11 PX11 PG11 HB11 RX11
      rw [HCL.out]
      obtain ⟨K, hK⟩ : ∃ K, K = 1 + 4 * (n0 : Int) := ⟨_, rfl⟩
      rw [← hK]
      have hKb : 0 ≤ K ∧ K ≤ 6000000 := by omega
      obtain ⟨K2, hK2⟩ : ∃ K2, K2 = K + (n1 : Int) + m1 := ⟨_, rfl⟩
      have HK2 := Lib.hid hK2
      have hK20 : ¬ K2 < 0 := by omega
      have hK21 : decide (K2 < 0) = false := decide_eq_false hK20
      have HKB := Lib.hid hKb
      clear hK hK2 hKb hiw higx hix hig
      obtain ⟨i0, i1⟩ := id PX12.out.box
      go_wp2_with fail
      have hix := IX.out
      refine (markProof _ _ _ _ _ _ _ c1 e1 K HKB.out PX12.out.one PX12.out.two (fun k hk => by simp [Value.ownBlock] at hk ⊢; omega) hn1 hn2).mono ?_
      rintro e w13 ⟨rfl, -, -, wm, hga, hgb⟩
      rw [← HK2.out]
      have hiw := IW.out
      have higx := IGX.out
      have hig := IG.out
      have e1' : (Value.slice (some ⟨gp, 0, none⟩) n1 n1).ownBlock = some gp := rfl
      have e2' : (Value.slice (some ⟨gf, 0, none⟩) m1 m1).ownBlock = some gf := rfl
      rw [e1'] at hga
      rw [e2'] at hgb
      have HX13 := Lib.hid ((HX12.out.grown hga (by simp; omega)).grown hgb (by simp; omega))
      have PW13 := Lib.hid ((PW12.out.kept hga (by simp; omega) (fun k hk => by have := hiw.2.2.1 k hk; simp; omega) (fun k hk => by have := hiw.2.2.2 k hk; simp; omega)).kept hgb (by simp; omega) (fun k hk => by have := hiw.2.2.1 k hk; simp; omega) (fun k hk => by have := hiw.2.2.2 k hk; simp; omega))
      have PG13 := Lib.hid ((PG12.out.kept hga (by simp; omega) (fun k hk => by have := hig.2.1 k hk; simp; omega) (fun k hk => by have := hig.2.2 k hk; simp; omega)).kept hgb (by simp; omega) (fun k hk => by have := hig.2.1 k hk; simp; omega) (fun k hk => by have := hig.2.2 k hk; simp; omega))
      have HB13 := Lib.hid ((HB12.out.grown hga HB12.out.size (fun k hk => by cases hk; have := HH.out; omega)).grown hgb (Nat.le_trans HB12.out.size hga.size) (fun k hk => by cases hk; have := HH.out; omega))
      clear hga hgb e1' e2' HX12 PW12 PG12 HB12 PX12 i0 i1 hiw higx hix hig
      obtain ⟨i0, i1⟩ := id PG13.out.box
      obtain ⟨j0, j1⟩ := id PW13.out.box
      go_wp2_with fail
      refine (eqProof_same _ _ _ _ _ _ _ _ _ _ _ _ _ _ _ R Q PG13.out.one PG13.out.two PW13.out.one PW13.out.two).mono ?_
      rintro e w14 ⟨rfl, hb14⟩
      clear i0 i1 j0 j1
      have HB14 := Lib.hid (HB13.out.trans (hb14.mono HB13.out.size))
      have HX14 := Lib.hid (HX13.out.below hb14)
      have PW14 := Lib.hid (PW13.out.below hb14)
      have PG14 := Lib.hid (PG13.out.below hb14)
      clear hb14 HB13 HX13 PW13 PG13
      obtain ⟨i0, i1⟩ := id PG14.out.box
      obtain ⟨M, hM⟩ : ∃ M, M = 1 + (R.length : Int) + Q.length := ⟨_, rfl⟩
      have HM := Lib.hid hM
      have hM0 : ¬ M < 0 := by omega
      have hM1 : decide (M < 0) = false := decide_eq_false hM0
      have hMM : (M != M) = false := by simp
      clear hM
      go_wp2_with fail
      refine (markProof _ _ _ _ _ _ _ R Q 1 ⟨by omega, by omega⟩ PG14.out.one PG14.out.two HDG.out hRl hQl).mono ?_
      rintro e w15 ⟨rfl, hr1, hr2, wm, hga, hgb⟩
      rw [← HM.out]
      have hiw := IW.out
      have hig := IG.out
      have hix := IX.out
      have higx := IGX.out
      have hlo1 : ∀ j, j ≤ bi → some j ≠ (Value.slice ga R.length gc).ownBlock := fun j hj he => by have := hig.2.1 j he.symm; omega
      have hlo2 : ∀ j, j ≤ bi → some j ≠ (Value.slice gb Q.length gd).ownBlock := fun j hj he => by have := hig.2.2 j he.symm; omega
      have HX15 := Lib.hid ((HX14.out.grown hga (hlo1 _ (by omega))).grown hgb (hlo2 _ (by omega)))
      have PW15 := Lib.hid ((PW14.out.kept hga (hlo1 _ (by omega)) (fun k hk => hlo1 k (by have := hiw.2.2.1 k hk; omega)) (fun k hk => hlo1 k (by have := hiw.2.2.2 k hk; omega))).kept hgb (hlo2 _ (by omega)) (fun k hk => hlo2 k (by have := hiw.2.2.1 k hk; omega)) (fun k hk => hlo2 k (by have := hiw.2.2.2 k hk; omega)))
      have PB15 := Lib.hid ((PG14.out.box.grown hga (fun he => by have := hig.2.1 _ he.symm; omega)).grown hgb (fun he => by have := hig.2.2 _ he.symm; omega))
      have HB15 := Lib.hid ((HB14.out.grown hga HB14.out.size (fun k hk => by have := hig.2.1 k hk; have := HH.out; omega)).grown hgb (Nat.le_trans HB14.out.size hga.size) (fun k hk => by have := hig.2.2 k hk; have := HH.out; omega))
      have M115 := Lib.hid hr1
      have M215 := Lib.hid hr2
      clear hga hgb hr1 hr2 HX14 PW14 PG14 HB14 i0 i1 hiw hix hig higx hlo1 hlo2
      obtain ⟨i0, i1⟩ := id PB15.out
      go_wp2_with fail
      refine (heldProof _ _ _ _ _ _ _ 1 ⟨by omega, by omega⟩ M115.out M215.out hRl hQl).mono ?_
      rintro e w16 ⟨rfl, hb16⟩
      rw [← HM.out]
      clear i0 i1
      have HB16 := Lib.hid (HB15.out.trans (hb16.mono HB15.out.size))
      have HX16 := Lib.hid (HX15.out.below hb16)
      have PW16 := Lib.hid (PW15.out.below hb16)
      have PB16 := Lib.hid (PB15.out.below hb16)
      have M116 := Lib.hid (M115.out.below hb16)
      have M216 := Lib.hid (M215.out.below hb16)
      clear hb16 HB15 HX15 PW15 PB15 M115 M215
      obtain ⟨k0, k1⟩ := id HX16.out
      go_upto_region 31 with fail
      generalize hW : w16 = W at *
      clear hW
      have F0 := Lib.hid (fun (U : World) (hU : Below W.heap.size W U) => HX16.out.below hU)
      have ZZ := Lib.hid (Below.refl W.heap.size W)
      have G0W := Lib.hid (G0.out.below HB16.out)
      have GAW := Lib.hid (GA.out.below HB16.out)
      have GBW := Lib.hid (GB.out.below HB16.out)
      have c1' := Nat.ne_of_lt (cell_block_lt k0)
      dsimp only at c1'
      have c2' := Ne.symm c1'
      go_cut [17, 18] from 98 to 106 (fun p q wx => ∃ (bw : Nat) (wa : Option Addr) (wc : Nat) (wb : Option Addr) (wd : Nat), p = .pointer (some ⟨bw, 0, none⟩) ∧ q = .bool O ∧ W.heap.size ≤ bw ∧ bw < wx.heap.size ∧ PV wx bw wa R.length wc wb Q.length wd R Q ∧ Below W.heap.size W wx)
      case first =>
        go_region_held3 (fun w' => w'.cell? ⟨H, 0, none⟩ = some (.slice p1 n1 cap1) ∧ w'.cell? ⟨H, 1, none⟩ = some (.slice q1 m1 kap1))
          (first | (exact F0.out _ ZZ.out) | (exact F0.out _ (tbelowD ZZ.out)) | (exact F0.out _ (below_drewN ZZ.out _)) | (exact F0.out _ (cal ZZ.out _)) | (exact F0.out _ (cal (tbelowD ZZ.out) _)) | (exact F0.out _ (cal (below_drewN ZZ.out _) _)) | (exact F0.out _ (tbelowD (cal ZZ.out _))) | (refine ⟨?_, ?_⟩ <;> exact tcell_sf (by assumption) (by assumption)) | go_keep | trivial)
          (first
            | (go_at_call 9; refine (toRowS _ _ _ c0 _ (G0W.out.below (by first | exact ZZ.out | exact tbelowD ZZ.out | exact below_drewN ZZ.out _ | exact cal ZZ.out _ | exact cal (below_drewN ZZ.out _) _)) hs).mono ?_; rintro e y ⟨ga, hga, rfl, ra, hy⟩; (first | (have z := fp_al hy) | (have z := fp_dal hy) | (have z := fp_keep HZ (by first | exact hy | exact ts_drew hy | exact ts_al hy | exact ts_dal hy)) | skip); have SZ1 := hy.size; have ZZ : RowKit.Hid (Below W.heap.size W y) := Lib.hid (by first | exact cstep ZZ hy | exact cstepD ZZ hy | exact cstepA ZZ hy | exact cstepDA ZZ hy); have RA := Lib.hid ra; clear hy ra hga; have sz := ZZ.out.size; obtain ⟨k0, k1⟩ := F0.out _ ZZ.out; have nc1 := Nat.ne_of_lt (cell_block_lt k0); dsimp only at nc1; have nc2 := Ne.symm nc1; (try (have HZ := Lib.hid z; obtain ⟨zc, zd, ze, zf, zl⟩ := z)))
            | (go_at_call 10; refine (toProof _ _ _ _ _ _ c1 e1 _ (GAW.out.below (by first | exact ZZ.out | exact tbelowD ZZ.out | exact below_drewN ZZ.out _ | exact cal ZZ.out _ | exact cal (below_drewN ZZ.out _) _)) (GBW.out.below (by first | exact ZZ.out | exact tbelowD ZZ.out | exact below_drewN ZZ.out _ | exact cal ZZ.out _ | exact cal (below_drewN ZZ.out _) _)) hn1 hn2).mono ?_; rintro e y ⟨gp, gf, hgp, hgf, rfl, rp, rf, hy⟩; (first | (have z := fp_al hy) | (have z := fp_dal hy) | (have z := fp_keep HZ (by first | exact hy | exact ts_drew hy | exact ts_al hy | exact ts_dal hy)) | skip); have SZ2 := hy.size; have RA := Lib.hid (RA.out.below (by first | exact hy | exact ts_drew hy | exact ts_al hy | exact ts_dal hy)); have ZZ : RowKit.Hid (Below W.heap.size W y) := Lib.hid (by first | exact cstep ZZ hy | exact cstepD ZZ hy | exact cstepA ZZ hy | exact cstepDA ZZ hy); have RP := Lib.hid rp; have RF := Lib.hid rf; clear hy rp rf hgp hgf; have sz := ZZ.out.size; obtain ⟨k0, k1⟩ := F0.out _ ZZ.out; have nc1 := Nat.ne_of_lt (cell_block_lt k0); dsimp only at nc1; have nc2 := Ne.symm nc1; (try (have HZ := Lib.hid z; obtain ⟨zc, zd, ze, zf, zl⟩ := z)))
            | (go_at_call 17; refine (implScaleProof _ _ _ _ _ _ _ _ _ _ _ _ _ c0 c1 e1 a2 (by first | exact RP.out | exact RP.out.below (tbelowD (Below.refl _ _)) | exact RP.out.below (below_drewN (Below.refl _ _) _) | exact RP.out.below (cal (Lib.hid (Below.refl _ _)).out _) | exact RP.out.below (cal (below_drewN (Below.refl _ _) _) _)) (by first | exact RF.out | exact RF.out.below (tbelowD (Below.refl _ _)) | exact RF.out.below (below_drewN (Below.refl _ _) _) | exact RF.out.below (cal (Lib.hid (Below.refl _ _)).out _) | exact RF.out.below (cal (below_drewN (Below.refl _ _) _) _)) (by first | exact RA.out | exact RA.out.below (tbelowD (Below.refl _ _)) | exact RA.out.below (below_drewN (Below.refl _ _) _) | exact RA.out.below (cal (Lib.hid (Below.refl _ _)).out _) | exact RA.out.below (cal (below_drewN (Below.refl _ _) _) _))).mono ?_; rintro e y ⟨va, vb, rfl, r1, r2, hd, hy⟩; rw [HVO.out]; rw [HVR.out] at r1; rw [HVF.out] at r2; obtain ⟨wa, wc, rfl, -, -⟩ := inrow_slice r1; obtain ⟨wb, wd, rfl, -, -⟩ := inrow_slice r2; (first | (have z := fp_al hy) | (have z := fp_dal hy) | (have z := fp_keep HZ (by first | exact hy | exact ts_drew hy | exact ts_al hy | exact ts_dal hy)) | skip); have SZ3 := hy.size; have R1 := Lib.hid r1; have R2 := Lib.hid r2; have HD := Lib.hid hd; have ZZ : RowKit.Hid (Below W.heap.size W y) := Lib.hid (by first | exact cstep ZZ hy | exact cstepD ZZ hy | exact cstepA ZZ hy | exact cstepDA ZZ hy); clear hy r1 r2 hd; have sz := ZZ.out.size; obtain ⟨k0, k1⟩ := F0.out _ ZZ.out; have nc1 := Nat.ne_of_lt (cell_block_lt k0); dsimp only at nc1; have nc2 := Ne.symm nc1; (try (have HZ := Lib.hid z; obtain ⟨zc, zd, ze, zf, zl⟩ := z))))
        all_goals
          go_wp2_with fail
          go_meet
          have q6 := ZZ.out.size
          have l1 := fun k hk => World.ownsRow.lt R1.out k hk
          have l2 := fun k hk => World.ownsRow.lt R2.out k hk
          simp at SZ1 SZ2 SZ3
          try simp only [World.size_alloc, World.heap_drewN] at l1 l2
        all_goals first
          | exact ⟨_, wa, wc, wb, wd, rfl, rfl, q6, by simp, ⟨pbox_alloc _ _ _ _ _ _ _ _, ⟨(R1.out.base (Nat.zero_le _)).alloc _, rfl⟩, ⟨(R2.out.base (Nat.zero_le _)).alloc _, rfl⟩⟩, cal ZZ.out _⟩
          | (refine ⟨_, wa, wc, wb, wd, rfl, rfl, ?_, ?_, ⟨?_, ⟨InRow.setCellB (InRow.setCellB (R1.out.base (Nat.zero_le _)) ?_ _ _) ?_ _ _, rfl⟩, ⟨InRow.setCellB (InRow.setCellB (R2.out.base (Nat.zero_le _)) ?_ _ _) ?_ _ _, rfl⟩⟩, ?_⟩ <;> first
              | exact Nat.le_refl _
              | (simp only [World.size_setCell]; omega)
              | omega
              | (intro k hk; have h1 := l1 k hk; omega)
              | (intro k hk; have h2 := l2 k hk; omega)
              | (refine ⟨?_, ?_⟩ <;> go_simp; done)
              | exact (ZZ.out.setCell (p := ⟨_, 0, none⟩) (by first | exact Nat.le_refl _ | (dsimp only; omega)) _).setCell (p := ⟨_, 1, none⟩) (by first | exact Nat.le_refl _ | (dsimp only; omega)) _)
      case rest =>
        obtain ⟨bh, ha, hc, hb, hdd, rfl, rfl, hbw0, hbw1, hpv, hb17⟩ := hcut
        have PH17 := Lib.hid hpv
        clear hpv hbw0 hbw1 F0 ZZ k0 k1 G0W GAW GBW c1' c2'
        have HB17 := Lib.hid (HB16.out.trans (hb17.mono HB16.out.size))
        have HX17 := Lib.hid (HX16.out.below hb17)
        have PW17 := Lib.hid (PW16.out.below hb17)
        have PB17 := Lib.hid (PB16.out.below hb17)
        have M117 := Lib.hid (M116.out.below hb17)
        have M217 := Lib.hid (M216.out.below hb17)
        clear hb17 HB16 HX16 PW16 PB16 M116 M216
        obtain ⟨i0, i1⟩ := id PH17.out.box
        obtain ⟨j0, j1⟩ := id PW17.out.box
        go_wp2_with fail
        refine (eqProof_same _ _ _ _ _ _ _ _ _ _ _ _ _ _ _ R Q PH17.out.one PH17.out.two PW17.out.one PW17.out.two).mono ?_
        rintro e w18 ⟨rfl, hb18⟩
        clear i0 i1 j0 j1 PH17
        have HB18 := Lib.hid (HB17.out.trans (hb18.mono HB17.out.size))
        have PB18 := Lib.hid (PB17.out.below hb18)
        have M118 := Lib.hid (M117.out.below hb18)
        have M218 := Lib.hid (M217.out.below hb18)
        clear hb18 HB17 PB17 M117 M217
        obtain ⟨i0, i1⟩ := id PB18.out
        go_wp2_with fail
        refine (heldProof _ _ _ _ _ _ _ 1 ⟨by omega, by omega⟩ M118.out M218.out hRl hQl).mono ?_
        rintro e w19 ⟨rfl, hb19⟩
        rw [← HM.out]
        have HB19 := Lib.hid (HB18.out.trans (hb19.mono HB18.out.size))
        clear i0 i1 hb19
        go_wp2_with fail
        go_ret
        exact ⟨rfl, HB19.out⟩

/-! ### THE ROW's STEP -/
set_option maxRecDepth 100000 in
theorem lifted (os : Os) (started : os.Started) (H : Type) (enc : TypeId × Value → H) :
    ReturnsInHanded {} Try.checked os 5 .any (Rows.fnExactScaleProofSpec.pre6 enc Try.prog Try.f5 Rows.fnExactScaleProofRow.domain false) (Rows.fnExactScaleProofSpec.post enc Try.prog Try.f5 false true false false) := by
  refine returnsInHanded_of_change (C := Try.checked) own started (by kernel_rfl) Try.func5
    (ChangeSpec.witness6 (enc := enc) (C := Try.checked) false ⟨#[], #[.slice none 0 0, .agg #[.slice none 0 0, .slice none 0 0], .int .i64 0], []⟩ 8 (by kernel_rfl) (by kernel_rfl) (by kernel_rfl) (by kernel_rfl)) ?_
  intro W base args ds gs before hval0 hW hcnd _
  have hval : ∀ (j : Nat) t v, Try.f5.params[j]? = some t → args[j]? = some v → Value.okWide Try.prog W .any base t v := hval0
  have hW' := hW
  obtain ⟨p, q, hA0, hV, rfl, hfz, hnd⟩ := hW
  have hA : DataW.TrodAll enc Try.prog W 0 (fun _ => true) true Try.f5.params.toList args.toList ds p := hA0
  rw [Try.params5] at hA hval
  obtain ⟨v0, vs0, d0, ds0, p0, q0, hargs, rfl, rfl, h0, r0⟩ := trodAll_cons hA
  obtain ⟨v1, vs1, d1, ds1, p1, q1, rfl, rfl, rfl, h1, r1⟩ := trodAll_cons r0
  obtain ⟨v2, vs2, d2, ds2, p2, q2, rfl, rfl, rfl, h2, r2⟩ := trodAll_cons r1
  obtain ⟨rfl, rfl, rfl⟩ := trodAll_nil r2
  obtain rfl : args = #[v0, v1, v2] := by cases args; simp_all
  obtain ⟨rfl, rfl⟩ := trodVars_none hV
  have k0 := h0
  have lt0 : ∀ x ∈ p0, x.block < W.heap.size := by obtain ⟨m, hm⟩ := k0; exact DataW.trod_lt m _ _ _ hm
  obtain ⟨p0, n0, cap0, c0, rfl, g0⟩ := open_cds (hval 0 22 v0 rfl rfl) h0
  have k1 := h1
  have lt1 : ∀ x ∈ p1, x.block < W.heap.size := by obtain ⟨m, hm⟩ := k1; exact DataW.trod_lt m _ _ _ hm
  obtain ⟨p1, n1, cap1, c1, q1, m1, kap1, e1, rfl, g1⟩ := open_proof (hval 1 25 v1 rfl rfl) h1
  have k2 := h2
  have lt2 : ∀ x ∈ p2, x.block < W.heap.size := by obtain ⟨m, hm⟩ := k2; exact DataW.trod_lt m _ _ _ hm
  obtain ⟨a2, rfl, rfl, rfl, g2⟩ := open_int Try.underlying3 (hval 2 3 v2 rfl rfl) h2
  clear hA0 hval0
  refine (walk p0 n0 cap0 c0 p1 n1 cap1 c1 q1 m1 kap1 e1 a2 W g0 g1 g2).mono fun e W' ⟨he, bel⟩ => ?_
  subst he
  exact ⟨_, rfl, _, _, _, [], _, [], hW', trodAll_mk1 (shut_bool Try.underlying4 _), (trodAll_cons_mk (Below.trod laidOut (by kernel_rfl) (of_decide_eq_true (by kernel_rfl)) k0 bel lt0) (trodAll_cons_mk (Below.trod laidOut (by kernel_rfl) (of_decide_eq_true (by kernel_rfl)) k1 bel lt1) (trodAll_cons_mk (Below.trod laidOut (by kernel_rfl) (of_decide_eq_true (by kernel_rfl)) k2 bel lt2) trodAll_mk0))), rfl, bel.frame _, fun h => by cases h⟩

theorem over : Rows.fnExactScaleProofRow.holds Try.pinned (OpenSpec.ofChange Rows.fnExactScaleProofSpec) :=
  OpenClaim.holds_of_wide 5 Try.f5 rfl rfl rfl rfl rfl rfl rfl ⟨rfl, rfl, rfl, rfl, rfl⟩ rfl rfl rfl rfl rfl (by kernel_rfl) Try.func5 (by kernel_rfl)
    (of_decide_eq_true (by kernel_rfl)) (by unfold Func.isWrapper; first | (rw [if_pos (by decide +kernel)]; kernel_rfl) | (rw [if_neg (by decide +kernel)]; exact ⟨rfl, rfl⟩))
    (fun os started H enc _ => lifted os started H enc)

/-- THE STATEMENT. -/
theorem proved : Rows.FnExactScaleProofSaid := over
#print axioms proved
end Go.Proofs.Ytidmhpeaehmmhab.fnExactScaleProof
