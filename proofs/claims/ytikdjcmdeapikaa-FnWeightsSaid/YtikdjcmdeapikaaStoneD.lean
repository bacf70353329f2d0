/- The contract of the model's BoxOf. -/
import Derived.Test.YtikdjcmdeapikaaStoneB
import Derived.StillTailTactics
import Derived.Deep.CutRange
namespace Go.Proofs.Ytikdjcmdeapikaa
open Go.ChangeShapes Go.WideShapes Go.ChangeAt Go.RowKit

set_option maxHeartbeats 1000000 in
theorem specBoxOf (w : World) (B : Nat) (v : Value) (cs : List (Int × Int)) (hr : Row w B v cs) :
    Calls Try.prog 14 #[.agg #[v]] w fun e w' => e = .returned (.tuple #[.agg #[.int .i64 (boxV cs loX), .int .i64 (boxV cs loY)], .agg #[.int .i64 (boxV cs hiX), .int .i64 (boxV cs hiY)]]) ∧ Below w.heap.size w w' := by
  have HR := Lib.hid hr
  obtain ⟨a, cap, hv, hm⟩ := row_sliceS hr
  generalize hN : cs.length = n at hv hm
  subst hv
  clear hr
  have hb0 := ((Below.refl w.heap.size w).alloc (by simp <;> omega) (.cells #[.slice a n cap] 26) |>.alloc (by simp <;> omega) (.cells #[.int .i64 0, .int .i64 0] 31) |>.alloc (by simp <;> omega) (.cells #[.int .i64 0, .int .i64 0] 31))
  have HB0 := Lib.hid hb0
  have HN := Lib.hid hN
  clear hb0 hN
  cases hs : stoneV cs
  · have hz : ∀ q, boxV cs q = 0 := fun q => by unfold boxV; rw [hs]; rfl
    rw [hz, hz, hz, hz]
    clear hz
    go_enter Try.func14, Try.ntmps14
    go_wp2_with fail
    refine (specStoneOk _ B _ cs (HR.out.below HB0.out)).mono ?_
    rintro e w1 ⟨rfl, hb1⟩
    rw [hs]
    obtain ⟨hc1, hf1⟩ := bcell hb1
    have hz : w.heap.size + 2 < w1.heap.size := by have := hb1.size; simp at this; omega
    go_wp2_with fail
    refine bodyPost_ret (v := .tuple #[.agg #[.int .i64 0, .int .i64 0], .agg #[.int .i64 0, .int .i64 0]]) (by simp [results, Try.results14, go_sem, hc1]) rfl ⟨rfl, ?_⟩
    repeat (first | exact HB0.out.trans (hb1.mono (by simp <;> omega)) | refine Below.setCell ?_ (by simp <;> omega) _)
  · have hz : ∀ q, boxV cs q = q cs cs.length := fun q => by unfold boxV; rw [hs]; rfl
    rw [hz, hz, hz, hz]
    clear hz
    go_enter Try.func14, Try.ntmps14
    go_wp2_with fail
    refine (specStoneOk _ B _ cs (HR.out.below HB0.out)).mono ?_
    rintro e w1 ⟨rfl, hb1⟩
    rw [hs]
    have s1 : w1.cell? ⟨w.heap.size, 0, none⟩ = some (.slice a n cap) := (hb1.cell (p := ⟨w.heap.size, 0, none⟩) (by simp; omega)).trans (by go_simp)
    have R10 := Lib.hid ((hb1.cell (p := ⟨w.heap.size + 1, 0, none⟩) (by simp <;> omega)).trans (show _ = some (.int .i64 0) by go_simp))
    have R11 := Lib.hid ((hb1.cell (p := ⟨w.heap.size + 1, 1, none⟩) (by simp <;> omega)).trans (show _ = some (.int .i64 0) by go_simp))
    have R20 := Lib.hid ((hb1.cell (p := ⟨w.heap.size + 1 + 1, 0, none⟩) (by simp <;> omega)).trans (show _ = some (.int .i64 0) by go_simp))
    have R21 := Lib.hid ((hb1.cell (p := ⟨w.heap.size + 1 + 1, 1, none⟩) (by simp <;> omega)).trans (show _ = some (.int .i64 0) by go_simp))
    have G10 := Lib.hid ((hb1.frozen (p := ⟨w.heap.size + 1, 0, none⟩) (by simp <;> omega)).trans (show _ = false by go_simp))
    have G11 := Lib.hid ((hb1.frozen (p := ⟨w.heap.size + 1, 1, none⟩) (by simp <;> omega)).trans (show _ = false by go_simp))
    have G20 := Lib.hid ((hb1.frozen (p := ⟨w.heap.size + 1 + 1, 0, none⟩) (by simp <;> omega)).trans (show _ = false by go_simp))
    have G21 := Lib.hid ((hb1.frozen (p := ⟨w.heap.size + 1 + 1, 1, none⟩) (by simp <;> omega)).trans (show _ = false by go_simp))
    have hz1 : w.heap.size + 2 < w1.heap.size := by have := hb1.size; simp at this; omega
    have hb01 := HB0.out.trans (hb1.mono (by simp <;> omega))
    have HB1 := Lib.hid hb01
    obtain ⟨g3, g6⟩ := stone_size hs
    rcases (HR.out.cases) with ⟨hz, hcn⟩ | ⟨g, cap', hg, r, -, hgw, hcap, hcm⟩
    · rw [hcn] at g3; simp at g3
    simp only [Value.slice.injEq] at hg
    obtain ⟨rfl, -, rfl⟩ := hg
    rw [HN.out] at g3 g6 hcap
    unfold maxLen at hcm
    have HR1 := Lib.hid r
    have HS := Lib.hid hs
    have hgl1 : g < w1.heap.size := by omega
    have hwl1 : w.heap.size < w1.heap.size := by omega
    obtain ⟨z0, z1⟩ := (r.below hb01).cells 0 (by have := HN.out; omega)
    rw [Nat.zero_mul] at z0 z1
    rw [Nat.zero_add] at z1
    have e0 : (pt cs 0).1 = loX cs 0 := rfl
    have e1 : (pt cs 0).2 = loY cs 0 := rfl
    have X0 := Lib.hid e0
    have Y0 := Lib.hid e1
    clear hs hb01 hb1 r e0 e1
    obtain ⟨px, hpx⟩ : ∃ px, px = (pt cs 0).1 := ⟨_, rfl⟩
    obtain ⟨py, hpy⟩ : ∃ py, py = (pt cs 0).2 := ⟨_, rfl⟩
    rw [← hpx] at z0
    rw [← hpy] at z1
    have E0 := Lib.hid hpx
    have E1 := Lib.hid hpy
    clear hpx hpy
    go_wp2_with fail
    have hW := below_al (below_al (Below.refl w1.heap.size w1) (.cells #[.int .i64 px, .int .i64 py] 31)) (.cells #[.int .i64 px, .int .i64 py] 31)
    have HW := Lib.hid hW
    have k40 : ((w1.alloc (.cells #[.int .i64 px, .int .i64 py] 31)).alloc (.cells #[.int .i64 px, .int .i64 py] 31)).cell? ⟨w1.heap.size, 0, none⟩ = some (.int .i64 px) := by go_simp
    have k41 : ((w1.alloc (.cells #[.int .i64 px, .int .i64 py] 31)).alloc (.cells #[.int .i64 px, .int .i64 py] 31)).cell? ⟨w1.heap.size, 1, none⟩ = some (.int .i64 py) := by go_simp
    have k50 : ((w1.alloc (.cells #[.int .i64 px, .int .i64 py] 31)).alloc (.cells #[.int .i64 px, .int .i64 py] 31)).cell? ⟨w1.heap.size + 1, 0, none⟩ = some (.int .i64 px) := by go_simp
    have k51 : ((w1.alloc (.cells #[.int .i64 px, .int .i64 py] 31)).alloc (.cells #[.int .i64 px, .int .i64 py] 31)).cell? ⟨w1.heap.size + 1, 1, none⟩ = some (.int .i64 py) := by go_simp
    have m40 : ((w1.alloc (.cells #[.int .i64 px, .int .i64 py] 31)).alloc (.cells #[.int .i64 px, .int .i64 py] 31)).frozen? ⟨w1.heap.size, 0, none⟩ = false := by go_simp
    have m41 : ((w1.alloc (.cells #[.int .i64 px, .int .i64 py] 31)).alloc (.cells #[.int .i64 px, .int .i64 py] 31)).frozen? ⟨w1.heap.size, 1, none⟩ = false := by go_simp
    have m50 : ((w1.alloc (.cells #[.int .i64 px, .int .i64 py] 31)).alloc (.cells #[.int .i64 px, .int .i64 py] 31)).frozen? ⟨w1.heap.size + 1, 0, none⟩ = false := by go_simp
    have m51 : ((w1.alloc (.cells #[.int .i64 px, .int .i64 py] 31)).alloc (.cells #[.int .i64 px, .int .i64 py] 31)).frozen? ⟨w1.heap.size + 1, 1, none⟩ = false := by go_simp
    have K40 := Lib.hid k40
    have K41 := Lib.hid k41
    have K50 := Lib.hid k50
    have K51 := Lib.hid k51
    have M40 := Lib.hid m40
    have M41 := Lib.hid m41
    have M50 := Lib.hid m50
    have M51 := Lib.hid m51
    clear hW k40 k41 k50 k51 m40 m41 m50 m51 z0 z1
    have S1 := Lib.hid s1
    clear s1
    go_loopw [6] (fun t w3 => ∃ k : Nat, k ≤ n ∧ t = .int .i64 k ∧ Below w1.heap.size w1 w3 ∧
      (w3.cell? ⟨w1.heap.size, 0, none⟩ = some (.int .i64 (loX cs k)) ∧ w3.cell? ⟨w1.heap.size, 1, none⟩ = some (.int .i64 (loY cs k)) ∧ w3.frozen? ⟨w1.heap.size, 0, none⟩ = false ∧ w3.frozen? ⟨w1.heap.size, 1, none⟩ = false) ∧
      (w3.cell? ⟨w1.heap.size + 1, 0, none⟩ = some (.int .i64 (hiX cs k)) ∧ w3.cell? ⟨w1.heap.size + 1, 1, none⟩ = some (.int .i64 (hiY cs k)) ∧ w3.frozen? ⟨w1.heap.size + 1, 0, none⟩ = false ∧ w3.frozen? ⟨w1.heap.size + 1, 1, none⟩ = false))
      (fun t _ => n - (intOf t).toNat)
    case atStart => exact ⟨0, Nat.zero_le _, rfl, HW.out, ⟨K40.out.trans (by rw [E0.out]; rfl), K41.out.trans (by rw [E1.out]; rfl), M40.out, M41.out⟩, ⟨K50.out.trans (by rw [E0.out]; rfl), K51.out.trans (by rw [E1.out]; rfl), M50.out, M51.out⟩⟩
    case round =>
      clear HW K40 K41 K50 K51 M40 M41 M50 M51
      obtain ⟨k, hk, rfl, hbw, ⟨c40, c41, f40, f41⟩, ⟨c50, c51, f50, f51⟩⟩ := hrel
      have hlN := HN.out
      have HB := Lib.hid hbw
      have sw := cell_kept S1.out hbw
      by_cases hlt : k < n
      · obtain ⟨a0, a1⟩ := (HR1.out.below (HB1.out.trans (hbw.mono HB1.out.size))).cells k (by omega)
        have hgl : g < wr.heap.size := by have := (HB1.out.trans (hbw.mono HB1.out.size)).size; omega
        have l4 := cell_block_lt c40
        have l5 := cell_block_lt c50
        dsimp only at l4 l5
        have n6 : g ≠ w1.heap.size := Nat.ne_of_lt hgl1
        have n7 : g ≠ w1.heap.size + 1 := by omega
        have n6' := Ne.symm n6
        have n7' := Ne.symm n7
        have n8 : w.heap.size ≠ w1.heap.size := by omega
        have n9 : w.heap.size ≠ w1.heap.size + 1 := by omega
        have n8' := Ne.symm n8
        have n9' := Ne.symm n9
        have e1 : loX cs (k + 1) = min (loX cs k) (pt cs k).1 := rfl
        have e2 : loY cs (k + 1) = min (loY cs k) (pt cs k).2 := rfl
        have e3 : hiX cs (k + 1) = max (hiX cs k) (pt cs k).1 := rfl
        have e4 : hiY cs (k + 1) = max (hiY cs k) (pt cs k).2 := rfl
        obtain ⟨⟨qx, qy⟩, eq⟩ : ∃ p, pt cs k = p := ⟨_, rfl⟩
        obtain ⟨LX, hLX⟩ : ∃ L, loX cs k = L := ⟨_, rfl⟩
        obtain ⟨LY, hLY⟩ : ∃ L, loY cs k = L := ⟨_, rfl⟩
        obtain ⟨HX, hHX⟩ : ∃ L, hiX cs k = L := ⟨_, rfl⟩
        obtain ⟨HY, hHY⟩ : ∃ L, hiY cs k = L := ⟨_, rfl⟩
        rw [eq] at a0 a1 e1 e2 e3 e4
        rw [hLX] at e1 c40
        rw [hLY] at e2 c41
        rw [hHX] at e3 c50
        rw [hHY] at e4 c51
        have X1 := Lib.hid e1
        have X2 := Lib.hid e2
        have X3 := Lib.hid e3
        have X4 := Lib.hid e4
        have EQ := Lib.hid eq
        clear e1 e2 e3 e4 hbw hlN eq hLX hLY hHX hHY
        go_upto_region 8 with fail
        go_cut [] from 20 to 64 (fun wx => Below w1.heap.size w1 wx ∧ (wx.cell? ⟨w1.heap.size, 0, none⟩ = some (.int .i64 (loX cs (k + 1))) ∧ wx.cell? ⟨w1.heap.size, 1, none⟩ = some (.int .i64 (loY cs (k + 1))) ∧ wx.frozen? ⟨w1.heap.size, 0, none⟩ = false ∧ wx.frozen? ⟨w1.heap.size, 1, none⟩ = false) ∧
          (wx.cell? ⟨w1.heap.size + 1, 0, none⟩ = some (.int .i64 HX) ∧ wx.cell? ⟨w1.heap.size + 1, 1, none⟩ = some (.int .i64 HY) ∧ wx.frozen? ⟨w1.heap.size + 1, 0, none⟩ = false ∧ wx.frozen? ⟨w1.heap.size + 1, 1, none⟩ = false))
        case first =>
          by_cases h1 : qx < LX <;> by_cases h2 : qy < LY
          all_goals
            go_still_tail 19, (by kernel_rfl)
            change wpList _ _ _ _ _ wr.drew
            go_wp2_with fail
            go_meet
            case rel =>
              refine ⟨?_, ⟨?_, ?_, ?_, ?_⟩, ⟨?_, ?_, ?_, ?_⟩⟩
              · repeat (first | exact HB.out | refine Below.drew ?_ | refine Below.setCell ?_ (by simp <;> omega) _)
              all_goals first
                | (go_simp; done)
                | (go_keep; done)
                | (rw [X1.out, show min LX qx = qx by omega]; go_simp; done)
                | (rw [X1.out, show min LX qx = LX by omega]; go_simp; done)
                | (rw [X2.out, show min LY qy = qy by omega]; go_simp; done)
                | (rw [X2.out, show min LY qy = LY by omega]; go_simp; done)
        case rest =>
        obtain ⟨hbw, ⟨c40, c41, f40, f41⟩, ⟨c50, c51, f50, f51⟩⟩ := hcut
        rename World => wr
        have HB := Lib.hid hbw
        have sw := cell_kept S1.out hbw
        obtain ⟨a0, a1⟩ := (HR1.out.below (HB1.out.trans (hbw.mono HB1.out.size))).cells k (by have := HN.out; omega)
        rw [EQ.out] at a0 a1
        have hgl : g < wr.heap.size := by have := (HB1.out.trans (hbw.mono HB1.out.size)).size; omega
        have l4 := cell_block_lt c40
        have l5 := cell_block_lt c50
        dsimp only at l4 l5
        clear hbw
        by_cases h1 : HX < qx <;> by_cases h2 : HY < qy
        all_goals
          go_upto_region 9 with fail
          go_still_tail 19, (by kernel_rfl)
          change wpList _ _ _ _ _ wr.drew
          go_wp2_with fail
          go_roundw
        all_goals first
          | (simp [intOf]; omega)
          | refine ⟨k + 1, by omega, by go_num, ?_, ⟨?_, ?_, ?_, ?_⟩, ⟨?_, ?_, ?_, ?_⟩⟩
        all_goals first
          | (repeat (first | exact HB.out | refine Below.drew ?_ | refine Below.setCell ?_ (by simp <;> omega) _)); done
          | (go_simp; done)
          | (go_keep; done)
          | (rw [X3.out, show max HX qx = qx by omega]; go_simp; done)
          | (rw [X3.out, show max HX qx = HX by omega]; go_simp; done)
          | (rw [X4.out, show max HY qy = qy by omega]; go_simp; done)
          | (rw [X4.out, show max HY qy = HY by omega]; go_simp; done)
      · have hkn : k = n := by omega
        rw [hkn] at c40 c41 c50 c51
        have HV4 := Lib.hid c40
        have HV5 := Lib.hid c50
        have r0 := cell_kept R10.out hbw
        have r1 := cell_kept R11.out hbw
        have r2 := cell_kept R20.out hbw
        have r3 := cell_kept R21.out hbw
        have g0 : wr.frozen? ⟨w.heap.size + 1, 0, none⟩ = false := (hbw.frozen (p := ⟨w.heap.size + 1, 0, none⟩) (cell_block_lt R10.out)).trans G10.out
        have g1 : wr.frozen? ⟨w.heap.size + 1, 1, none⟩ = false := (hbw.frozen (p := ⟨w.heap.size + 1, 1, none⟩) (cell_block_lt R11.out)).trans G11.out
        have g2 : wr.frozen? ⟨w.heap.size + 1 + 1, 0, none⟩ = false := (hbw.frozen (p := ⟨w.heap.size + 1 + 1, 0, none⟩) (cell_block_lt R20.out)).trans G20.out
        have g4 : wr.frozen? ⟨w.heap.size + 1 + 1, 1, none⟩ = false := (hbw.frozen (p := ⟨w.heap.size + 1 + 1, 1, none⟩) (cell_block_lt R21.out)).trans G21.out
        clear hbw hlN hlt hk f40 f41 f50 f51
        rw [hkn]
        generalize hA : loX cs n = LX at *
        generalize hB : loY cs n = LY at *
        generalize hC : hiX cs n = HX at *
        generalize hD : hiY cs n = HY at *
        have HA := Lib.hid hA
        have HBB := Lib.hid hB
        have HCC := Lib.hid hC
        have HDD := Lib.hid hD
        clear hA hB hC hD hkn
        have q1 : w.heap.size + 1 ≠ w1.heap.size := by omega
        have q2 : w.heap.size + 1 ≠ w1.heap.size + 1 := by omega
        have q3 : w.heap.size + 1 + 1 ≠ w1.heap.size := by omega
        have q4 : w.heap.size + 1 + 1 ≠ w1.heap.size + 1 := by omega
        go_wp2_with fail
        go_region
        go_wp2_with fail
        refine bodyPost_ret (v := .tuple #[.agg #[.int .i64 LX, .int .i64 LY], .agg #[.int .i64 HX, .int .i64 HY]]) (by simp [results, Try.results14, go_sem, r0, r1, r2, r3]) rfl ⟨?_, ?_⟩
        · rw [HN.out, HA.out, HBB.out, HCC.out, HDD.out]
        · have hB1 := HB1.out.trans (HB.out.mono HB1.out.size)
          repeat (first | exact hB1 | refine Below.drew ?_ | refine Below.setCell ?_ (by simp <;> omega) _)
end Go.Proofs.Ytikdjcmdeapikaa
