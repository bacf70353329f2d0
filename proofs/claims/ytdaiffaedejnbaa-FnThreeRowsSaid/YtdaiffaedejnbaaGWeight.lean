/- The contracts of the model's weights: AreaTwice, WeightOf, MomentOf, HeightMoment, IsLeftOf. -/
import Derived.Test.YtdaiffaedejnbaaGPlain
import Derived.Test.YtdaiffaedejnbaaGStone

/- The contracts of the model's weights: AreaTwice, WeightOf, MomentOf, HeightMoment, IsLeftOf. -/
namespace Go.Proofs.Ytdaiffaedejnbaa
set_option maxRecDepth 100000
open Go.ChangeShapes Go.WideShapes Go.ChangeAt Go.RowKit

theorem l04Cross (x y u v : Int) (w : World) (h1 : -1000000 ≤ x * v ∧ x * v ≤ 1000000) (h2 : -1000000 ≤ y * u ∧ y * u ≤ 1000000) :
    Calls Try.prog 85 #[.agg #[.int .i64 x, .int .i64 y], .agg #[.int .i64 u, .int .i64 v]] w fun e w' => e = .returned (.int .i64 (x * v - y * u)) ∧ Below w.heap.size w w' := by
  obtain ⟨h10, h11⟩ := h1
  obtain ⟨h20, h21⟩ := h2
  go_enter Try.func85, Try.ntmps85
  go_wp2
  go_ret
  exact ⟨rfl, by repeat (first | exact Below.refl _ _ | refine Below.alloc ?_ (by simp <;> omega) _ | refine Below.setCell ?_ (by simp <;> omega) _)⟩

/-- .. of two corners. -/
theorem l04CrossAt {cs : List (Int × Int)} (hs : stoneV cs = true) (i j : Nat) (ax ay bx by_ : Int) (w : World) (ea : cn cs i = (ax, ay)) (eb : cn cs j = (bx, by_)) :
    Calls Try.prog 85 #[.agg #[.int .i64 ax, .int .i64 ay], .agg #[.int .i64 bx, .int .i64 by_]] w fun e w' => e = .returned (.int .i64 (crs (cn cs i) (cn cs j))) ∧ Below w.heap.size w w' := by
  have oa := okP_iff.1 (cn_ok hs i)
  have ob := okP_iff.1 (cn_ok hs j)
  rw [ea] at oa
  rw [eb] at ob
  rw [ea, eb]
  exact l04Cross ax ay bx by_ w (by have := mul_bd (x := ax) (y := by_) 60 60 ⟨by omega, by omega⟩ ⟨by omega, by omega⟩; omega) (by have := mul_bd (x := ay) (y := bx) 60 60 ⟨by omega, by omega⟩ ⟨by omega, by omega⟩; omega)

set_option maxHeartbeats 2000000 in
theorem specAreaTwice (w : World) (B : Nat) (v : Value) (cs : List (Int × Int)) (hr : Row w B v cs) :
    Calls Try.prog 84 #[.agg #[v]] w fun e w' => e = .returned (.int .i64 (areaV cs)) ∧ Below w.heap.size w w' := by
  have HR := Lib.hid hr
  obtain ⟨a, cap, hv, hm⟩ := row_sliceS hr
  generalize hN : cs.length = n at hv hm
  subst hv
  clear hr
  unfold maxLen at hm
  have hb0 := ((Below.refl w.heap.size w).alloc (Nat.le_refl _) (.cells #[.slice a n cap] 108))
  have HB0 := Lib.hid hb0
  have HN := Lib.hid hN
  clear hb0 hN
  cases hs : stoneV cs
  · have HZ := Lib.hid (show areaV cs = 0 by unfold areaV; rw [hs]; rfl)
    have HS := Lib.hid hs
    clear hs
    go_enter Try.func84, Try.ntmps84
    by_cases h0 : n = 0
    · rw [h0]
      clear HR h0
      go_wp2_with fail
      refine wp_loop_rounds 1 ?_
      rw [rounds_succ]
      go_wp2_with fail
      go_ret
      exact ⟨ret_i64 HZ.out.symm, by repeat (first | exact Below.refl _ _ | refine Below.alloc ?_ (by simp <;> omega) _)⟩
    · have h1 : 0 < n := by omega
      go_wp2_with fail
      refine wp_loop_rounds 1 ?_
      rw [rounds_succ]
      go_wp2_with fail
      refine (specStoneOk _ B _ cs (HR.out.below HB0.out)).mono ?_
      rintro e w1 ⟨rfl, hb1⟩
      rw [HS.out]
      go_wp2_with fail
      go_ret
      exact ⟨ret_i64 HZ.out.symm, HB0.out.trans (hb1.mono (by simp <;> omega))⟩
  · have s0 : (w.alloc (.cells #[.slice a n cap] 108)).cell? ⟨w.heap.size, 0, none⟩ = some (.slice a n cap) := by go_simp
    obtain ⟨g3, g6⟩ := stone_size hs
    rcases (HR.out.cases) with ⟨hz, hcn⟩ | ⟨g, cap', hg, r, -, hgw, hcap, hcm⟩
    · rw [hcn] at g3; simp at g3
    simp only [Value.slice.injEq] at hg
    obtain ⟨rfl, -, rfl⟩ := hg
    rw [HN.out] at g3 g6 hcap
    unfold maxLen at hcm
    have HR1 := Lib.hid r
    have HS := Lib.hid hs
    have S0 := Lib.hid s0
    clear hs r s0
    go_enter Try.func84, Try.ntmps84
    go_wp2_with fail
    go_loopw [3, 4] (fun m t wr => ∃ k : Nat, k ≤ n ∧ t = .int .i64 k ∧ m = .int .i64 (sumTo (arC cs) k) ∧ Below w.heap.size w wr ∧ wr.cell? ⟨w.heap.size, 0, none⟩ = some (.slice (some ⟨g, 0, none⟩) n cap))
      (fun _ t _ => n - (intOf t).toNat)
    case atStart => exact ⟨0, Nat.zero_le _, rfl, rfl, HB0.out, S0.out⟩
    case round =>
      clear HB0 S0
      obtain ⟨k, hk, rfl, rfl, hbw, hsw⟩ := hrel
      have HB := Lib.hid hbw
      have hlN := HN.out
      by_cases hlt : k < n
      · have hr := HR1.out.below hbw
        have h0 : 0 < cs.length := by omega
        obtain ⟨a0, a1⟩ := hr.cells k (by omega)
        obtain ⟨b0, b1⟩ := hr.corner h0 (k + 1)
        rw [← cn_lt (show k < cs.length by omega)] at a0 a1
        rw [hlN] at b0 b1
        have t1 := tmod_at n (k + 1) ((k : Int) + 1) (by omega)
        have l1 : (k + 1) % n < n := Nat.mod_lt _ (by omega)
        obtain ⟨⟨ax, ay⟩, ea⟩ : ∃ p, cn cs k = p := ⟨_, rfl⟩
        obtain ⟨⟨bx, by_⟩, eb⟩ : ∃ p, cn cs (k + 1) = p := ⟨_, rfl⟩
        have oa := okP_iff.1 (cn_ok HS.out k)
        have ob := okP_iff.1 (cn_ok HS.out (k + 1))
        have hC1 := fun w => l04CrossAt HS.out k (k + 1) ax ay bx by_ w ea eb
        have hT : arC cs k = crs (cn cs k) (cn cs (k + 1)) := rfl
        have hTb := arC_bd HS.out k
        have hSb := six_bd HS.out (arC cs) 7200 (by omega) (arC_bd HS.out) k (by omega)
        have hnx : sumTo (arC cs) (k + 1) = sumTo (arC cs) k + arC cs k := rfl
        rw [ea] at a0 a1 oa
        rw [eb] at b0 b1 ob
        generalize crs (cn cs k) (cn cs (k + 1)) = X at *
        generalize sumTo (arC cs) k = S at *
        generalize arC cs k = T at *
        subst hT
        have HC1 := Lib.hid hC1
        have HX := Lib.hid hnx
        have hgl : g < wr.heap.size := by have := hbw.size; omega
        clear hC1 hnx ea eb hr h0 hbw hlN
        generalize (k + 1) % n = j1 at *
        go_wp2_with fail
        refine (specStoneOk _ B _ cs (HR.out.below HB.out)).mono ?_
        rintro e w1 ⟨rfl, hb1⟩
        rw [HS.out]
        have HB1 := Lib.hid (HB.out.trans (hb1.mono HB.out.size))
        have hgl1 : g < w1.heap.size := by have := hb1.size; omega
        have k0 := cell_kept a0 hb1
        have k1 := cell_kept a1 hb1
        have m0 := cell_kept b0 hb1
        have m1 := cell_kept b1 hb1
        have hs1 := cell_kept hsw hb1
        have hbs1 := cell_block_lt hs1
        clear a0 a1 b0 b1 hsw hb1
        have hn1 := Since.nonempty w1
        have sS := fun (x : Since w1) => (x.cell w.heap.size 0 hbs1).trans hs1
        have sa0 := fun (x : Since w1) => (x.cell g (k * 2) hgl1).trans k0
        have sa1 := fun (x : Since w1) => (x.cell g (k * 2 + 1) hgl1).trans k1
        have sb0 := fun (x : Since w1) => (x.cell g (j1 * 2) hgl1).trans m0
        have sb1 := fun (x : Since w1) => (x.cell g (j1 * 2 + 1) hgl1).trans m1
        go_wp2_with fail
        refine wp_region_since (by kernel_rfl) (by kernel_rfl) ?_
        repeat (go_big_quiet_step (first
          | (go_at_call 85; exact Since.call (HC1.out _))))
        refine wpQuiet_nil ?_
        rintro w3 ⟨⟨w3, hb3⟩, rfl⟩
        have HB3 := Lib.hid (HB1.out.trans (hb3.mono HB1.out.size))
        have C0 := Lib.hid (cell_kept hs1 hb3)
        clear sS sa0 sa1 sb0 sb1 hb3 hs1 k0 k1 m0 m1
        go_wp2_with fail
        go_roundw
        case rel => exact ⟨k + 1, by omega, by go_num, by rw [HX.out], HB3.out, C0.out⟩
        case measure => simp [intOf]; omega
      · have hkn : k = n := by omega
        rw [hkn]
        clear hbw hlN hkn hlt hk
        go_wp2_with fail
        go_ret
        exact ⟨ret_i64 (by unfold areaV; rw [HS.out, HN.out]; rfl), HB.out⟩

set_option maxHeartbeats 2000000 in
theorem specMomentOf (w : World) (B : Nat) (v : Value) (cs : List (Int × Int)) (hr : Row w B v cs) :
    Calls Try.prog 75 #[.agg #[v]] w fun e w' => e = .returned (.int .i64 (momV cs)) ∧ Below w.heap.size w w' := by
  have HR := Lib.hid hr
  obtain ⟨a, cap, hv, hm⟩ := row_sliceS hr
  generalize hN : cs.length = n at hv hm
  subst hv
  clear hr
  unfold maxLen at hm
  have hb0 := ((Below.refl w.heap.size w).alloc (Nat.le_refl _) (.cells #[.slice a n cap] 108))
  have HB0 := Lib.hid hb0
  have HN := Lib.hid hN
  clear hb0 hN
  cases hs : stoneV cs
  · have HZ := Lib.hid (show momV cs = 0 by unfold momV; rw [hs]; rfl)
    have HS := Lib.hid hs
    clear hs
    go_enter Try.func75, Try.ntmps75
    by_cases h0 : n = 0
    · rw [h0]
      clear HR h0
      go_wp2_with fail
      refine wp_loop_rounds 1 ?_
      rw [rounds_succ]
      go_wp2_with fail
      go_ret
      exact ⟨ret_i64 HZ.out.symm, by repeat (first | exact Below.refl _ _ | refine Below.alloc ?_ (by simp <;> omega) _)⟩
    · have h1 : 0 < n := by omega
      go_wp2_with fail
      refine wp_loop_rounds 1 ?_
      rw [rounds_succ]
      go_wp2_with fail
      refine (specStoneOk _ B _ cs (HR.out.below HB0.out)).mono ?_
      rintro e w1 ⟨rfl, hb1⟩
      rw [HS.out]
      go_wp2_with fail
      go_ret
      exact ⟨ret_i64 HZ.out.symm, HB0.out.trans (hb1.mono (by simp <;> omega))⟩
  · have s0 : (w.alloc (.cells #[.slice a n cap] 108)).cell? ⟨w.heap.size, 0, none⟩ = some (.slice a n cap) := by go_simp
    obtain ⟨g3, g6⟩ := stone_size hs
    rcases (HR.out.cases) with ⟨hz, hcn⟩ | ⟨g, cap', hg, r, -, hgw, hcap, hcm⟩
    · rw [hcn] at g3; simp at g3
    simp only [Value.slice.injEq] at hg
    obtain ⟨rfl, -, rfl⟩ := hg
    rw [HN.out] at g3 g6 hcap
    unfold maxLen at hcm
    have HR1 := Lib.hid r
    have HS := Lib.hid hs
    have S0 := Lib.hid s0
    clear hs r s0
    go_enter Try.func75, Try.ntmps75
    go_wp2_with fail
    go_loopw [3, 4] (fun m t wr => ∃ k : Nat, k ≤ n ∧ t = .int .i64 k ∧ m = .int .i64 (sumTo (moC cs) k) ∧ Below w.heap.size w wr ∧ wr.cell? ⟨w.heap.size, 0, none⟩ = some (.slice (some ⟨g, 0, none⟩) n cap))
      (fun _ t _ => n - (intOf t).toNat)
    case atStart => exact ⟨0, Nat.zero_le _, rfl, rfl, HB0.out, S0.out⟩
    case round =>
      clear HB0 S0
      obtain ⟨k, hk, rfl, rfl, hbw, hsw⟩ := hrel
      have HB := Lib.hid hbw
      have hlN := HN.out
      by_cases hlt : k < n
      · have hr := HR1.out.below hbw
        have h0 : 0 < cs.length := by omega
        obtain ⟨a0, a1⟩ := hr.cells k (by omega)
        obtain ⟨b0, b1⟩ := hr.corner h0 (k + 1)
        rw [← cn_lt (show k < cs.length by omega)] at a0 a1
        rw [hlN] at b0 b1
        have t1 := tmod_at n (k + 1) ((k : Int) + 1) (by omega)
        have l1 : (k + 1) % n < n := Nat.mod_lt _ (by omega)
        obtain ⟨⟨ax, ay⟩, ea⟩ : ∃ p, cn cs k = p := ⟨_, rfl⟩
        obtain ⟨⟨bx, by_⟩, eb⟩ : ∃ p, cn cs (k + 1) = p := ⟨_, rfl⟩
        have oa := okP_iff.1 (cn_ok HS.out k)
        have ob := okP_iff.1 (cn_ok HS.out (k + 1))
        have hC1 := fun w => l04CrossAt HS.out k (k + 1) ax ay bx by_ w ea eb
        have hT : moC cs k = (ax + bx) * crs (cn cs k) (cn cs (k + 1)) := by unfold moC; rw [ea, eb]
        have hTb := moC_bd HS.out k
        have hSb := six_bd HS.out (moC cs) 864000 (by omega) (moC_bd HS.out) k (by omega)
        have hnx : sumTo (moC cs) (k + 1) = sumTo (moC cs) k + moC cs k := rfl
        rw [ea] at a0 a1 oa
        rw [eb] at b0 b1 ob
        generalize crs (cn cs k) (cn cs (k + 1)) = X at *
        generalize sumTo (moC cs) k = S at *
        generalize moC cs k = T at *
        subst hT
        have HC1 := Lib.hid hC1
        have HX := Lib.hid hnx
        have hgl : g < wr.heap.size := by have := hbw.size; omega
        clear hC1 hnx ea eb hr h0 hbw hlN
        generalize (k + 1) % n = j1 at *
        go_wp2_with fail
        refine (specStoneOk _ B _ cs (HR.out.below HB.out)).mono ?_
        rintro e w1 ⟨rfl, hb1⟩
        rw [HS.out]
        have HB1 := Lib.hid (HB.out.trans (hb1.mono HB.out.size))
        have hgl1 : g < w1.heap.size := by have := hb1.size; omega
        have k0 := cell_kept a0 hb1
        have k1 := cell_kept a1 hb1
        have m0 := cell_kept b0 hb1
        have m1 := cell_kept b1 hb1
        have hs1 := cell_kept hsw hb1
        have hbs1 := cell_block_lt hs1
        clear a0 a1 b0 b1 hsw hb1
        go_wp2_with fail
        go_region
        have hbd : Below w.heap.size w (((w1.alloc (.cells #[.int .i64 ax, .int .i64 ay] 83)).alloc (.cells #[.int .i64 bx, .int .i64 by_] 83)).drew) := ((HB1.out.alloc HB1.out.size _).alloc (by have := HB1.out.size; simp; omega) _).drew
        have p0 : (((w1.alloc (.cells #[.int .i64 ax, .int .i64 ay] 83)).alloc (.cells #[.int .i64 bx, .int .i64 by_] 83)).drew).cell? ⟨w1.heap.size, 0, none⟩ = some (.int .i64 ax) := by go_simp
        have p1 : (((w1.alloc (.cells #[.int .i64 ax, .int .i64 ay] 83)).alloc (.cells #[.int .i64 bx, .int .i64 by_] 83)).drew).cell? ⟨w1.heap.size, 1, none⟩ = some (.int .i64 ay) := by go_simp
        have q0 : (((w1.alloc (.cells #[.int .i64 ax, .int .i64 ay] 83)).alloc (.cells #[.int .i64 bx, .int .i64 by_] 83)).drew).cell? ⟨w1.heap.size + 1, 0, none⟩ = some (.int .i64 bx) := by go_simp
        have q1 : (((w1.alloc (.cells #[.int .i64 ax, .int .i64 ay] 83)).alloc (.cells #[.int .i64 bx, .int .i64 by_] 83)).drew).cell? ⟨w1.heap.size + 1, 1, none⟩ = some (.int .i64 by_) := by go_simp
        have hs2 : (((w1.alloc (.cells #[.int .i64 ax, .int .i64 ay] 83)).alloc (.cells #[.int .i64 bx, .int .i64 by_] 83)).drew).cell? ⟨w.heap.size, 0, none⟩ = some (.slice (some ⟨g, 0, none⟩) n cap) := by go_simp
        generalize (((w1.alloc (.cells #[.int .i64 ax, .int .i64 ay] 83)).alloc (.cells #[.int .i64 bx, .int .i64 by_] 83)).drew) = w2 at *
        have HB2 := Lib.hid hbd
        have l0 := cell_block_lt p0
        have l2 := cell_block_lt q0
        have hn1 := Since.nonempty w2
        have sa0 := fun (x : Since w2) => (x.cell w1.heap.size 0 l0).trans p0
        have sa1 := fun (x : Since w2) => (x.cell w1.heap.size 1 l0).trans p1
        have sb0 := fun (x : Since w2) => (x.cell (w1.heap.size + 1) 0 l2).trans q0
        have sb1 := fun (x : Since w2) => (x.cell (w1.heap.size + 1) 1 l2).trans q1
        clear hbd hs1 hbs1 k0 k1 m0 m1
        go_wp2_with fail
        refine wp_region_since (by kernel_rfl) (by kernel_rfl) ?_
        repeat (go_big_quiet_step (first
          | (go_at_call 85; exact Since.call (HC1.out _))))
        refine wpQuiet_nil ?_
        rintro w3 ⟨⟨w3, hb3⟩, rfl⟩
        have HB3 := Lib.hid (HB2.out.trans (hb3.mono HB2.out.size))
        have C0 := Lib.hid (cell_kept hs2 hb3)
        clear sa0 sa1 sb0 sb1 hb3 hs2 p0 p1 q0 q1
        go_wp2_with fail
        go_roundw
        case rel => exact ⟨k + 1, by omega, by go_num, by rw [HX.out], HB3.out, C0.out⟩
        case measure => simp [intOf]; omega
      · have hkn : k = n := by omega
        rw [hkn]
        clear hbw hlN hkn hlt hk
        go_wp2_with fail
        go_ret
        exact ⟨ret_i64 (by unfold momV; rw [HS.out, HN.out]; rfl), HB.out⟩

theorem specWeightOf (w : World) (B : Nat) (v : Value) (cs : List (Int × Int)) (hr : Row w B v cs) :
    Calls Try.prog 74 #[.agg #[v]] w fun e w' => e = .returned (.int .i64 (weightV cs)) ∧ Below w.heap.size w w' := by
  have HR := Lib.hid hr
  obtain ⟨a, cap, hv, -⟩ := row_sliceS hr
  generalize cs.length = n at hv
  subst hv
  clear hr
  have HB0 := Lib.hid ((Below.refl w.heap.size w).alloc (Nat.le_refl _) (.cells #[.slice a n cap] 108))
  have hw : weightV cs = 3 * areaV cs := rfl
  have hbd := areaV_bd cs
  have hC := fun w' h => specAreaTwice w' B (.slice a n cap) cs h
  generalize areaV cs = A at *
  rw [hw]
  clear hw
  go_enter Try.func74, Try.ntmps74
  go_wp2_with fail
  refine (hC _ (HR.out.below HB0.out)).mono ?_
  rintro e w1 ⟨rfl, hb1⟩
  clear hC
  go_wp2_with fail
  go_ret
  exact ⟨rfl, HB0.out.trans (hb1.mono (by simp <;> omega))⟩

end Go.Proofs.Ytdaiffaedejnbaa
