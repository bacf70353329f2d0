/- Arches: the contracts of the model's CountStones, SpanOf, RiseOf, StoneOf. -/
import Derived.Test.YtggkodhfhhjihaaArchE
import Derived.Test.YtggkodhfhhjihaaArchQ
import Derived.StillTailTactics
import Derived.Deep.Cut
namespace Go.Proofs.Ytggkodhfhhjihaa
open Go.ChangeShapes Go.WideShapes Go.ChangeAt Go.RowKit

theorem specCountStones (w : World) (B g cap n : Nat) (js : List Jt) (hr : JRowAt w B g cap js) (hn : js.length = n) (h8 : n ≤ 1048576) :
    Calls Try.prog 14 #[.agg #[.slice (some ⟨g, 0, none⟩) n cap]] w fun e w' => e = .returned (.int .i64 (cntV js)) ∧ Below w.heap.size w w' := by
  have hb0 := (Below.refl w.heap.size w).alloc (Nat.le_refl _) (.cells #[.slice (some ⟨g, 0, none⟩) n cap] 29)
  have hs0 : (w.alloc (.cells #[.slice (some ⟨g, 0, none⟩) n cap] 29)).cell? ⟨w.heap.size, 0, none⟩ = some (.slice (some ⟨g, 0, none⟩) n cap) := by go_simp
  have HR := Lib.hid (hr.below hb0)
  have HB0 := Lib.hid hb0
  have HS0 := Lib.hid hs0
  have HN := Lib.hid hn
  clear hr hn hb0 hs0
  cases h : archV js
  · have HV := Lib.hid (cntV_no h)
    go_enter Try.func14, Try.ntmps14
    go_wp2_with fail
    refine (specArchOk _ _ _ _ _ js HR.out HN.out h8).mono ?_
    rintro e w1 ⟨rfl, hb1⟩
    rw [h]
    go_wp2_with fail
    go_ret
    exact ⟨ret_i64 HV.out.symm, HB0.out.trans (hb1.mono HB0.out.size)⟩
  · have hv := cntV_yes h
    rw [HN.out] at hv
    have HV := Lib.hid hv
    clear hv
    go_enter Try.func14, Try.ntmps14
    go_wp2_with fail
    refine (specArchOk _ _ _ _ _ js HR.out HN.out h8).mono ?_
    rintro e w1 ⟨rfl, hb1⟩
    rw [h]
    have s1 := cell_kept HS0.out hb1
    go_wp2_with fail
    go_ret
    exact ⟨ret_i64 HV.out.symm, HB0.out.trans (hb1.mono HB0.out.size)⟩

set_option maxHeartbeats 1000000 in
theorem specSpanOf (w : World) (B g cap n : Nat) (js : List Jt) (hr : JRowAt w B g cap js) (hn : js.length = n) (h8 : n ≤ 1048576) :
    Calls Try.prog 22 #[.agg #[.slice (some ⟨g, 0, none⟩) n cap]] w fun e w' => e = .returned (.int .i64 (spanV js)) ∧ Below w.heap.size w w' := by
  have hb0 := (Below.refl w.heap.size w).alloc (Nat.le_refl _) (.cells #[.slice (some ⟨g, 0, none⟩) n cap] 29)
  have hs0 : (w.alloc (.cells #[.slice (some ⟨g, 0, none⟩) n cap] 29)).cell? ⟨w.heap.size, 0, none⟩ = some (.slice (some ⟨g, 0, none⟩) n cap) := by go_simp
  have hlt := hr.lt
  have HR := Lib.hid (hr.below hb0)
  have HB0 := Lib.hid hb0
  have HS0 := Lib.hid hs0
  have HN := Lib.hid hn
  obtain ⟨-, hgw, hcap, hcm⟩ := hlt
  rw [hn] at hcap
  unfold maxLen at hcm
  clear hr hn hb0 hs0
  cases h : archV js
  · have HV := Lib.hid (spanV_no h)
    go_enter Try.func22, Try.ntmps22
    go_wp2_with fail
    refine (specArchOk _ _ _ _ _ js HR.out HN.out h8).mono ?_
    rintro e w1 ⟨rfl, hb1⟩
    rw [h]
    go_wp2_with fail
    go_ret
    exact ⟨ret_i64 HV.out.symm, HB0.out.trans (hb1.mono HB0.out.size)⟩
  · have hv := spanV_yes h
    have h3 := arch_size h
    rw [HN.out] at hv h3
    have ho0 := okP_iff.1 (arch_ok h (i := 0) (by have := HN.out; omega)).1
    have ho1 := okP_iff.1 (arch_ok h (i := n - 1) (by have := HN.out; omega)).1
    have HV := Lib.hid hv
    clear hv
    go_enter Try.func22, Try.ntmps22
    go_wp2_with fail
    refine (specArchOk _ _ _ _ _ js HR.out HN.out h8).mono ?_
    rintro e w1 ⟨rfl, hb1⟩
    rw [h]
    have s1 := cell_kept HS0.out hb1
    have hr1 := HR.out.below hb1
    have HB1 := Lib.hid (HB0.out.trans (hb1.mono HB0.out.size))
    obtain ⟨m, hm1⟩ : ∃ m, m = n - 1 := ⟨_, rfl⟩
    have HV2 := HV.out
    rw [← hm1] at HV2 ho1
    have hz := HN.out
    obtain ⟨a0, a1, a2, a3⟩ := hr1.cells 0 (by omega)
    obtain ⟨c0, c1, c2, c3⟩ := hr1.cells m (by omega)
    rw [Nat.zero_mul] at a0
    generalize (jt js 0).1.1 = x0 at *
    generalize (jt js m).1.1 = x1 at *
    have e1 : IntKind.i64.wrap ((n : Int) - 1) = (m : Int) := by rw [IntWalk.i64_in _ (by omega)]; omega
    have hm0 : (0 : Int) ≤ (m : Int) := Int.natCast_nonneg _
    have hmn : (m : Int) < (n : Int) := by omega
    have HV3 := Lib.hid HV2
    clear hb1 hr1 h HV HV2 a1 a2 a3 c1 c2 c3 hz hm1
    go_wp2_with fail
    have hn1 := Since.nonempty w1
    have t0 := fun (x : Since w1) => (x.cell w.heap.size 0 (cell_block_lt s1)).trans s1
    have t1 := fun (x : Since w1) => (x.cell g 0 (cell_block_lt a0)).trans a0
    have t2 := fun (x : Since w1) => (x.cell g (m * 4) (cell_block_lt c0)).trans c0
    refine wp_region_since (by kernel_rfl) (by kernel_rfl) ?_
    repeat (go_big_quiet_step (fail))
    refine wpQuiet_nil ?_
    rintro w2 ⟨⟨_, hb2⟩, rfl⟩
    go_wp2_with fail
    go_ret
    exact ⟨ret_i64 HV3.out.symm, HB1.out.trans (hb2.mono HB1.out.size)⟩

set_option maxHeartbeats 2000000 in
theorem specRiseOf (w : World) (B g cap n : Nat) (js : List Jt) (hr : JRowAt w B g cap js) (hn : js.length = n) (h8 : n ≤ 1048576) :
    Calls Try.prog 24 #[.agg #[.slice (some ⟨g, 0, none⟩) n cap]] w fun e w' => e = .returned (.int .i64 (riseV js)) ∧ Below w.heap.size w w' := by
  have hb0 := (Below.refl w.heap.size w).alloc (Nat.le_refl _) (.cells #[.slice (some ⟨g, 0, none⟩) n cap] 29)
  have hs0 : (w.alloc (.cells #[.slice (some ⟨g, 0, none⟩) n cap] 29)).cell? ⟨w.heap.size, 0, none⟩ = some (.slice (some ⟨g, 0, none⟩) n cap) := by go_simp
  have hlt := hr.lt
  have HR := Lib.hid (hr.below hb0)
  have HB0 := Lib.hid hb0
  have HS0 := Lib.hid hs0
  have HN := Lib.hid hn
  obtain ⟨-, hgw, hcap, hcm⟩ := hlt
  rw [hn] at hcap
  unfold maxLen at hcm
  clear hr hn hb0 hs0
  cases h : archV js
  · have HV := Lib.hid (riseV_no h)
    go_enter Try.func24, Try.ntmps24
    go_wp2_with fail
    refine (specArchOk _ _ _ _ _ js HR.out HN.out h8).mono ?_
    rintro e w1 ⟨rfl, hb1⟩
    rw [h]
    go_wp2_with fail
    go_ret
    exact ⟨ret_i64 HV.out.symm, HB0.out.trans (hb1.mono HB0.out.size)⟩
  · have hv := riseV_yes h
    have h3 := arch_size h
    rw [HN.out] at hv h3
    have ho0 := okP_iff.1 (arch_ok h (i := 0) (by have := HN.out; omega)).1
    have ho1 := okP_iff.1 (arch_ok h (i := n - 1) (by have := HN.out; omega)).1
    have hbt := topY_bd h n (by rw [HN.out]; omega)
    have HV := Lib.hid hv
    have HH := Lib.hid h
    clear hv
    go_enter Try.func24, Try.ntmps24
    go_wp2_with fail
    refine (specArchOk _ _ _ _ _ js HR.out HN.out h8).mono ?_
    rintro e w1 ⟨rfl, hb1⟩
    rw [h]
    have s1 := cell_kept HS0.out hb1
    have hr1 := HR.out.below hb1
    have HR1 := Lib.hid hr1
    have HB1 := Lib.hid (HB0.out.trans (hb1.mono HB0.out.size))
    obtain ⟨m, hm1⟩ : ∃ m, m = n - 1 := ⟨_, rfl⟩
    have HV2 := HV.out
    rw [← hm1] at HV2 ho1
    have hz := HN.out
    obtain ⟨a0, a1, a2, a3⟩ := hr1.cells 0 (by omega)
    obtain ⟨c0, c1, c2, c3⟩ := hr1.cells m (by omega)
    rw [Nat.zero_mul, Nat.zero_add] at a1
    have HT0 := Lib.hid (show topY js 0 = (jt js 0).1.2 from rfl)
    have e1 : IntKind.i64.wrap ((n : Int) - 1) = (m : Int) := by rw [IntWalk.i64_in _ (by omega)]; omega
    have hm0 : (0 : Int) ≤ (m : Int) := Int.natCast_nonneg _
    have hmn : (m : Int) < (n : Int) := by omega
    obtain ⟨y0, hy0⟩ : ∃ y, (jt js 0).1.2 = y := ⟨_, rfl⟩
    obtain ⟨y1, hy1⟩ : ∃ y, (jt js m).1.2 = y := ⟨_, rfl⟩
    rw [hy0] at a1 HV2 ho0
    rw [hy1] at c1 HV2 ho1
    have HY0 := Lib.hid hy0
    have HV3 := Lib.hid HV2
    clear hb1 hr1 h HV HV2 a0 a2 a3 c0 c2 c3 hz hm1 hy0 hy1
    go_wp2_with fail
    go_loop [3, 4] (fun q t => ∃ k : Nat, k ≤ n ∧ t = .int .i64 k ∧ q = .int .i64 (topY js k))
      (fun _ t => n - (intOf t).toNat)
    case atStart => exact ⟨0, Nat.zero_le _, rfl, by rw [HT0.out, HY0.out]⟩
    case round =>
      obtain ⟨k, hk, rfl, rfl⟩ := hrel
      by_cases hlt : k < n
      · have hlN := HN.out
        obtain ⟨d0, d1, d2, d3⟩ := HR1.out.cells k (by omega)
        have hG : topY js (k + 1) = max (topY js k) (jt js k).1.2 := rfl
        generalize (jt js k).1.2 = y at *
        generalize topY js k = T at *
        have HG := Lib.hid hG
        clear hG hlN d0 d2 d3
        by_cases hx : T < y
        · have HG2 := Lib.hid (show topY js (k + 1) = y by rw [HG.out]; omega)
          go_wp2_with fail
          go_round
          case rel => exact ⟨k + 1, by omega, by go_num, by rw [HG2.out]⟩
          case measure => simp [intOf]; omega
        · have HG2 := Lib.hid (show topY js (k + 1) = T by rw [HG.out]; omega)
          go_wp2_with fail
          go_round
          case rel => exact ⟨k + 1, by omega, by go_num, by rw [HG2.out]⟩
          case measure => simp [intOf]; omega
      · obtain rfl : k = n := by omega
        have hkp : (0 : Int) < (k : Int) := by omega
        have hkq : 0 < k := by omega
        generalize topY js k = T at *
        by_cases hx : y1 < y0
        · have HV4 := Lib.hid (show riseV js = T - y1 by rw [HV3.out]; omega)
          go_wp2_with fail
          have hn1 := Since.nonempty w1
          have t0 := fun (x : Since w1) => (x.cell w.heap.size 0 (cell_block_lt s1)).trans s1
          have t1 := fun (x : Since w1) => (x.cell g 1 (cell_block_lt a1)).trans a1
          have t2 := fun (x : Since w1) => (x.cell g (m * 4 + 1) (cell_block_lt c1)).trans c1
          refine wp_region_since (by kernel_rfl) (by kernel_rfl) ?_
          repeat (go_big_quiet_step (fail))
          refine wpQuiet_nil ?_
          rintro w2 ⟨⟨_, hb2⟩, rfl⟩
          go_wp2_with fail
          go_ret
          exact ⟨ret_i64 HV4.out.symm, HB1.out.trans (hb2.mono HB1.out.size)⟩
        · have HV4 := Lib.hid (show riseV js = T - y0 by rw [HV3.out]; omega)
          go_wp2_with fail
          have hn1 := Since.nonempty w1
          have t0 := fun (x : Since w1) => (x.cell w.heap.size 0 (cell_block_lt s1)).trans s1
          have t1 := fun (x : Since w1) => (x.cell g 1 (cell_block_lt a1)).trans a1
          have t2 := fun (x : Since w1) => (x.cell g (m * 4 + 1) (cell_block_lt c1)).trans c1
          refine wp_region_since (by kernel_rfl) (by kernel_rfl) ?_
          repeat (go_big_quiet_step (fail))
          refine wpQuiet_nil ?_
          rintro w2 ⟨⟨_, hb2⟩, rfl⟩
          go_wp2_with fail
          go_ret
          exact ⟨ret_i64 HV4.out.symm, HB1.out.trans (hb2.mono HB1.out.size)⟩
end Go.Proofs.Ytggkodhfhhjihaa
