/- The model's l07Left, WeightLeft, MomentLeft, TotalOf, with loads. -/
import Derived.Test.YtiallkkleilgiaaLoadM
import Derived.Test.YtiallkkleilgiaaSumR
import Derived.Test.YtiallkkleilgiaaArchB
import Derived.Test.YtiallkkleilgiaaWeightS
import Derived.Deep.AppendLies
namespace Go.Proofs.Ytiallkkleilgiaa
set_option maxRecDepth 100000
open Go.ChangeShapes Go.WideShapes Go.ChangeAt Go.RowKit

/-- The sums of weights and moments were handed back, in new memory. -/
def LeftsAns (js : List Jt) (ls : List Ld) (n : Nat) (w : World) (e : Ending) (w' : World) : Prop :=
  ∃ g1 c1 g2 c2, e = .returned (.tuple #[.slice (some ⟨g1, 0, none⟩) n c1, .slice (some ⟨g2, 0, none⟩) n c2]) ∧ SumRow w' w.heap.size g1 c1 n (wL js ls) ∧ SumRow w' w.heap.size g2 c2 n (mL js ls) ∧ Below w.heap.size w w'

set_option maxHeartbeats 4000000 in
theorem specLeft (w : World) (B B2 g cap n : Nat) (la : Option Addr) (m lc : Nat) (js : List Jt) (ls : List Ld) (hr : JRowAt w B g cap js) (hn : js.length = n) (hl : Lds w B2 la m lc ls) (hvl : loadsV js ls = true) :
    Calls Try.prog 41 #[.agg #[.slice (some ⟨g, 0, none⟩) n cap], .slice la m lc] w (LeftsAns js ls n w) := by
  obtain ⟨i0, hi0, hz0, hz1, hz2⟩ := info_parts Try.infoIn
  have hb0 := (Below.refl w.heap.size w).alloc (Nat.le_refl _) (.cells #[.slice (some ⟨g, 0, none⟩) n cap] 44)
  have hv := (loadsV_iff.1 hvl).1
  have h38 := arch_size hv
  obtain ⟨hmc, hlcm⟩ := hl.cap
  unfold maxLen at hlcm
  rw [hn] at h38
  obtain ⟨h3, h8⟩ := h38
  obtain ⟨-, hgw, hcap, hcm⟩ := hr.lt
  rw [hn] at hcap
  unfold maxLen at hcm
  have hr1 := sum_one (w.alloc (.cells #[.slice (some ⟨g, 0, none⟩) n cap] 44)) (w.heap.size + 1) (wL js ls) (by simp)
  have hal : Below (w.alloc (.cells #[.slice (some ⟨g, 0, none⟩) n cap] 44)).heap.size (w.alloc (.cells #[.slice (some ⟨g, 0, none⟩) n cap] 44)) ((w.alloc (.cells #[.slice (some ⟨g, 0, none⟩) n cap] 44)).alloc (.cells #[.int .i64 0] 3)) := (Below.refl _ _).alloc (Nat.le_refl _) _
  have hr2 := sum_one ((w.alloc (.cells #[.slice (some ⟨g, 0, none⟩) n cap] 44)).alloc (.cells #[.int .i64 0] 3)) (w.heap.size + 1) (mL js ls) (by simp <;> omega)
  have hr1' := hr1.below ((Below.refl ((w.alloc (.cells #[.slice (some ⟨g, 0, none⟩) n cap] 44)).alloc (.cells #[.int .i64 0] 3)).heap.size _).alloc (Nat.le_refl _) (.cells #[.int .i64 0] 3))
  simp only [World.size_alloc] at hr1' hr2
  have hb2 := (hb0.alloc (by simp) (.cells #[.int .i64 0] 3)).alloc (by simp <;> omega) (.cells #[.int .i64 0] 3)
  have hs2 : (((w.alloc (.cells #[.slice (some ⟨g, 0, none⟩) n cap] 44)).alloc (.cells #[.int .i64 0] 3)).alloc (.cells #[.int .i64 0] 3)).cell? ⟨w.heap.size, 0, none⟩ = some (.slice (some ⟨g, 0, none⟩) n cap) := by go_simp
  have HR := Lib.hid hr
  have HN := Lib.hid hn
  have HV := Lib.hid hv
  have HVL := Lib.hid hvl
  have HL := Lib.hid hl
  have HLEN := Lib.hid hl.2
  have R1 := Lib.hid hr1'
  have R2 := Lib.hid hr2
  have HB2 := Lib.hid hb2
  have HS2 := Lib.hid hs2
  clear hr hn hv hvl hl hb0 hr1 hr1' hr2 hal hb2 hs2
  go_enter Try.func41, Try.ntmps41
  go_wp2_with fail
  go_loopw [6, 7, 8] (fun p q t wr => ∃ k g1 c1 g2 c2 : Nat, 1 ≤ k ∧ k ≤ n ∧ t = .int .i64 k ∧ p = .slice (some ⟨g1, 0, none⟩) k c1 ∧ q = .slice (some ⟨g2, 0, none⟩) k c2 ∧ g1 ≠ g2 ∧
      SumRow wr (w.heap.size + 1) g1 c1 k (wL js ls) ∧ SumRow wr (w.heap.size + 1) g2 c2 k (mL js ls) ∧ Below w.heap.size w wr ∧ wr.cell? ⟨w.heap.size, 0, none⟩ = some (.slice (some ⟨g, 0, none⟩) n cap))
    (fun _ _ t _ => n - (intOf t).toNat)
  case atStart => exact ⟨1, w.heap.size + 1, 1, w.heap.size + 1 + 1, 1, Nat.le_refl _, by omega, rfl, rfl, rfl, by omega, R1.out, R2.out, HB2.out, HS2.out⟩
  case round =>
    clear R1 R2 HB2 HS2
    obtain ⟨k, g1, c1, g2, c2, hk1, hk, rfl, rfl, rfl, hne, r1, r2, hbw, hsw⟩ := hrel
    have HB := Lib.hid hbw
    have R1 := Lib.hid r1
    have R2 := Lib.hid r2
    obtain ⟨-, hl1, hkc1, hm1⟩ := r1.lt
    obtain ⟨-, hl2, hkc2, hm2⟩ := r2.lt
    unfold maxLen at hm1 hm2
    by_cases hlt : k < n
    · have hlN := HN.out
      obtain ⟨j, hj⟩ : ∃ j : Nat, j + 1 = k := ⟨k - 1, by omega⟩
      have hrw := JRowAt.below HR.out hbw
      obtain ⟨a0, a1, a2, a3⟩ := hrw.cells j (by omega)
      obtain ⟨d0, d1, d2, d3⟩ := hrw.cells k (by omega)
      have hS := arch_bet HV.out (i := j) (by omega)
      rw [hj] at hS
      have hwk : wK js j = weightV (betw (jt js j) (jt js k)) := by unfold wK; rw [hj]
      have hmk : mK js j = momV (betw (jt js j) (jt js k)) := by unfold mK; rw [hj]
      obtain ⟨⟨⟨ax, ay⟩, ⟨bx, by_⟩⟩, ea⟩ : ∃ p, jt js j = p := ⟨_, rfl⟩
      obtain ⟨⟨⟨cx, cy⟩, ⟨dx, dy⟩⟩, ec⟩ : ∃ p, jt js k = p := ⟨_, rfl⟩
      rw [ea] at a0 a1 a2 a3
      rw [ec] at d0 d1 d2 d3
      rw [ea, ec] at hS hwk hmk
      dsimp only at a0 a1 a2 a3 d0 d1 d2 d3
      have hSB := fun W => specStoneBetween ax ay bx by_ cx cy dx dy W
      unfold BetAns at hSB
      rw [betV_yes hS, hS] at hSB
      generalize betw ((ax, ay), (bx, by_)) ((cx, cy), (dx, dy)) = V at *
      have HSB := Lib.hid hSB
      have HWK := Lib.hid hwk
      have HMK := Lib.hid hmk
      have HJ := Lib.hid hj
      have e1 : IntKind.i64.wrap ((k : Int) - 1) = (j : Int) := by rw [IntWalk.i64_in _ (by omega)]; omega
      have hj0 : (0 : Int) ≤ (j : Int) := Int.natCast_nonneg _
      have hjn : (j : Int) < (n : Int) := by omega
      have hjk : (j : Int) < (k : Int) := by omega
      have hk0 : (0 : Int) ≤ (k : Int) := Int.natCast_nonneg _
      have hkn : (k : Int) < (n : Int) := by omega
      have mg := Nat.ne_of_lt (cell_block_lt a0)
      have mw := Nat.ne_of_lt (cell_block_lt hsw)
      dsimp only at mg mw
      have ng := Ne.symm mg
      have nw := Ne.symm mw
      clear hSB hwk hmk hj ea ec hrw hlN hbw hS r1 r2
      go_wp2_with fail
      go_cut [9, 10] from 20 to 37 (fun p r wx => ∃ (b : Nat) (ua : Option Addr) (uc : Nat), p = .pointer (some ⟨b, 0, none⟩) ∧ r = .bool true ∧ wx.cell? ⟨b, 0, none⟩ = some (.slice ua V.length uc) ∧ Row wx wr.heap.size (.slice ua V.length uc) V ∧ Below wr.heap.size wr wx)
      case first =>
        go_region_held3 (fun w' => w'.cell? ⟨w.heap.size, 0, none⟩ = some (.slice (some ⟨g, 0, none⟩) n cap) ∧ w'.cell? ⟨g, j * 4, none⟩ = some (.int .i64 ax) ∧ w'.cell? ⟨g, j * 4 + 1, none⟩ = some (.int .i64 ay) ∧ w'.cell? ⟨g, j * 4 + 2, none⟩ = some (.int .i64 bx) ∧ w'.cell? ⟨g, j * 4 + 3, none⟩ = some (.int .i64 by_) ∧ w'.cell? ⟨g, k * 4, none⟩ = some (.int .i64 cx) ∧ w'.cell? ⟨g, k * 4 + 1, none⟩ = some (.int .i64 cy) ∧ w'.cell? ⟨g, k * 4 + 2, none⟩ = some (.int .i64 dx) ∧ w'.cell? ⟨g, k * 4 + 3, none⟩ = some (.int .i64 dy))
          (first | (refine ⟨?_, ?_, ?_, ?_, ?_, ?_, ?_, ?_, ?_⟩ <;> exact cell_sf3 (by assumption) (by assumption)) | go_keep | trivial)
          (first
            | (go_at_call 57; refine (HSB.out _).mono ?_; rintro e w4 ⟨u4, rfl, hr4, hb4⟩; obtain ⟨sa4, sc4, hu4, -⟩ := row_sliceS hr4; have hs4 : Below wr.heap.size wr w4 := (by first | exact hb4 | exact st_drew3 hb4 | exact st_al3 hb4 | exact st_dal3 hb4); have hrb4 : Row w4 wr.heap.size u4 V := hr4.base (by simp); have R4 := Lib.hid hrb4; have D1 := Lib.hid (row_lt3 hr4); (first | (have D2 := Lib.hid (row_al3 (w := wr) hr4)) | (have D2 := Lib.hid (row_al3 (w := wr.drewN _) hr4)) | skip); have s4 : w4.cell? ⟨w.heap.size, 0, none⟩ = some (.slice (some ⟨g, 0, none⟩) n cap) := cell_kept hsw hs4; have a04 : w4.cell? ⟨g, j * 4, none⟩ = some (.int .i64 ax) := cell_kept a0 hs4; have a14 : w4.cell? ⟨g, j * 4 + 1, none⟩ = some (.int .i64 ay) := cell_kept a1 hs4; have a24 : w4.cell? ⟨g, j * 4 + 2, none⟩ = some (.int .i64 bx) := cell_kept a2 hs4; have a34 : w4.cell? ⟨g, j * 4 + 3, none⟩ = some (.int .i64 by_) := cell_kept a3 hs4; have d04 : w4.cell? ⟨g, k * 4, none⟩ = some (.int .i64 cx) := cell_kept d0 hs4; have d14 : w4.cell? ⟨g, k * 4 + 1, none⟩ = some (.int .i64 cy) := cell_kept d1 hs4; have d24 : w4.cell? ⟨g, k * 4 + 2, none⟩ = some (.int .i64 dx) := cell_kept d2 hs4; have d34 : w4.cell? ⟨g, k * 4 + 3, none⟩ = some (.int .i64 dy) := cell_kept d3 hs4; (first | (have z4 := fr_dal3 (w := wr) hb4) | (have z4 := fr_al3 (w := wr) hb4) | skip); (try (obtain ⟨zc4, zf4, zl4⟩ := z4)); have mg4 := Nat.ne_of_lt (cell_block_lt a04); have mw4 := Nat.ne_of_lt (cell_block_lt s4); dsimp only at mg4 mw4; have ng4 := Ne.symm mg4; have nw4 := Ne.symm mw4; have HB4 := Lib.hid hs4; clear hr4 hb4 hs4 hrb4; subst hu4))
        all_goals
          go_wp2_with fail
          go_meet
          refine ⟨_, sa4, sc4, rfl, rfl, by go_simp, ?_, ?_⟩
        all_goals first
          | exact ownsRow_setCell_other R4.out (a := ⟨wr.heap.size, 0, none⟩) D2.out _
          | exact World.ownsRow.alloc R4.out _
          | exact ownsRow_setCell_other (World.ownsRow.alloc R4.out _) (a := ⟨w4.heap.size, 0, none⟩) D1.out _
          | (repeat (first | refine Below.setCell ?_ (by first | exact Nat.le_refl _ | exact HB4.out.size) _ | exact HB4.out | exact below_al3 HB4.out _))
      case rest =>
        obtain ⟨b, ua, uc, rfl, rfl, hbx, hrx, hX⟩ := hcut
        have hz := HB.out.size
        have HB5 := Lib.hid (HB.out.trans (hX.mono hz))
        have s5 := cell_kept hsw hX
        have R15 := Lib.hid (R1.out.below hX)
        have R25 := Lib.hid (R2.out.below hX)
        have HRX := Lib.hid hrx
        have x5 := R15.out.cell j (by have := HJ.out; omega)
        have y5 := R25.out.cell j (by have := HJ.out; omega)
        have hsj := wL_bd HVL.out j (by omega)
        have hmj := mL_bd HVL.out j (by omega)
        have hsk := wL_bd HVL.out k (by omega)
        have hmk2 := mL_bd HVL.out k (by omega)
        have hn1 : sumTo (wL js ls) k = sumTo (wL js ls) j + weightV V + sumTo (onF ldw ls j) m := by rw [← HJ.out]; show sumTo (wL js ls) j + (wK js j + sumTo (onF ldw ls j) ls.length) = _; rw [HWK.out, HLEN.out]; omega
        have hn2 : sumTo (mL js ls) k = sumTo (mL js ls) j + momV V + sumTo (onF ldm ls j) m := by rw [← HJ.out]; show sumTo (mL js ls) j + (mK js j + sumTo (onF ldm ls j) ls.length) = _; rw [HMK.out, HLEN.out]; omega
        have hw5 := weightV_bd V
        have hm5 := momV_bd V
        have hCW := fun W h => specWeightOf W wr.heap.size (.slice ua V.length uc) V h
        have hCM := fun W h => specMomentOf W wr.heap.size (.slice ua V.length uc) V h
        have HS1 := Lib.hid (sums_next (wL js ls) k)
        have HS2 := Lib.hid (sums_next (mL js ls) k)
        generalize sumTo (wL js ls) j = Sj at *
        generalize sumTo (mL js ls) j = Mj at *
        generalize sumTo (wL js ls) k = Sk at *
        generalize sumTo (mL js ls) k = Mk at *
        generalize weightV V = Wv at *
        generalize momV V = Mv at *
        have HN1 := Lib.hid hn1
        have HN2 := Lib.hid hn2
        have HCW := Lib.hid hCW
        have HCM := Lib.hid hCM
        clear hX hrx mg mw ng nw a0 a1 a2 a3 d0 d1 d2 d3 HB R1 R2 hn1 hn2 hCW hCM hsw
        go_wp2_with fail
        have hn1 := Since.nonempty wc
        have t0 := fun (x : Since wc) => (x.cell g1 j (cell_block_lt x5)).trans x5
        have t1 := fun (x : Since wc) => (x.cell b 0 (cell_block_lt hbx)).trans hbx
        refine wp_region_since (by kernel_rfl) (by kernel_rfl) ?_
        repeat (go_big_quiet_step (first
          | (go_at_call 58; exact Since.call (HCW.out _ (HRX.out.below (Since.below _))))))
        refine wpQuiet_nil ?_
        rintro w6 ⟨⟨w6, hb6⟩, rfl⟩
        have y6 := cell_kept y5 hb6
        have b6 := cell_kept hbx hb6
        have s6 := cell_kept s5 hb6
        have HB6 := Lib.hid (HB5.out.trans (hb6.mono HB5.out.size))
        have R16 := Lib.hid (R15.out.below hb6)
        have R26 := Lib.hid (R25.out.below hb6)
        have HRX6 := Lib.hid (HRX.out.below hb6)
        clear t0 t1 hn1 hb6 x5 y5 hbx s5 HB5 R15 R25 HRX
        go_wp2_with fail
        have hn1 := Since.nonempty w6
        have t0 := fun (x : Since w6) => (x.cell g2 j (cell_block_lt y6)).trans y6
        have t1 := fun (x : Since w6) => (x.cell b 0 (cell_block_lt b6)).trans b6
        refine wp_region_since (by kernel_rfl) (by kernel_rfl) ?_
        repeat (go_big_quiet_step (first
          | (go_at_call 59; exact Since.call (HCM.out _ (HRX6.out.below (Since.below _))))))
        refine wpQuiet_nil ?_
        rintro w7 ⟨⟨w7, hb7⟩, rfl⟩
        have s7 := cell_kept s6 hb7
        have HB7 := Lib.hid (HB6.out.trans (hb7.mono HB6.out.size))
        have R17 := Lib.hid (R16.out.below hb7)
        have R27 := Lib.hid (R26.out.below hb7)
        have hh1 := (R16.out.below hb7).lt
        have hh2 := (R26.out.below hb7).lt
        have hwz := HB7.out.size
        clear t0 t1 hn1 hb7 y6 b6 s6 HB6 R16 R26 HRX6
        have H6 := Lib.hid (loadsV_iff.1 HVL.out).2.1
        have HOK := Lib.hid (loadsV_iff.1 HVL.out).2.2
        have HL7 := Lib.hid (HL.out.below HB7.out)
        obtain ⟨X0, hX0⟩ : ∃ X, X = Sj + Wv := ⟨_, rfl⟩
        obtain ⟨Y0, hY0⟩ : ∃ Y, Y = Mj + Mv := ⟨_, rfl⟩
        have hXb : -100000000 ≤ X0 ∧ X0 ≤ 100000000 := by omega
        have hYb : -100000000 ≤ Y0 ∧ Y0 ≤ 100000000 := by omega
        rw [← hX0, ← hY0]
        have HX0 := Lib.hid hX0
        have HY0 := Lib.hid hY0
        clear hX0 hY0 hsj hmj hsk hmk2 hw5 hm5
        go_wp2_with fail
        go_loopw [11, 12, 13] (fun p q t wr => ∃ i : Nat, i ≤ m ∧ t = .int .i64 i ∧ p = .int .i64 (X0 + sumTo (onF ldw ls j) i) ∧ q = .int .i64 (Y0 + sumTo (onF ldm ls j) i) ∧ Below w7.heap.size w7 wr)
          (fun _ _ t _ => m - (intOf t).toNat)
        case atStart => exact ⟨0, Nat.zero_le _, rfl, by simp [sumTo], by simp [sumTo], Below.refl _ _⟩
        case round =>
          obtain ⟨i, hi, rfl, rfl, rfl, hbi⟩ := hrel
          have HBI := Lib.hid hbi
          have hS := onF_bd (f := ldw) (fun l hl => ldw_bd hl) H6.out HOK.out j i (by have := HLEN.out; omega)
          have hM := onF_bd (f := ldm) (fun l hl => ldm_bd hl) H6.out HOK.out j i (by have := HLEN.out; omega)
          by_cases hlt2 : i < m
          · obtain ⟨gl, rfl, -, l0, l1, l2⟩ := (HL7.out.below hbi).at i hlt2
            have hO := ldOk_iff.1 (HOK.out i (by have := HLEN.out; omega))
            have HI1 := Lib.hid (show sumTo (onF ldw ls j) (i + 1) = sumTo (onF ldw ls j) i + onF ldw ls j i from rfl)
            have HI2 := Lib.hid (show sumTo (onF ldm ls j) (i + 1) = sumTo (onF ldm ls j) i + onF ldm ls j i from rfl)
            have HYW := Lib.hid (onF_yes (f := ldw) (ls := ls) (k := j) (i := i))
            have HYM := Lib.hid (onF_yes (f := ldm) (ls := ls) (k := j) (i := i))
            have HNW := Lib.hid (onF_no (f := ldw) (ls := ls) (k := j) (i := i))
            have HNM := Lib.hid (onF_no (f := ldm) (ls := ls) (k := j) (i := i))
            have hw0 : ldw (ld ls i) = (ld ls i).2.1 := rfl
            have hm0 : ldm (ld ls i) = (ld ls i).2.1 * (ld ls i).2.2 := rfl
            rw [hw0] at HYW
            rw [hm0] at HYM
            clear hw0 hm0
            generalize (ld ls i).1 = lx at *
            generalize (ld ls i).2.1 = ly at *
            generalize (ld ls i).2.2 = lz at *
            generalize sumTo (onF ldw ls j) i = LW at *
            generalize sumTo (onF ldm ls j) i = LM at *
            have hmul := mul_bd (x := ly) (y := lz) 10000 60 ⟨by omega, by omega⟩ ⟨by omega, by omega⟩
            obtain ⟨P, hP⟩ : ∃ P, P = ly * lz := ⟨_, rfl⟩
            have hwr : IntKind.i64.wrap (ly * lz) = P := by rw [hP]; exact IntWalk.i64_in _ (by omega)
            rw [← hP] at hmul HYM
            obtain ⟨SX, hSX⟩ : ∃ S, S = X0 + LW := ⟨_, rfl⟩
            obtain ⟨SY, hSY⟩ : ∃ S, S = Y0 + LM := ⟨_, rfl⟩
            have hSXb : -200000000 ≤ SX ∧ SX ≤ 200000000 := by omega
            have hSYb : -200000000 ≤ SY ∧ SY ≤ 200000000 := by omega
            rw [← hSX, ← hSY]
            have HSX := Lib.hid hSX
            have HSY := Lib.hid hSY
            clear hP hSX hSY hS hM hbi hXb hYb
            by_cases hxk : lx = (j : Int)
            · have HY1 := Lib.hid (HYW.out hxk)
              have HY2 := Lib.hid (HYM.out hxk)
              have hq : (lx == (j : Int)) = true := by simp [hxk]
              clear HYW HYM HNW HNM hxk
              go_wp2_with fail
              have hn1 := Since.nonempty wr
              have t1 := fun (x : Since wr) => (x.cell gl (i * 3 + 1) (cell_block_lt l1)).trans l1
              have t2 := fun (x : Since wr) => (x.cell gl (i * 3 + 2) (cell_block_lt l2)).trans l2
              refine wp_region_since (by kernel_rfl) (by kernel_rfl) ?_
              repeat (go_big_quiet_step (fail))
              refine wpQuiet_nil ?_
              rintro w8 ⟨⟨_, hb8⟩, rfl⟩
              have HB8 := Lib.hid (HBI.out.trans (hb8.mono HBI.out.size))
              clear t1 t2 hn1 hb8 l0 l1 l2
              go_wp2_with fail
              go_roundw
              case rel => exact ⟨i + 1, by omega, by go_num, by rw [HI1.out, HY1.out, ← Int.add_assoc, ← HSX.out], by rw [HI2.out, HY2.out, ← Int.add_assoc, ← HSY.out], HB8.out⟩
              case measure => simp [intOf]; omega
            · have HY1 := Lib.hid (HNW.out hxk)
              have HY2 := Lib.hid (HNM.out hxk)
              have hq : (lx == (j : Int)) = false := by simp [hxk]
              clear HYW HYM HNW HNM hxk
              go_wp2_with fail
              go_roundw
              case rel => exact ⟨i + 1, by omega, by go_num, by rw [HI1.out, HY1.out, Int.add_zero, ← HSX.out], by rw [HI2.out, HY2.out, Int.add_zero, ← HSY.out], HBI.out⟩
              case measure => simp [intOf]; omega
          · obtain rfl : i = m := by omega
            have si := cell_kept s7 hbi
            have HBi := Lib.hid (HB7.out.trans (hbi.mono hwz))
            have RA := Lib.hid (R17.out.below hbi)
            have RB := Lib.hid (R27.out.below hbi)
            have hhA := (R17.out.below hbi).lt
            have hhB := (R27.out.below hbi).lt
            have hwi := HBi.out.size
            rw [HX0.out, HY0.out, ← HN1.out, ← HN2.out]
            clear hbi s7 HB7 R17 R27 hh1 hh2 hwz hS hM hXb hYb HL7 HBI
            go_upto_region 16 with (at_builtin; refine wpList_append_lies _ rfl _ _ _ rfl (w.heap.size + 1) 3 i0 _ 1 8 Try.underlying66 hi0 hz0 hz1 hz2 rfl (by omega) (.slice (some ⟨g1, 0, none⟩) k c1) k (sums (wL js ls) k) (by rfl) (World.ownsRow.alloc RA.out _) ⟨wr.heap.size, 0, none⟩ 1 1 [.int .i64 Sk] (by rfl) (by rfl) (World.news_of_block (cs := #[.int .i64 Sk]) (t := 3) (fr := (0, 0)) (heap_alloc_new wr _)) (by simp [Value.oneCell']) (by omega) (by unfold maxLen; omega) (by omega) (by simp; omega) (wr.heap.size + 1) (by simp) ?_; intro g3 c3 w8 hown8 hgrow8 hat8 hgl8; have HO8 := Lib.hid hown8; have HG8 := Lib.hid hgrow8; clear hown8 hgrow8)
            have hx1 := hhA.1
            have hx2 := hhB.1
            have hlA1 := hhA.2.1
            have hlB1 := hhB.2.1
            have h23 : g2 ≠ g3 := by
              rcases hat8 with h | h
              · simp [Value.ownBlock] at h; omega
              · omega
            have r18 : SumRow w8 (w.heap.size + 1) g3 c3 (k + 1) (wL js ls) := by
              have := HO8.out
              rw [← HS1.out] at this
              exact this
            have r28 : SumRow w8 (w.heap.size + 1) g2 c2 k (mL js ls) := SumRow.kept (World.ownsRow.alloc RB.out _) HG8.out (by simp [Value.ownBlock]; omega)
            have s8 : w8.cell? ⟨w.heap.size, 0, none⟩ = some (.slice (some ⟨g, 0, none⟩) n cap) := by
              have l7 := cell_block_lt si
              dsimp only at l7
              rw [World.grownBy.cell_far HG8.out ⟨w.heap.size, 0, none⟩ (by simp; omega) (by simp [Value.ownBlock]; omega), World.cell?_alloc_lt _ _ _ (by simpa using l7)]
              exact si
            have hb8 : Below w.heap.size w w8 := (HBi.out.alloc hwi _).grown HG8.out (by simp; omega) (fun i hi => by simp [Value.ownBlock] at hi; omega)
            have R18 := Lib.hid r18
            have R28 := Lib.hid r28
            have HB8 := Lib.hid hb8
            have hw8 := hb8.size
            have hl82 := r28.lt.2.1
            clear r18 r28 hb8 si RA RB HO8 HG8 HBi hat8
            go_wp2_with (at_builtin; refine wpList_append_lies _ rfl _ _ _ rfl (w.heap.size + 1) 3 i0 _ 1 8 Try.underlying66 hi0 hz0 hz1 hz2 rfl (by omega) (.slice (some ⟨g2, 0, none⟩) k c2) k (sums (mL js ls) k) (by rfl) (World.ownsRow.alloc R28.out _) ⟨w8.heap.size, 0, none⟩ 1 1 [.int .i64 Mk] (by rfl) (by rfl) (World.news_of_block (cs := #[.int .i64 Mk]) (t := 3) (fr := (0, 0)) (heap_alloc_new w8 _)) (by simp [Value.oneCell']) (by omega) (by unfold maxLen; omega) (by omega) (by simp; omega) (w8.heap.size + 1) (by simp) ?_; intro g4 c4 w9 hown9 hgrow9 hat9 hgl9; have HO9 := Lib.hid hown9; have HG9 := Lib.hid hgrow9; clear hown9 hgrow9)
            have h34 : g3 ≠ g4 := by
              rcases hat9 with h | h
              · simp [Value.ownBlock] at h; omega
              · omega
            have r19 : SumRow w9 (w.heap.size + 1) g3 c3 (k + 1) (wL js ls) := SumRow.kept (World.ownsRow.alloc R18.out _) HG9.out (by simp [Value.ownBlock]; omega)
            have r29 : SumRow w9 (w.heap.size + 1) g4 c4 (k + 1) (mL js ls) := by
              have := HO9.out
              rw [← HS2.out] at this
              exact this
            have s9 : w9.cell? ⟨w.heap.size, 0, none⟩ = some (.slice (some ⟨g, 0, none⟩) n cap) := by
              have l8 := cell_block_lt s8
              dsimp only at l8
              rw [World.grownBy.cell_far HG9.out ⟨w.heap.size, 0, none⟩ (by simp; omega) (by simp [Value.ownBlock]; omega), World.cell?_alloc_lt _ _ _ (by simpa using l8)]
              exact s8
            have hb9 : Below w.heap.size w w9 := (HB8.out.alloc hw8 _).grown HG9.out (by simp; omega) (fun i hi => by simp [Value.ownBlock] at hi; omega)
            have R19 := Lib.hid r19
            have R29 := Lib.hid r29
            have HB9 := Lib.hid hb9
            have S9 := Lib.hid s9
            clear r19 r29 hb9 s8 s9 R18 R28 HO9 HG9 HB8 hat9
            go_roundw
            case rel => exact ⟨k + 1, g3, c3, g4, c4, by omega, by omega, by go_num, rfl, rfl, h34, R19.out, R29.out, HB9.out, S9.out⟩
            case measure => simp [intOf]; omega
    · obtain rfl : k = n := by omega
      clear hbw
      go_wp2_with fail
      refine bodyPost_ret (v := .tuple #[.slice (some ⟨g1, 0, none⟩) k c1, .slice (some ⟨g2, 0, none⟩) k c2]) (by simp [results, Try.results41, go_sem]) rfl ⟨g1, c1, g2, c2, rfl, owns_base R1.out (Nat.le_succ _), owns_base R2.out (Nat.le_succ _), HB.out⟩
end Go.Proofs.Ytiallkkleilgiaa
