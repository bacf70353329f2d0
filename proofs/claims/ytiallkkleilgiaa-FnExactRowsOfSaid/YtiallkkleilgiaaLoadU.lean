/- The program's burdenLeft and loadArch. -/
import Derived.Test.YtiallkkleilgiaaLoadB
import Derived.Deep.RegionLaw
namespace Go.Proofs.Ytiallkkleilgiaa
set_option maxRecDepth 100000
open Go.ChangeShapes Go.WideShapes Go.ChangeAt Go.RowKit

theorem burdenNo (w : World) (ja sa la : Option Addr) (n jc s sc m lc : Nat) (k : Int) (hk : ¬ (0 ≤ k ∧ k < (n : Int))) :
    Calls Try.prog 63 #[.agg #[.slice ja n jc, .slice sa s sc, .slice la m lc], .int .i64 k] w fun e w' => e = .returned (.agg #[.int .i64 0, .int .i64 0]) ∧ Below w.heap.size w w' := by
  have HD := Lib.hid (show decide (0 ≤ k ∧ k < (n : Int)) = false from decide_eq_false hk)
  clear hk
  go_enter Try.func63, Try.ntmps63
  go_wp2_with fail
  refine (hasJoint _ n _ k _).mono ?_
  rintro e w1 ⟨rfl, rfl⟩
  rw [HD.out]
  go_wp2_with fail
  refine bodyPost_ret (v := .agg #[.int .i64 0, .int .i64 0]) (by simp [results, Try.results63, go_sem]) rfl ⟨rfl, ?_⟩
  repeat (first | exact Below.refl _ _ | refine Below.alloc ?_ (by simp <;> omega) _ | refine Below.setCell ?_ (by simp <;> omega) _)

/-- The boxes of burdenLeft: its sum, its loads, its result. -/
def BoxS (w : World) (H : Nat) (S M : Int) (v : Value) : Prop :=
  w.cell? ⟨H + 1 + 1, 0, none⟩ = some (.int .i64 S) ∧ w.cell? ⟨H + 1 + 1, 1, none⟩ = some (.int .i64 M) ∧ (∀ o, w.frozen? ⟨H + 1 + 1, o, none⟩ = false) ∧ w.cell? ⟨H, 2, none⟩ = some v ∧
  w.cell? ⟨H + 1, 0, none⟩ = some (.int .i64 0) ∧ w.cell? ⟨H + 1, 1, none⟩ = some (.int .i64 0) ∧ ∀ o, w.frozen? ⟨H + 1, o, none⟩ = false
theorem BoxS.below {w w' : World} {H : Nat} {S M : Int} {v : Value} (h : BoxS w H S M v) (hb : Below w.heap.size w w') : BoxS w' H S M v :=
  ⟨cell_kept h.1 hb, cell_kept h.2.1 hb, fun o => frozen_kept (h.2.2.1 o) h.1 hb, cell_kept h.2.2.2.1 hb, cell_kept h.2.2.2.2.1 hb, cell_kept h.2.2.2.2.2.1 hb, fun o => frozen_kept (h.2.2.2.2.2.2 o) h.2.2.2.2.1 hb⟩
theorem BoxS.after {w w' : World} {H n : Nat} {S M : Int} {v : Value} (h : BoxS w H S M v) (hb : Below (w.drewN n).heap.size (w.drewN n) w') : BoxS w' H S M v := BoxS.below (w := w.drewN n) h hb
theorem BoxS.set {w : World} {H : Nat} {S M : Int} {v : Value} (h : BoxS w H S M v) (S' M' : Int) : BoxS ((w.setCell ⟨H + 1 + 1, 0, none⟩ (.int .i64 S')).setCell ⟨H + 1 + 1, 1, none⟩ (.int .i64 M')) H S' M' v := by
  obtain ⟨h1, h2, h3, h4, h5, h6, h7⟩ := h
  have l1 := cell_block_lt h1
  have l2 := cell_block_lt h4
  have f0 := h3 0
  have f1 := h3 1
  refine ⟨?_, ?_, fun o => ?_, ?_, ?_, ?_, fun o => ?_⟩
  · go_simp
  · go_simp
  · have := h3 o; go_simp
  · go_simp
  · go_simp
  · go_simp
  · have := h7 o; go_simp

theorem sum_bdW (css : List (List (Int × Int))) (k : Nat) (hk : k ≤ 8) : -1036800 ≤ sumTo (fun i => weightV (st css i)) k ∧ sumTo (fun i => weightV (st css i)) k ≤ 1036800 := by
  have := sumTo_bd (fun i => weightV (st css i)) 129600 k fun i _ => weightV_bd _
  omega
theorem sum_bdM (css : List (List (Int × Int))) (k : Nat) (hk : k ≤ 8) : -41472000 ≤ sumTo (fun i => momV (st css i)) k ∧ sumTo (fun i => momV (st css i)) k ≤ 41472000 := by
  have := sumTo_bd (fun i => momV (st css i)) 5184000 k fun i _ => momV_bd _
  omega

set_option maxHeartbeats 8000000 in
theorem burdenYes (w : World) (B B2 : Nat) (ja la : Option Addr) (sg n jc s sc m lc K N : Nat) (css : List (List (Int × Int))) (ls : List Ld) (hr : SRow w B (.slice (some ⟨sg, 0, none⟩) s sc) css) (hcs : css.length = s) (hsc : s ≤ sc)
    (hl : Lds w B2 la m lc ls) (hm6 : m ≤ 6) (hok : ∀ i, i < ls.length → ldOk N (ld ls i) = true) (hK : K < n) (hKs : K ≤ s) (hK8 : K ≤ 8) :
    Calls Try.prog 63 #[.agg #[.slice ja n jc, .slice (some ⟨sg, 0, none⟩) s sc, .slice la m lc], .int .i64 K] w fun e w' => e = .returned (.agg #[.int .i64 (sumTo (fun i => weightV (st css i)) K + sumTo (befF ldw ls K) m), .int .i64 (sumTo (fun i => momV (st css i)) K + sumTo (befF ldm ls K) m)]) ∧ Below w.heap.size w w' := by
  obtain ⟨hmc, hcm⟩ := hl.cap
  unfold maxLen at hcm
  have HD := Lib.hid (show decide ((0 : Int) ≤ (K : Int) ∧ (K : Int) < (n : Int)) = true from decide_eq_true ⟨by omega, by omega⟩)
  have hb0 := (((Below.refl w.heap.size w).alloc (Nat.le_refl _) (.cells #[.slice ja n jc, .slice (some ⟨sg, 0, none⟩) s sc, .slice la m lc] 83)).alloc (by simp) (.cells #[.int .i64 0, .int .i64 0] 111)).alloc (by simp <;> omega) (.cells #[.int .i64 0, .int .i64 0] 111)
  have hx0 : BoxS (((w.alloc (.cells #[.slice ja n jc, .slice (some ⟨sg, 0, none⟩) s sc, .slice la m lc] 83)).alloc (.cells #[.int .i64 0, .int .i64 0] 111)).alloc (.cells #[.int .i64 0, .int .i64 0] 111)) w.heap.size 0 0 (.slice la m lc) := by
    refine ⟨?_, ?_, fun o => ?_, ?_, ?_, ?_, fun o => ?_⟩ <;> go_simp
  have HB0 := Lib.hid hb0
  have HX0 := Lib.hid hx0
  have HR := Lib.hid hr
  have HN := Lib.hid hcs
  have HL := Lib.hid hl
  have HOK := Lib.hid hok
  have HLN := Lib.hid hl.2
  have hk0 : (0 : Int) ≤ (K : Int) := Int.natCast_nonneg _
  have hk1 : (K : Int) ≤ (sc : Int) := by omega
  have hk2 : K ≤ sc := by omega
  clear hb0 hx0 hr hcs hl hok
  go_enter Try.func63, Try.ntmps63
  go_wp2_with fail
  refine (hasJoint _ n _ K _).mono ?_
  rintro e w1 ⟨rfl, rfl⟩
  rw [HD.out]
  go_wp2_with fail
  go_loopw [23] (fun t wr => ∃ k : Nat, k ≤ K ∧ t = .int .i64 k ∧ BoxS wr w.heap.size (sumTo (fun i => weightV (st css i)) k) (sumTo (fun i => momV (st css i)) k) (.slice la m lc) ∧ Below w.heap.size w wr)
    (fun t _ => K - (intOf t).toNat)
  case atStart => exact ⟨0, Nat.zero_le _, rfl, HX0.out, HB0.out⟩
  case round =>
    clear HX0 HB0
    obtain ⟨k, hk, rfl, hx, hbw⟩ := hrel
    have HB := Lib.hid hbw
    have HX := Lib.hid hx
    have hS := sum_bdW css k (by omega)
    have hM := sum_bdM css k (by omega)
    by_cases hlt : k < K
    · obtain ⟨pa, pm, pc, c1, r1⟩ := (HR.out.below hbw).at HN.out k (by omega)
      have hV := weightV_bd (st css k)
      have hU := momV_bd (st css k)
      have HS1 := Lib.hid (show sumTo (fun i => weightV (st css i)) (k + 1) = sumTo (fun i => weightV (st css i)) k + weightV (st css k) from rfl)
      have HM1 := Lib.hid (show sumTo (fun i => momV (st css i)) (k + 1) = sumTo (fun i => momV (st css i)) k + momV (st css k) from rfl)
      have hC := fun W h => stoneBurden W B pa pm pc (st css k) h
      have hal : Below wr.heap.size wr (wr.alloc (.cells #[.slice pa pm pc] 99)) := (Below.refl _ _).alloc (Nat.le_refl _) _
      have HXW := Lib.hid (HX.out.below hal)
      have HRW := Lib.hid (r1.below hal)
      have HBW := Lib.hid (below_al3 hbw (.cells #[.slice pa pm pc] 99))
      have z0 : (wr.alloc (.cells #[.slice pa pm pc] 99)).cell? ⟨wr.heap.size, 0, none⟩ = some (.slice pa pm pc) := by go_simp
      generalize sumTo (fun i => weightV (st css i)) k = S at *
      generalize sumTo (fun i => momV (st css i)) k = M at *
      generalize weightV (st css k) = V at *
      generalize momV (st css k) = U at *
      have hPl : ∀ W, Calls Try.prog 77 #[.agg #[.int .i64 S, .int .i64 M], .agg #[.int .i64 V, .int .i64 U]] W fun e w' => e = .returned (.agg #[.int .i64 (S + V), .int .i64 (M + U)]) ∧ Below W.heap.size W w' := fun W => burdenPlus S M V U W (by omega) (by omega) (by omega) (by omega)
      have HC := Lib.hid hC
      have HP := Lib.hid hPl
      clear hC hPl hal hbw r1 hx hS hM hV hU
      go_wp2_with fail
      generalize hW : wr.alloc (.cells #[.slice pa pm pc] 99) = W at *
      obtain ⟨q00, q10, fq0, -⟩ := HXW.out
      have z00 := z0
      have HX0 : RowKit.Hid (BoxS W w.heap.size S M (.slice la m lc)) := Lib.hid HXW.out
      have HB0 : RowKit.Hid (Below w.heap.size w W) := Lib.hid HBW.out
      clear hW z0 c1 HXW HBW HB HX
      go_region_law
        (first
          | (go_simp; go_at_call 78; refine (HC.out _ (by first | exact HRW.out | exact (show Row _ B _ _ from HRW.out))).mono ?_; rintro e w1 ⟨rfl, hb1⟩; have q01 : w1.cell? ⟨w.heap.size + 1 + 1, 0, none⟩ = some (.int .i64 S) := (by first | exact cell_kept q00 hb1 | exact cell_after q00 hb1); have q11 : w1.cell? ⟨w.heap.size + 1 + 1, 1, none⟩ = some (.int .i64 M) := (by first | exact cell_kept q10 hb1 | exact cell_after q10 hb1); have fq1 : ∀ o, w1.frozen? ⟨w.heap.size + 1 + 1, o, none⟩ = false := fun o => (by first | exact frozen_kept (fq0 o) q00 hb1 | exact frozen_after (fq0 o) q00 hb1); have z01 : w1.cell? ⟨wr.heap.size, 0, none⟩ = some (.slice pa pm pc) := (by first | exact cell_kept z00 hb1 | exact cell_after z00 hb1); have HX1 : RowKit.Hid (BoxS w1 w.heap.size S M (.slice la m lc)) := Lib.hid (by first | exact HX0.out.below hb1 | exact HX0.out.after hb1); have HB1 : RowKit.Hid (Below w.heap.size w w1) := Lib.hid (by first | exact HB0.out.trans (hb1.mono HB0.out.size) | exact below_after HB0.out hb1); clear hb1)
          | (go_simp; go_at_call 77; refine (HP.out _).mono ?_; rintro e w2 ⟨rfl, hb2⟩; have q02 : w2.cell? ⟨w.heap.size + 1 + 1, 0, none⟩ = some (.int .i64 S) := (by first | exact cell_kept q01 hb2 | exact cell_after q01 hb2); have q12 : w2.cell? ⟨w.heap.size + 1 + 1, 1, none⟩ = some (.int .i64 M) := (by first | exact cell_kept q11 hb2 | exact cell_after q11 hb2); have fq2 : ∀ o, w2.frozen? ⟨w.heap.size + 1 + 1, o, none⟩ = false := fun o => (by first | exact frozen_kept (fq1 o) q01 hb2 | exact frozen_after (fq1 o) q01 hb2); have z02 : w2.cell? ⟨wr.heap.size, 0, none⟩ = some (.slice pa pm pc) := (by first | exact cell_kept z01 hb2 | exact cell_after z01 hb2); have HX2 : RowKit.Hid (BoxS w2 w.heap.size S M (.slice la m lc)) := Lib.hid (by first | exact HX1.out.below hb2 | exact HX1.out.after hb2); have HB2 : RowKit.Hid (Below w.heap.size w w2) := Lib.hid (by first | exact HB1.out.trans (hb2.mono HB1.out.size) | exact below_after HB1.out hb2); clear hb2))
      all_goals
        clear q00 q10 fq0 z00 q01 q11 fq1 z01
        go_wp2_with fail
        go_roundw
        case rel =>
          refine ⟨k + 1, by omega, by go_num, ?_, ?_⟩
          · rw [HS1.out, HM1.out]; exact BoxS.set HX2.out _ _
          · repeat refine Below.setCell ?_ (by show w.heap.size ≤ w.heap.size + 1 + 1; omega) _
            exact HB2.out
        case measure => simp [intOf]; omega
    · obtain rfl : k = K := by omega
      obtain ⟨q0, q1, fq, l2, -⟩ := hx
      generalize hSW : sumTo (fun i => weightV (st css i)) k = SW at *
      generalize hSM : sumTo (fun i => momV (st css i)) k = SM at *
      have HSW := Lib.hid hSW
      have HSM := Lib.hid hSM
      clear hbw hSW hSM
      go_wp2_with fail
      go_loopw [35] (fun t wr => ∃ i : Nat, i ≤ m ∧ t = .int .i64 i ∧ BoxS wr w.heap.size (SW + sumTo (befF ldw ls k) i) (SM + sumTo (befF ldm ls k) i) (.slice la m lc) ∧ Below w.heap.size w wr)
        (fun t _ => m - (intOf t).toNat)
      case atStart => exact ⟨0, Nat.zero_le _, rfl, by simpa [sumTo] using HX.out, HB.out⟩
      case round =>
        clear HX HB q0 q1 fq l2
        obtain ⟨i, hi, rfl, hx, hbw⟩ := hrel
        have HB := Lib.hid hbw
        have HX := Lib.hid hx
        have hS := befF_bd (f := ldw) (fun l hl => ldw_bd hl) (by have := HLN.out; omega) HOK.out k i (by have := HLN.out; omega)
        have hM := befF_bd (f := ldm) (fun l hl => ldm_bd hl) (by have := HLN.out; omega) HOK.out k i (by have := HLN.out; omega)
        by_cases hlt : i < m
        · obtain ⟨g, rfl, -, a0, a1, a2⟩ := (HL.out.below hbw).at i hlt
          have hO := ldOk_iff.1 (HOK.out i (by have := HLN.out; omega))
          have HS1 := Lib.hid (show sumTo (befF ldw ls k) (i + 1) = sumTo (befF ldw ls k) i + befF ldw ls k i from rfl)
          have HM1 := Lib.hid (show sumTo (befF ldm ls k) (i + 1) = sumTo (befF ldm ls k) i + befF ldm ls k i from rfl)
          have HYW := Lib.hid (befF_yes (f := ldw) (ls := ls) (k := k) (i := i))
          have HYM := Lib.hid (befF_yes (f := ldm) (ls := ls) (k := k) (i := i))
          have HNW := Lib.hid (befF_no (f := ldw) (ls := ls) (k := k) (i := i))
          have HNM := Lib.hid (befF_no (f := ldm) (ls := ls) (k := k) (i := i))
          have hw0 : ldw (ld ls i) = (ld ls i).2.1 := rfl
          have hm0 : ldm (ld ls i) = (ld ls i).2.1 * (ld ls i).2.2 := rfl
          rw [hw0] at HYW
          rw [hm0] at HYM
          generalize (ld ls i).1 = x at *
          generalize (ld ls i).2.1 = y at *
          generalize (ld ls i).2.2 = z at *
          generalize sumTo (befF ldw ls k) i = LW at *
          generalize sumTo (befF ldm ls k) i = LM at *
          obtain ⟨S, hSe⟩ : ∃ S, S = SW + LW := ⟨_, rfl⟩
          obtain ⟨M, hMe⟩ : ∃ M, M = SM + LM := ⟨_, rfl⟩
          have hSb : -1000000000 ≤ S ∧ S ≤ 1000000000 := by omega
          have hMb : -1000000000 ≤ M ∧ M ≤ 1000000000 := by omega
          rw [← hSe, ← hMe] at HX
          have hmul := mul_bd (x := y) (y := z) 10000 60 ⟨by omega, by omega⟩ ⟨by omega, by omega⟩
          have hC := fun W => loadBurden x y z W (by omega) (by omega)
          have hPl : ∀ W, Calls Try.prog 77 #[.agg #[.int .i64 S, .int .i64 M], .agg #[.int .i64 y, .int .i64 (y * z)]] W fun e w' => e = .returned (.agg #[.int .i64 (S + y), .int .i64 (M + y * z)]) ∧ Below W.heap.size W w' := fun W => burdenPlus S M y (y * z) W (by omega) (by omega) (by omega) (by omega)
          have hal : Below wr.heap.size wr (wr.alloc (.cells #[.int .i64 x, .int .i64 y, .int .i64 z] 75)) := (Below.refl _ _).alloc (Nat.le_refl _) _
          have HXW := Lib.hid (HX.out.below hal)
          have HBW := Lib.hid (below_al3 hbw (.cells #[.int .i64 x, .int .i64 y, .int .i64 z] 75))
          have z0 : (wr.alloc (.cells #[.int .i64 x, .int .i64 y, .int .i64 z] 75)).cell? ⟨wr.heap.size, 0, none⟩ = some (.int .i64 x) := by go_simp
          have z1 : (wr.alloc (.cells #[.int .i64 x, .int .i64 y, .int .i64 z] 75)).cell? ⟨wr.heap.size, 1, none⟩ = some (.int .i64 y) := by go_simp
          have z2 : (wr.alloc (.cells #[.int .i64 x, .int .i64 y, .int .i64 z] 75)).cell? ⟨wr.heap.size, 2, none⟩ = some (.int .i64 z) := by go_simp
          have HC := Lib.hid hC
          have HP := Lib.hid hPl
          have HSE := Lib.hid hSe
          have HME := Lib.hid hMe
          clear hC hPl hal hbw hx hS hM hO hw0 hm0 hSe hMe hSb hMb hmul
          by_cases hxk : x < (k : Int)
          · have HY1 := Lib.hid (HYW.out hxk)
            have HY2 := Lib.hid (HYM.out hxk)
            clear HYW HYM HNW HNM
            go_wp2_with fail
            generalize hW : wr.alloc (.cells #[.int .i64 x, .int .i64 y, .int .i64 z] 75) = W at *
            obtain ⟨q00, q10, fq0, -⟩ := HXW.out
            have z00 := z0
            have z10 := z1
            have z20 := z2
            have HX0 : RowKit.Hid (BoxS W w.heap.size S M (.slice (some ⟨g, 0, none⟩) m lc)) := Lib.hid HXW.out
            have HB0 : RowKit.Hid (Below w.heap.size w W) := Lib.hid HBW.out
            clear hW z0 z1 z2 a0 a1 a2 HXW HBW HB HX
            go_region_law
              (first
                | (go_simp; go_at_call 79; refine (HC.out _).mono ?_; rintro e w1 ⟨rfl, hb1⟩; have q01 : w1.cell? ⟨w.heap.size + 1 + 1, 0, none⟩ = some (.int .i64 S) := (by first | exact cell_kept q00 hb1 | exact cell_after q00 hb1); have q11 : w1.cell? ⟨w.heap.size + 1 + 1, 1, none⟩ = some (.int .i64 M) := (by first | exact cell_kept q10 hb1 | exact cell_after q10 hb1); have fq1 : ∀ o, w1.frozen? ⟨w.heap.size + 1 + 1, o, none⟩ = false := fun o => (by first | exact frozen_kept (fq0 o) q00 hb1 | exact frozen_after (fq0 o) q00 hb1); have z01 : w1.cell? ⟨wr.heap.size, 0, none⟩ = some (.int .i64 x) := (by first | exact cell_kept z00 hb1 | exact cell_after z00 hb1); have z11 : w1.cell? ⟨wr.heap.size, 1, none⟩ = some (.int .i64 y) := (by first | exact cell_kept z10 hb1 | exact cell_after z10 hb1); have z21 : w1.cell? ⟨wr.heap.size, 2, none⟩ = some (.int .i64 z) := (by first | exact cell_kept z20 hb1 | exact cell_after z20 hb1); have HX1 : RowKit.Hid (BoxS w1 w.heap.size S M (.slice (some ⟨g, 0, none⟩) m lc)) := Lib.hid (by first | exact HX0.out.below hb1 | exact HX0.out.after hb1); have HB1 : RowKit.Hid (Below w.heap.size w w1) := Lib.hid (by first | exact HB0.out.trans (hb1.mono HB0.out.size) | exact below_after HB0.out hb1); clear hb1)
                | (go_simp; go_at_call 77; refine (HP.out _).mono ?_; rintro e w2 ⟨rfl, hb2⟩; have q02 : w2.cell? ⟨w.heap.size + 1 + 1, 0, none⟩ = some (.int .i64 S) := (by first | exact cell_kept q01 hb2 | exact cell_after q01 hb2); have q12 : w2.cell? ⟨w.heap.size + 1 + 1, 1, none⟩ = some (.int .i64 M) := (by first | exact cell_kept q11 hb2 | exact cell_after q11 hb2); have fq2 : ∀ o, w2.frozen? ⟨w.heap.size + 1 + 1, o, none⟩ = false := fun o => (by first | exact frozen_kept (fq1 o) q01 hb2 | exact frozen_after (fq1 o) q01 hb2); have z02 : w2.cell? ⟨wr.heap.size, 0, none⟩ = some (.int .i64 x) := (by first | exact cell_kept z01 hb2 | exact cell_after z01 hb2); have z12 : w2.cell? ⟨wr.heap.size, 1, none⟩ = some (.int .i64 y) := (by first | exact cell_kept z11 hb2 | exact cell_after z11 hb2); have z22 : w2.cell? ⟨wr.heap.size, 2, none⟩ = some (.int .i64 z) := (by first | exact cell_kept z21 hb2 | exact cell_after z21 hb2); have HX2 : RowKit.Hid (BoxS w2 w.heap.size S M (.slice (some ⟨g, 0, none⟩) m lc)) := Lib.hid (by first | exact HX1.out.below hb2 | exact HX1.out.after hb2); have HB2 : RowKit.Hid (Below w.heap.size w w2) := Lib.hid (by first | exact HB1.out.trans (hb2.mono HB1.out.size) | exact below_after HB1.out hb2); clear hb2))
            all_goals
              clear q00 q10 fq0 z00 z10 z20 q01 q11 fq1 z01 z11 z21
              go_wp2_with fail
              go_roundw
              case rel =>
                refine ⟨i + 1, by omega, by go_num, ?_, ?_⟩
                · rw [HS1.out, HM1.out, HY1.out, HY2.out, ← Int.add_assoc, ← Int.add_assoc, ← HSE.out, ← HME.out]; exact BoxS.set HX2.out _ _
                · repeat refine Below.setCell ?_ (by show w.heap.size ≤ w.heap.size + 1 + 1; omega) _
                  exact HB2.out
              case measure => simp [intOf]; omega
          · have HY1 := Lib.hid (HNW.out hxk)
            have HY2 := Lib.hid (HNM.out hxk)
            clear HYW HYM HNW HNM
            go_wp2_with fail
            go_roundw
            case rel =>
              refine ⟨i + 1, by omega, by go_num, ?_, HBW.out⟩
              rw [HS1.out, HM1.out, HY1.out, HY2.out, Int.add_zero, Int.add_zero, ← HSE.out, ← HME.out]; exact HXW.out
            case measure => simp [intOf]; omega
        · obtain rfl : i = m := by omega
          obtain ⟨q0, q1, fq, -, r0, r1, fr⟩ := hx
          generalize hLW : sumTo (befF ldw ls k) i = LW at *
          generalize hLM : sumTo (befF ldm ls k) i = LM at *
          have HLW := Lib.hid hLW
          have HLM := Lib.hid hLM
          clear hbw hS hM hLW hLM
          go_wp2_with fail
          refine bodyPost_ret (v := .agg #[.int .i64 (SW + LW), .int .i64 (SM + LM)]) (by simp [results, Try.results63, go_sem, r0, r1]) rfl ⟨by rw [HSW.out, HSM.out, HLW.out, HLM.out], ?_⟩
          repeat refine Below.setCell ?_ (by show w.heap.size ≤ w.heap.size + 1; omega) _
          exact HB.out
end Go.Proofs.Ytiallkkleilgiaa
