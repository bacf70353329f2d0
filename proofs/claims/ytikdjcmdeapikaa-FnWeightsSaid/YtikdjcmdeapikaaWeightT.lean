/- The contracts of TotalWeight, the program's and the model's. -/
import Derived.Test.YtikdjcmdeapikaaWeightI
import Derived.Test.YtikdjcmdeapikaaWeightS
import Derived.Test.YtikdjcmdeapikaaStonesL
namespace Go.Proofs.Ytikdjcmdeapikaa
open Go.ChangeShapes Go.WideShapes Go.ChangeAt Go.RowKit

/-- What TotalWeight answers. -/
def totV (css : List (List (Int × Int))) : Int := if css.length ≤ 20 then sumTo (fun i => weightV (st css i)) css.length else 0
theorem totV_bd (css : List (List (Int × Int))) (k : Nat) (hk : k ≤ 20) : -2592000 ≤ sumTo (fun i => weightV (st css i)) k ∧ sumTo (fun i => weightV (st css i)) k ≤ 2592000 := by
  have h1 := sumTo_bd (fun i => weightV (st css i)) 129600 k fun i _ => weightV_bd _
  omega

set_option maxHeartbeats 1000000 in
theorem implTotalWeight (w : World) (B : Nat) (v : Value) (css : List (List (Int × Int))) (hr : SRow w B v css) :
    Calls Try.prog 20 #[v] w fun e w' => e = .returned (.int .i64 (totV css)) ∧ Below w.heap.size w w' := by
  obtain ⟨a, cap, rfl, hc, hm, hg⟩ := hr.slice
  generalize hN : css.length = n at *
  unfold maxLen at hm
  have HR := Lib.hid hr
  have HN := Lib.hid hN
  have HG := Lib.hid hg
  clear hr hN hg
  by_cases hbig : 20 < n
  · have HZ := Lib.hid (show totV css = 0 by unfold totV; rw [HN.out, if_neg (by omega)])
    go_enter Try.func20, Try.ntmps20
    go_wp2_with fail
    go_ret
    exact ⟨ret_i64 HZ.out.symm, Below.refl _ _⟩
  go_enter Try.func20, Try.ntmps20
  go_wp2_with fail
  go_loopw [3, 11] (fun m t wr => ∃ k : Nat, k ≤ n ∧ t = .int .i64 k ∧ m = .int .i64 (sumTo (fun i => weightV (st css i)) k) ∧ Below w.heap.size w wr)
    (fun _ t _ => n - (intOf t).toNat)
  case atStart => exact ⟨0, Nat.zero_le _, rfl, rfl, Below.refl _ _⟩
  case round =>
    obtain ⟨k, hk, rfl, rfl, hbw⟩ := hrel
    have HB := Lib.hid hbw
    by_cases hlt : k < n
    · obtain ⟨g, rfl, -⟩ := HG.out (by omega)
      obtain ⟨pa, pm, pc, c1, r1⟩ := (HR.out.below hbw).at HN.out k hlt
      have R1 := Lib.hid r1
      have hS := totV_bd css k (by omega)
      have hW := weightV_bd (st css k)
      have HX := Lib.hid (show sumTo (fun i => weightV (st css i)) (k + 1) = sumTo (fun i => weightV (st css i)) k + weightV (st css k) from rfl)
      have HC := Lib.hid fun w' h => implWeightOf w' B (.slice pa pm pc) (st css k) h
      generalize sumTo (fun i => weightV (st css i)) k = S at *
      generalize weightV (st css k) = V at *
      clear hbw r1
      go_wp2_with fail
      have HBA := Lib.hid (HB.out.alloc HB.out.size (.cells #[.slice pa pm pc] 26))
      refine (HC.out _ (R1.out.below ((Below.refl _ _).alloc (Nat.le_refl _) _))).mono ?_
      rintro e w1 ⟨rfl, hb1⟩
      have HB1 := Lib.hid (HBA.out.trans (hb1.mono HBA.out.size))
      clear c1 hb1
      go_wp2_with fail
      go_roundw
      case rel => exact ⟨k + 1, by omega, by go_num, by rw [HX.out], HB1.out⟩
      case measure => simp [intOf]; omega
    · obtain rfl : k = n := by omega
      clear hbw
      go_wp2_with fail
      go_ret
      exact ⟨ret_i64 (by unfold totV; rw [HN.out, if_pos (by omega)]), HB.out⟩

set_option maxHeartbeats 1000000 in
theorem specTotalWeight (w : World) (B : Nat) (v : Value) (css : List (List (Int × Int))) (hr : SRow w B v css) :
    Calls Try.prog 30 #[v] w fun e w' => e = .returned (.int .i64 (totV css)) ∧ Below w.heap.size w w' := by
  obtain ⟨a, cap, rfl, hc, hm, hg⟩ := hr.slice
  generalize hN : css.length = n at *
  unfold maxLen at hm
  have HR := Lib.hid hr
  have HN := Lib.hid hN
  have HG := Lib.hid hg
  clear hr hN hg
  by_cases hbig : 20 < n
  · have HZ := Lib.hid (show totV css = 0 by unfold totV; rw [HN.out, if_neg (by omega)])
    go_enter Try.func30, Try.ntmps30
    go_wp2_with fail
    refine wp_loop_rounds 1 ?_
    rw [rounds_succ]
    go_wp2_with fail
    go_ret
    exact ⟨ret_i64 HZ.out.symm, Below.refl _ _⟩
  go_enter Try.func30, Try.ntmps30
  go_wp2_with fail
  go_loopw [3, 4] (fun m t wr => ∃ k : Nat, k ≤ n ∧ t = .int .i64 k ∧ m = .int .i64 (sumTo (fun i => weightV (st css i)) k) ∧ Below w.heap.size w wr)
    (fun _ t _ => n - (intOf t).toNat)
  case atStart => exact ⟨0, Nat.zero_le _, rfl, rfl, Below.refl _ _⟩
  case round =>
    obtain ⟨k, hk, rfl, rfl, hbw⟩ := hrel
    have HB := Lib.hid hbw
    by_cases hlt : k < n
    · obtain ⟨g, rfl, -⟩ := HG.out (by omega)
      obtain ⟨pa, pm, pc, c1, r1⟩ := (HR.out.below hbw).at HN.out k hlt
      have R1 := Lib.hid r1
      have hS := totV_bd css k (by omega)
      have hW := weightV_bd (st css k)
      have HX := Lib.hid (show sumTo (fun i => weightV (st css i)) (k + 1) = sumTo (fun i => weightV (st css i)) k + weightV (st css k) from rfl)
      have HC := Lib.hid fun w' h => specWeightOf w' B (.slice pa pm pc) (st css k) h
      generalize sumTo (fun i => weightV (st css i)) k = S at *
      generalize weightV (st css k) = V at *
      clear hbw r1
      go_wp2_with fail
      refine (HC.out _ R1.out).mono ?_
      rintro e w1 ⟨rfl, hb1⟩
      have HB1 := Lib.hid (HB.out.trans (hb1.mono HB.out.size))
      clear c1 hb1
      go_wp2_with fail
      go_roundw
      case rel => exact ⟨k + 1, by omega, by go_num, by rw [HX.out], HB1.out⟩
      case measure => simp [intOf]; omega
    · obtain rfl : k = n := by omega
      clear hbw
      go_wp2_with fail
      go_ret
      exact ⟨ret_i64 (by unfold totV; rw [HN.out, if_pos (by omega)]), HB.out⟩
end Go.Proofs.Ytikdjcmdeapikaa
