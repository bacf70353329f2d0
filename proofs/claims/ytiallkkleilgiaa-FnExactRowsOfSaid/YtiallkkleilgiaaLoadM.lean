/- The model's LoadsOk. -/
import Derived.Test.YtiallkkleilgiaaLoadL
import Derived.Test.YtiallkkleilgiaaArchE
namespace Go.Proofs.Ytiallkkleilgiaa
set_option maxRecDepth 100000
open Go.ChangeShapes Go.WideShapes Go.ChangeAt Go.RowKit

theorem l01InG (n lo hi : Int) (w : World) :
    Calls Try.prog 33 #[.int .i64 n, .int .i64 lo, .int .i64 hi] w fun e w' => e = .returned (.bool (decide (lo ≤ n ∧ n ≤ hi))) ∧ w = w' := by
  by_cases h : n < lo
  · go_enter Try.func33, Try.ntmps33
    go_wp2
    go_ret
    exact ⟨ret_bool (by simp <;> omega), rfl⟩
  · go_enter Try.func33, Try.ntmps33
    go_wp2
    go_ret
    exact ⟨ret_bool (by simp <;> omega), rfl⟩
theorem l01InS (n : Nat) (x : Int) (w : World) :
    Calls Try.prog 33 #[.int .i64 x, .int .i64 0, .int .i64 ((n : Int) - 2)] w fun e w' => e = .returned (.bool (ldS n x)) ∧ w = w' := l01InG x 0 ((n : Int) - 2) w
theorem l01InW (x : Int) (w : World) :
    Calls Try.prog 33 #[.int .i64 x, .int .i64 0, .int .i64 10000] w fun e w' => e = .returned (.bool (ldW x)) ∧ w = w' := l01InG x 0 10000 w

set_option maxHeartbeats 4000000 in
theorem specLoadsOk (w : World) (B B2 g cap n : Nat) (la : Option Addr) (m lc : Nat) (js : List Jt) (ls : List Ld) (hr : JRowAt w B g cap js) (hn : js.length = n) (h8 : n ≤ 1048576) (hl : Lds w B2 la m lc ls) :
    Calls Try.prog 40 #[.agg #[.slice (some ⟨g, 0, none⟩) n cap], .slice la m lc] w fun e w' => e = .returned (.bool (loadsV js ls)) ∧ Below w.heap.size w w' := by
  have hb0 := (Below.refl w.heap.size w).alloc (Nat.le_refl _) (.cells #[.slice (some ⟨g, 0, none⟩) n cap] 44)
  have hs0 : (w.alloc (.cells #[.slice (some ⟨g, 0, none⟩) n cap] 44)).cell? ⟨w.heap.size, 0, none⟩ = some (.slice (some ⟨g, 0, none⟩) n cap) := by go_simp
  obtain ⟨hmc, hcm⟩ := hl.cap
  unfold maxLen at hcm
  have HR := Lib.hid hr
  have HL := Lib.hid hl
  have HLEN := Lib.hid hl.2
  have HB0 := Lib.hid hb0
  have HS0 := Lib.hid hs0
  have HN := Lib.hid hn
  have HZ := Lib.hid (allFrom_zero m (ldAt n ls))
  have e2 : IntKind.i64.wrap ((n : Int) - 2) = (n : Int) - 2 := IntWalk.i64_in _ (by omega)
  clear hr hl hb0 hs0 hn
  go_enter Try.func40, Try.ntmps40
  go_wp2_with fail
  go_loopw [5] (fun t wr => ∃ k : Nat, k ≤ m ∧ t = .int .i64 k ∧ allFrom m k (ldAt n ls) = allFrom m 0 (ldAt n ls) ∧ Below w.heap.size w wr ∧ wr.cell? ⟨w.heap.size, 0, none⟩ = some (.slice (some ⟨g, 0, none⟩) n cap))
    (fun t _ => m - (intOf t).toNat)
  case atStart => exact ⟨0, Nat.zero_le _, rfl, rfl, HB0.out, HS0.out⟩
  case round =>
    obtain ⟨k, hk, rfl, hall, hbw, hsw⟩ := hrel
    have HB := Lib.hid hbw
    have HA := Lib.hid hall
    clear hall
    by_cases hlt : k < m
    · obtain ⟨g, rfl, -, a0, a1, a2⟩ := (HL.out.below hbw).at k hlt
      have HP := Lib.hid (show ldAt n ls k = (ldS n (ld ls k).1 && (ldW (ld ls k).2.1 && inP (ld ls k).2.2)) from rfl)
      generalize (ld ls k).1 = x at *
      generalize (ld ls k).2.1 = y at *
      generalize (ld ls k).2.2 = z at *
      have hz := HB.out.size
      have hwl : w.heap.size < wr.heap.size := cell_block_lt hsw
      have hwn := Nat.ne_of_lt hwl
      have HF := Lib.hid (show ldAt n ls k = false → loadsV js ls = false from fun h => by
        have hh : ldAll n ls = false := by unfold ldAll; rw [HLEN.out, ← HZ.out, ← HA.out]; exact allFrom_no hlt h
        unfold loadsV
        rw [HN.out, hh, Bool.and_false, Bool.and_false])
      clear hbw
      cases hx : ldS n x
      · have HV := Lib.hid (HF.out (by rw [HP.out, hx]; rfl))
        go_wp2_with fail
        refine (l01InS _ _ _).mono ?_
        rintro e w1 ⟨rfl, rfl⟩
        rw [hx]
        go_wp2_with fail
        go_ret
        refine ⟨ret_bool HV.out.symm, ?_⟩
        repeat (first | exact HB.out | exact below_al2 HB.out _ | refine Below.setCell ?_ (by first | exact hz | (simp <;> omega)) _)
      cases hy : ldW y
      · have HV := Lib.hid (HF.out (by rw [HP.out, hy]; simp))
        go_wp2_with fail
        refine (l01InS _ _ _).mono ?_
        rintro e w1 ⟨rfl, rfl⟩
        rw [hx]
        go_wp2_with fail
        refine (l01InW _ _).mono ?_
        rintro e w1 ⟨rfl, rfl⟩
        rw [hy]
        go_wp2_with fail
        go_ret
        refine ⟨ret_bool HV.out.symm, ?_⟩
        repeat (first | exact HB.out | exact below_al2 HB.out _ | refine Below.setCell ?_ (by first | exact hz | (simp <;> omega)) _)
      cases hp : inP z
      · have HV := Lib.hid (HF.out (by rw [HP.out, hp]; simp))
        go_wp2_with fail
        refine (l01InS _ _ _).mono ?_
        rintro e w1 ⟨rfl, rfl⟩
        rw [hx]
        go_wp2_with fail
        refine (l01InW _ _).mono ?_
        rintro e w1 ⟨rfl, rfl⟩
        rw [hy]
        go_wp2_with fail
        refine (l01In60 _ _).mono ?_
        rintro e w1 ⟨rfl, rfl⟩
        rw [hp]
        go_wp2_with fail
        go_ret
        refine ⟨ret_bool HV.out.symm, ?_⟩
        repeat (first | exact HB.out | exact below_al2 HB.out _ | refine Below.setCell ?_ (by first | exact hz | (simp <;> omega)) _)
      · have HT := Lib.hid (show ldAt n ls k = true by rw [HP.out, hx, hy, hp]; rfl)
        go_wp2_with fail
        refine (l01InS _ _ _).mono ?_
        rintro e w1 ⟨rfl, rfl⟩
        rw [hx]
        go_wp2_with fail
        refine (l01InW _ _).mono ?_
        rintro e w1 ⟨rfl, rfl⟩
        rw [hy]
        go_wp2_with fail
        refine (l01In60 _ _).mono ?_
        rintro e w1 ⟨rfl, rfl⟩
        rw [hp]
        go_wp2_with fail
        go_roundw
        case rel =>
          refine ⟨k + 1, by omega, by go_num, by rw [← HA.out]; exact allFrom_yes hlt HT.out, ?_, ?_⟩
          · repeat (first | exact HB.out | exact below_al2 HB.out _ | refine Below.setCell ?_ (by first | exact hz | (simp <;> omega)) _)
          · have := cell_block_lt hsw; go_simp
        case measure => simp [intOf]; omega
    · obtain rfl : k = m := by omega
      have HR1 := Lib.hid (JRowAt.below HR.out hbw)
      have HALL := Lib.hid (show ldAll n ls = true by unfold ldAll; rw [HLEN.out, ← HZ.out, ← HA.out, allFrom_end])
      have HV := Lib.hid (show loadsV js ls = (archV js && decide (k ≤ 6)) by unfold loadsV; rw [HN.out, HALL.out, Bool.and_true, HLEN.out])
      clear hbw
      go_wp2_with fail
      refine (specArchOk _ _ _ _ _ js HR1.out HN.out h8).mono ?_
      rintro e w1 ⟨rfl, hb1⟩
      have HB1 := Lib.hid (HB.out.trans (hb1.mono HB.out.size))
      clear hb1
      cases h : archV js
      all_goals
        go_wp2_with fail
        go_ret
        exact ⟨ret_bool (by rw [HV.out, h]; first | rfl | (simp; done) | (simp; omega)), HB1.out⟩
end Go.Proofs.Ytiallkkleilgiaa
