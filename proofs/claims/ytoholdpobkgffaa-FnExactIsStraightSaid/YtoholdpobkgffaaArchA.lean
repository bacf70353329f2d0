/- Arches: the contracts of the program's functions on a row of joints that only read: first, last, growsRight, highestInner. -/
import Derived.Test.YtoholdpobkgffaaArchQ
import Derived.Test.YtoholdpobkgffaaArchC
namespace Go.Proofs.Ytoholdpobkgffaa
set_option maxRecDepth 100000
open Go.ChangeShapes Go.WideShapes Go.ChangeAt Go.RowKit

set_option maxHeartbeats 1000000 in
theorem rowGrows (w : World) (B g cap n : Nat) (js : List Jt) (hr : JRowAt w B g cap js) (hn : js.length = n) (h0 : 0 < n) (h8 : n ≤ 8) :
    Calls Try.prog 20 #[.slice (some ⟨g, 0, none⟩) n cap] w fun e w' => e = .returned (.bool (allV (n - 1) (growV js))) ∧ Below w.heap.size w w' := by
  obtain ⟨-, hg, hc, hm⟩ := hr.lt
  rw [hn] at hc
  unfold maxLen at hm
  have HR := Lib.hid hr
  have HN := Lib.hid hn
  obtain ⟨m, hm1⟩ : ∃ m, m = n - 1 := ⟨_, rfl⟩
  rw [← hm1]
  have HZ := Lib.hid (allFrom_zero m (growV js))
  have e0 : IntKind.i64.wrap ((n : Int) - 1) = (m : Int) := by rw [IntWalk.i64_in _ (by omega)]; omega
  clear hr hn
  go_enter Try.func20, Try.ntmps20
  go_wp2_with fail
  go_loopw [7] (fun t wr => ∃ k : Nat, k ≤ m ∧ t = .int .i64 k ∧ allFrom m k (growV js) = allFrom m 0 (growV js) ∧ Below w.heap.size w wr)
    (fun t _ => m - (intOf t).toNat)
  case atStart => exact ⟨0, Nat.zero_le _, rfl, rfl, Below.refl _ _⟩
  case round =>
    obtain ⟨k, hk, rfl, hall, hbw⟩ := hrel
    have HB := Lib.hid hbw
    have HA := Lib.hid hall
    clear hall
    by_cases hlt : k < m
    · have hlN := HN.out
      have hrw := JRowAt.below HR.out hbw
      obtain ⟨a0, a1, a2, a3⟩ := hrw.cells k (by omega)
      obtain ⟨c0, c1, c2, c3⟩ := hrw.cells (k + 1) (by omega)
      have hG : growV js k = decide ((jt js k).1.1 < (jt js (k + 1)).1.1) := rfl
      generalize (jt js k).1.1 = x at *
      generalize (jt js (k + 1)).1.1 = y at *
      clear a1 a2 a3 c1 c2 c3 hrw hbw hlN
      obtain ⟨q, hq⟩ : ∃ q : Nat, q = k + 1 := ⟨_, rfl⟩
      rw [← hq] at c0
      have e1 : IntKind.i64.wrap ((k : Int) + 1) = (q : Int) := by rw [IntWalk.i64_in _ (by omega)]; omega
      have hq0 : (0 : Int) ≤ (q : Int) := Int.natCast_nonneg _
      have hqn : (q : Int) < (n : Int) := by omega
      have hk0 : (0 : Int) ≤ (k : Int) := Int.natCast_nonneg _
      have hkn : (k : Int) < (n : Int) := by omega
      have HQ := Lib.hid hq
      have l1 := cell_block_lt a0
      have l2 := cell_block_lt c0
      clear hq
      by_cases hx : y ≤ x
      · have HG := Lib.hid (show growV js k = false by rw [hG]; exact decide_eq_false (by omega))
        have hd : decide (y ≤ x) = true := decide_eq_true hx
        clear hG hx
        go_wp2_with fail
        have hn1 := Since.nonempty wr
        have sa := fun (x : Since wr) => (x.cell g (k * 4) l1).trans a0
        have sc := fun (x : Since wr) => (x.cell g (q * 4) l2).trans c0
        refine wp_region_since (by kernel_rfl) (by kernel_rfl) ?_
        repeat (go_big_quiet_step (fail))
        refine wpQuiet_nil ?_
        rintro w2 ⟨⟨_, hb2⟩, rfl⟩
        go_wp2_with fail
        go_ret
        exact ⟨ret_bool (by rw [← HZ.out, ← HA.out, allFrom_no hlt HG.out]), HB.out.trans (hb2.mono HB.out.size)⟩
      · have HG := Lib.hid (show growV js k = true by rw [hG]; exact decide_eq_true (by omega))
        have hd : decide (y ≤ x) = false := decide_eq_false hx
        clear hG hx
        go_wp2_with fail
        have hn1 := Since.nonempty wr
        have sa := fun (x : Since wr) => (x.cell g (k * 4) l1).trans a0
        have sc := fun (x : Since wr) => (x.cell g (q * 4) l2).trans c0
        refine wp_region_since (by kernel_rfl) (by kernel_rfl) ?_
        repeat (go_big_quiet_step (fail))
        refine wpQuiet_nil ?_
        rintro w2 ⟨⟨_, hb2⟩, rfl⟩
        have HB2 := Lib.hid (HB.out.trans (hb2.mono HB.out.size))
        have HQ2 := Lib.hid HQ.out
        clear sa sc hb2
        go_wp2_with fail
        go_roundw
        case rel => exact ⟨k + 1, by omega, by first | go_num | (rw [← HQ.out]), by rw [← HA.out]; exact allFrom_yes hlt HG.out, HB2.out⟩
        case measure => have := HQ.out; simp [intOf]; omega
    · obtain rfl : k = m := by omega
      clear hbw
      go_wp2_with fail
      go_ret
      exact ⟨ret_bool (by rw [← HZ.out, ← HA.out, allFrom_end]), HB.out⟩

end Go.Proofs.Ytoholdpobkgffaa
