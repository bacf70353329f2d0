/- Arches: the contracts of the program's functions on a row of joints that only read: first, last, growsRight, highestInner. -/
import Derived.Test.YtggkodhfhhjihaaDoorArchQ
import Derived.Test.YtggkodhfhhjihaaDoorArchC
namespace Go.Proofs.YtggkodhfhhjihaaDoor
set_option maxRecDepth 100000
open Go.ChangeShapes Go.WideShapes Go.ChangeAt Go.RowKit

set_option maxHeartbeats 1000000 in
theorem rowFirst (w : World) (B g cap n : Nat) (js : List Jt) (hr : JRowAt w B g cap js) (hn : js.length = n) (h0 : 0 < n) :
    Calls Tryd.prog 27 #[.slice (some ⟨g, 0, none⟩) n cap] w fun e w' => e = .returned (.agg #[.int .i64 (jt js 0).1.1, .int .i64 (jt js 0).1.2, .int .i64 (jt js 0).2.1, .int .i64 (jt js 0).2.2]) ∧ Below w.heap.size w w' := by
  obtain ⟨-, hg, hc, hm⟩ := hr.lt
  rw [hn] at hc
  unfold maxLen at hm
  obtain ⟨a0, a1, a2, a3⟩ := hr.cells 0 (by omega)
  rw [Nat.zero_mul] at a0 a1 a2 a3
  rw [Nat.zero_add] at a1 a2 a3
  generalize (jt js 0).1.1 = x at *
  generalize (jt js 0).1.2 = y at *
  generalize (jt js 0).2.1 = z at *
  generalize (jt js 0).2.2 = u at *
  clear hr hn
  go_enter Tryd.func27, Tryd.ntmps27
  go_wp2_with fail
  refine bodyPost_ret (v := .agg #[.int .i64 x, .int .i64 y, .int .i64 z, .int .i64 u]) (by simp [results, Tryd.results27, go_sem]) rfl ⟨rfl, ?_⟩
  repeat (first | exact Below.refl _ _ | refine Below.drew ?_ | refine Below.alloc ?_ (by simp <;> omega) _ | refine Below.setCell ?_ (by simp <;> omega) _)

set_option maxHeartbeats 1000000 in
theorem rowLast (w : World) (B g cap n : Nat) (js : List Jt) (hr : JRowAt w B g cap js) (hn : js.length = n) (h0 : 0 < n) :
    Calls Tryd.prog 26 #[.slice (some ⟨g, 0, none⟩) n cap] w fun e w' => e = .returned (.agg #[.int .i64 (jt js (n - 1)).1.1, .int .i64 (jt js (n - 1)).1.2, .int .i64 (jt js (n - 1)).2.1, .int .i64 (jt js (n - 1)).2.2]) ∧ Below w.heap.size w w' := by
  obtain ⟨-, hg, hc, hm⟩ := hr.lt
  rw [hn] at hc
  unfold maxLen at hm
  obtain ⟨m, hm1⟩ : ∃ m, m = n - 1 := ⟨_, rfl⟩
  rw [← hm1]
  obtain ⟨a0, a1, a2, a3⟩ := hr.cells m (by omega)
  generalize (jt js m).1.1 = x at *
  generalize (jt js m).1.2 = y at *
  generalize (jt js m).2.1 = z at *
  generalize (jt js m).2.2 = u at *
  have e1 : IntKind.i64.wrap ((n : Int) - 1) = (m : Int) := by rw [IntWalk.i64_in _ (by omega)]; omega
  have hm0 : (0 : Int) ≤ (m : Int) := Int.natCast_nonneg _
  have hmn : (m : Int) < (n : Int) := by omega
  clear hr hn hm1
  go_enter Tryd.func26, Tryd.ntmps26
  go_wp2_with fail
  refine bodyPost_ret (v := .agg #[.int .i64 x, .int .i64 y, .int .i64 z, .int .i64 u]) (by simp [results, Tryd.results26, go_sem]) rfl ⟨rfl, ?_⟩
  repeat (first | exact Below.refl _ _ | refine Below.drew ?_ | refine Below.alloc ?_ (by simp <;> omega) _ | refine Below.setCell ?_ (by simp <;> omega) _)

set_option maxHeartbeats 1000000 in
theorem rowGrows (w : World) (B g cap n : Nat) (js : List Jt) (hr : JRowAt w B g cap js) (hn : js.length = n) (h0 : 0 < n) (h8 : n ≤ 8) :
    Calls Tryd.prog 45 #[.slice (some ⟨g, 0, none⟩) n cap] w fun e w' => e = .returned (.bool (allV (n - 1) (growV js))) ∧ Below w.heap.size w w' := by
  obtain ⟨-, hg, hc, hm⟩ := hr.lt
  rw [hn] at hc
  unfold maxLen at hm
  have HR := Lib.hid hr
  have HN := Lib.hid hn
  obtain ⟨m, hm1⟩ : ∃ m, m = n - 1 := ⟨_, rfl⟩
  rw [← hm1]
  have HZ := Lib.hid (allFrom_zero m (growV js))
  have e0 : IntKind.i64.wrap ((n : Int) - 1) = (m : Int) := by rw [IntWalk.i64_in _ (by omega)]; omega
  clear hr hn
  go_enter Tryd.func45, Tryd.ntmps45
  go_wp2_with fail
  go_loopw [7] (fun t wr => ∃ k : Nat, k ≤ m ∧ t = .int .i64 k ∧ allFrom m k (growV js) = allFrom m 0 (growV js) ∧ Below w.heap.size w wr)
    (fun t _ => m - (intOf t).toNat)
  case atStart => exact ⟨0, Nat.zero_le _, rfl, rfl, Below.refl _ _⟩
  case round =>
    obtain ⟨k, hk, rfl, hall, hbw⟩ := hrel
    have HB := Lib.hid hbw
    have HA := Lib.hid hall
    clear hall
    by_cases hlt : k < m
    · have hlN := HN.out
      have hrw := JRowAt.below HR.out hbw
      obtain ⟨a0, a1, a2, a3⟩ := hrw.cells k (by omega)
      obtain ⟨c0, c1, c2, c3⟩ := hrw.cells (k + 1) (by omega)
      have hG : growV js k = decide ((jt js k).1.1 < (jt js (k + 1)).1.1) := rfl
      generalize (jt js k).1.1 = x at *
      generalize (jt js (k + 1)).1.1 = y at *
      clear a1 a2 a3 c1 c2 c3 hrw hbw hlN
      obtain ⟨q, hq⟩ : ∃ q : Nat, q = k + 1 := ⟨_, rfl⟩
      rw [← hq] at c0
      have e1 : IntKind.i64.wrap ((k : Int) + 1) = (q : Int) := by rw [IntWalk.i64_in _ (by omega)]; omega
      have hq0 : (0 : Int) ≤ (q : Int) := Int.natCast_nonneg _
      have hqn : (q : Int) < (n : Int) := by omega
      have hk0 : (0 : Int) ≤ (k : Int) := Int.natCast_nonneg _
      have hkn : (k : Int) < (n : Int) := by omega
      have HQ := Lib.hid hq
      have l1 := cell_block_lt a0
      have l2 := cell_block_lt c0
      clear hq
      by_cases hx : y ≤ x
      · have HG := Lib.hid (show growV js k = false by rw [hG]; exact decide_eq_false (by omega))
        have hd : decide (y ≤ x) = true := decide_eq_true hx
        clear hG hx
        go_wp2_with fail
        have hn1 := Since.nonempty wr
        have sa := fun (x : Since wr) => (x.cell g (k * 4) l1).trans a0
        have sc := fun (x : Since wr) => (x.cell g (q * 4) l2).trans c0
        refine wp_region_since (by kernel_rfl) (by kernel_rfl) ?_
        repeat (go_big_quiet_step (fail))
        refine wpQuiet_nil ?_
        rintro w2 ⟨⟨_, hb2⟩, rfl⟩
        go_wp2_with fail
        go_ret
        exact ⟨ret_bool (by rw [← HZ.out, ← HA.out, allFrom_no hlt HG.out]), HB.out.trans (hb2.mono HB.out.size)⟩
      · have HG := Lib.hid (show growV js k = true by rw [hG]; exact decide_eq_true (by omega))
        have hd : decide (y ≤ x) = false := decide_eq_false hx
        clear hG hx
        go_wp2_with fail
        have hn1 := Since.nonempty wr
        have sa := fun (x : Since wr) => (x.cell g (k * 4) l1).trans a0
        have sc := fun (x : Since wr) => (x.cell g (q * 4) l2).trans c0
        refine wp_region_since (by kernel_rfl) (by kernel_rfl) ?_
        repeat (go_big_quiet_step (fail))
        refine wpQuiet_nil ?_
        rintro w2 ⟨⟨_, hb2⟩, rfl⟩
        have HB2 := Lib.hid (HB.out.trans (hb2.mono HB.out.size))
        have HQ2 := Lib.hid HQ.out
        clear sa sc hb2
        go_wp2_with fail
        go_roundw
        case rel => exact ⟨k + 1, by omega, by first | go_num | (rw [← HQ.out]), by rw [← HA.out]; exact allFrom_yes hlt HG.out, HB2.out⟩
        case measure => have := HQ.out; simp [intOf]; omega
    · obtain rfl : k = m := by omega
      clear hbw
      go_wp2_with fail
      go_ret
      exact ⟨ret_bool (by rw [← HZ.out, ← HA.out, allFrom_end]), HB.out⟩

set_option maxHeartbeats 1000000 in
theorem rowTop (w : World) (B g cap n : Nat) (js : List Jt) (hr : JRowAt w B g cap js) (hn : js.length = n) (h0 : 0 < n) (h8 : n ≤ 8) :
    Calls Tryd.prog 28 #[.slice (some ⟨g, 0, none⟩) n cap] w fun e w' => e = .returned (.int .i64 (topY js n)) ∧ Below w.heap.size w w' := by
  obtain ⟨-, hg, hc, hm⟩ := hr.lt
  rw [hn] at hc
  unfold maxLen at hm
  have HR := Lib.hid hr
  have HN := Lib.hid hn
  have hF := fun W h => rowFirst W B g cap n js h hn h0
  have hT : topY js 0 = (jt js 0).1.2 := rfl
  have HF := Lib.hid hF
  generalize (jt js 0).1.1 = x0 at *
  generalize (jt js 0).1.2 = y0 at *
  generalize (jt js 0).2.1 = z0 at *
  generalize (jt js 0).2.2 = u0 at *
  have HT := Lib.hid hT
  have hfd0 : ∀ W : World, (Instr.field 60 (.agg #[.int .i64 x0, .int .i64 y0, .int .i64 z0, .int .i64 u0]) 0).run Tryd.prog W = .ok (.agg #[.int .i64 x0, .int .i64 y0]) W := fun _ => by kernel_rfl
  have hfd1 : ∀ W : World, (Instr.field 58 (.agg #[.int .i64 x0, .int .i64 y0]) 1).run Tryd.prog W = .ok (.int .i64 y0) W := fun _ => by kernel_rfl
  clear hr hn hF hT
  go_enter Tryd.func28, Tryd.ntmps28
  go_wp2_with fail
  refine (HF.out _ HR.out).mono ?_
  rintro e w1 ⟨rfl, hb1⟩
  have HB1 := Lib.hid hb1
  clear hb1
  go_wp2_with fail
  clear hfd0 hfd1
  go_loopw [3, 12] (fun q t wr => ∃ k : Nat, k ≤ n ∧ t = .int .i64 k ∧ q = .int .i64 (topY js k) ∧ Below w.heap.size w wr)
    (fun _ t _ => n - (intOf t).toNat)
  case atStart => exact ⟨0, Nat.zero_le _, rfl, by rw [HT.out], HB1.out⟩
  case round =>
    obtain ⟨k, hk, rfl, rfl, hbw⟩ := hrel
    have HB := Lib.hid hbw
    by_cases hlt : k < n
    · have hlN := HN.out
      obtain ⟨a0, a1, a2, a3⟩ := (JRowAt.below HR.out hbw).cells k (by omega)
      have hG : topY js (k + 1) = max (topY js k) (jt js k).1.2 := rfl
      generalize (jt js k).1.1 = x at *
      generalize (jt js k).1.2 = y at *
      generalize (jt js k).2.1 = z at *
      generalize (jt js k).2.2 = u at *
      generalize topY js k = T at *
      have HG := Lib.hid hG
      clear hbw hlN hG
      by_cases hx : T < y
      · have HG2 := Lib.hid (show topY js (k + 1) = y by rw [HG.out]; omega)
        go_wp2_with fail
        go_roundw
        case rel => exact ⟨k + 1, by omega, by go_num, by rw [HG2.out], by repeat (first | exact HB.out | refine Below.alloc ?_ (by have := HB.out.size; simp <;> omega) _ | refine Below.setCell ?_ (by have := HB.out.size; simp <;> omega) _)⟩
        case measure => simp [intOf]; omega
      · have HG2 := Lib.hid (show topY js (k + 1) = T by rw [HG.out]; omega)
        go_wp2_with fail
        go_roundw
        case rel => exact ⟨k + 1, by omega, by go_num, by rw [HG2.out], by repeat (first | exact HB.out | refine Below.alloc ?_ (by have := HB.out.size; simp <;> omega) _ | refine Below.setCell ?_ (by have := HB.out.size; simp <;> omega) _)⟩
        case measure => simp [intOf]; omega
    · obtain rfl : k = n := by omega
      clear hbw
      go_wp2_with fail
      go_ret
      exact ⟨rfl, HB.out⟩
end Go.Proofs.YtggkodhfhhjihaaDoor
