/- The program's methods on loads: a weight in range, a joint that is there, burdens and their sum, whether loads may lie on the stones of an arch. -/
import Derived.Test.YtiallkkleilgiaaLoadL
import Derived.Test.YtiallkkleilgiaaArchI
import Derived.Test.YtiallkkleilgiaaWeightI
namespace Go.Proofs.Ytiallkkleilgiaa
set_option maxRecDepth 100000
open Go.ChangeShapes Go.WideShapes Go.ChangeAt Go.RowKit

theorem isLoadWeight (n : Int) (w : World) :
    Calls Try.prog 74 #[.int .i64 n] w fun e w' => e = .returned (.bool (ldW n)) ∧ w = w' := by
  by_cases h : 0 ≤ n
  · go_enter Try.func74, Try.ntmps74
    go_wp2
    go_ret
    exact ⟨ret_bool (by unfold ldW; simp; omega), rfl⟩
  · go_enter Try.func74, Try.ntmps74
    go_wp2
    go_ret
    exact ⟨ret_bool (by unfold ldW; simp; omega), rfl⟩

theorem hasJoint (a : Option Addr) (n cap : Nat) (k : Int) (w : World) :
    Calls Try.prog 76 #[.slice a n cap, .int .i64 k] w fun e w' => e = .returned (.bool (decide (0 ≤ k ∧ k < (n : Int)))) ∧ w = w' := by
  by_cases h : 0 ≤ k
  · go_enter Try.func76, Try.ntmps76
    go_wp2
    go_ret
    exact ⟨ret_bool (by simp; omega), rfl⟩
  · go_enter Try.func76, Try.ntmps76
    go_wp2
    go_ret
    exact ⟨ret_bool (by simp; omega), rfl⟩

theorem burdenPlus (a b c d : Int) (w : World) (ha : -1000000000 ≤ a ∧ a ≤ 1000000000) (hb : -1000000000 ≤ b ∧ b ≤ 1000000000) (hc : -1000000000 ≤ c ∧ c ≤ 1000000000) (hd : -1000000000 ≤ d ∧ d ≤ 1000000000) :
    Calls Try.prog 77 #[.agg #[.int .i64 a, .int .i64 b], .agg #[.int .i64 c, .int .i64 d]] w fun e w' => e = .returned (.agg #[.int .i64 (a + c), .int .i64 (b + d)]) ∧ Below w.heap.size w w' := by
  go_enter Try.func77, Try.ntmps77
  go_wp2_with fail
  refine bodyPost_ret (v := .agg #[.int .i64 (a + c), .int .i64 (b + d)]) (by simp [results, Try.results77, go_sem]) rfl ⟨rfl, ?_⟩
  repeat (first | exact Below.refl _ _ | refine Below.alloc ?_ (by simp <;> omega) _ | refine Below.setCell ?_ (by simp <;> omega) _)

theorem loadBurden (s x y : Int) (w : World) (hx : 0 ≤ x ∧ x ≤ 10000) (hy : -60 ≤ y ∧ y ≤ 60) :
    Calls Try.prog 79 #[.agg #[.int .i64 s, .int .i64 x, .int .i64 y]] w fun e w' => e = .returned (.agg #[.int .i64 x, .int .i64 (x * y)]) ∧ Below w.heap.size w w' := by
  have hm := mul_bd (x := x) (y := y) 10000 60 ⟨by omega, by omega⟩ hy
  have hwr : IntKind.i64.wrap (x * y) = x * y := IntWalk.i64_in _ (by omega)
  go_enter Try.func79, Try.ntmps79
  go_wp2_with fail
  refine bodyPost_ret (v := .agg #[.int .i64 x, .int .i64 (x * y)]) (by simp [results, Try.results79, go_sem]) rfl ⟨rfl, ?_⟩
  repeat (first | exact Below.refl _ _ | refine Below.alloc ?_ (by simp <;> omega) _ | refine Below.setCell ?_ (by simp <;> omega) _)

set_option maxHeartbeats 2000000 in
theorem stoneBurden (w : World) (B : Nat) (a : Option Addr) (n cap : Nat) (cs : List (Int × Int)) (hr : Row w B (.slice a n cap) cs) :
    Calls Try.prog 78 #[.agg #[.slice a n cap]] w fun e w' => e = .returned (.agg #[.int .i64 (weightV cs), .int .i64 (momV cs)]) ∧ Below w.heap.size w w' := by
  have hb0 := ((Below.refl w.heap.size w).alloc (Nat.le_refl _) (.cells #[.slice a n cap] 99)).alloc (by simp) (.cells #[.int .i64 0, .int .i64 0] 111)
  have HB0 := Lib.hid hb0
  have HR0 := Lib.hid (hr.below hb0)
  have hW := fun w' h => implWeightOf w' B (.slice a n cap) cs h
  have hM := fun w' h => implMomentOf w' B (.slice a n cap) cs h
  generalize weightV cs = V at *
  generalize momV cs = M at *
  have HW := Lib.hid hW
  have HM := Lib.hid hM
  clear hr hb0 hW hM
  have c0 : ((w.alloc (.cells #[.slice a n cap] 99)).alloc (.cells #[.int .i64 0, .int .i64 0] 111)).cell? ⟨w.heap.size, 0, none⟩ = some (.slice a n cap) := by go_simp
  have r00 : ((w.alloc (.cells #[.slice a n cap] 99)).alloc (.cells #[.int .i64 0, .int .i64 0] 111)).cell? ⟨w.heap.size + 1, 0, none⟩ = some (.int .i64 0) := by go_simp
  have r10 : ((w.alloc (.cells #[.slice a n cap] 99)).alloc (.cells #[.int .i64 0, .int .i64 0] 111)).cell? ⟨w.heap.size + 1, 1, none⟩ = some (.int .i64 0) := by go_simp
  have fr0 : ∀ o, ((w.alloc (.cells #[.slice a n cap] 99)).alloc (.cells #[.int .i64 0, .int .i64 0] 111)).frozen? ⟨w.heap.size + 1, o, none⟩ = false := fun o => by go_simp
  go_enter Try.func78, Try.ntmps78
  go_wp2_with fail
  go_region_held3 (fun w' => w'.cell? ⟨w.heap.size, 0, none⟩ = some (.slice a n cap))
    (first | go_keep | trivial)
    (first
      | (go_at_call 84; refine (HW.out _ (by first | exact HR0.out | exact (show Row _ B _ cs from HR0.out))).mono ?_; rintro e w1 ⟨rfl, hb1⟩; have c1 : w1.cell? ⟨w.heap.size, 0, none⟩ = some (.slice a n cap) := (by first | exact cell_kept c0 hb1 | exact cell_after c0 hb1); have r01 : w1.cell? ⟨w.heap.size + 1, 0, none⟩ = some (.int .i64 0) := (by first | exact cell_kept r00 hb1 | exact cell_after r00 hb1); have r11 : w1.cell? ⟨w.heap.size + 1, 1, none⟩ = some (.int .i64 0) := (by first | exact cell_kept r10 hb1 | exact cell_after r10 hb1); have fr1 : ∀ o, w1.frozen? ⟨w.heap.size + 1, o, none⟩ = false := fun o => (by first | exact frozen_kept (fr0 o) r00 hb1 | exact frozen_after (fr0 o) r00 hb1); have HR1 : RowKit.Hid (Row w1 B (.slice a n cap) cs) := Lib.hid (by first | exact HR0.out.below hb1 | exact HR0.out.after hb1); have HB1 : RowKit.Hid (Below w.heap.size w w1) := Lib.hid (by first | exact HB0.out.trans (hb1.mono HB0.out.size) | exact below_after HB0.out hb1); clear hb1)
      | (go_at_call 85; refine (HM.out _ (by first | exact HR0.out | exact (show Row _ B _ cs from HR0.out))).mono ?_; rintro e w2 ⟨rfl, hb2⟩; have c2 : w2.cell? ⟨w.heap.size, 0, none⟩ = some (.slice a n cap) := (by first | exact cell_kept c0 hb2 | exact cell_after c0 hb2); have r02 : w2.cell? ⟨w.heap.size + 1, 0, none⟩ = some (.int .i64 0) := (by first | exact cell_kept r00 hb2 | exact cell_after r00 hb2); have r12 : w2.cell? ⟨w.heap.size + 1, 1, none⟩ = some (.int .i64 0) := (by first | exact cell_kept r10 hb2 | exact cell_after r10 hb2); have fr2 : ∀ o, w2.frozen? ⟨w.heap.size + 1, o, none⟩ = false := fun o => (by first | exact frozen_kept (fr0 o) r00 hb2 | exact frozen_after (fr0 o) r00 hb2); have HR2 : RowKit.Hid (Row w2 B (.slice a n cap) cs) := Lib.hid (by first | exact HR0.out.below hb2 | exact HR0.out.after hb2); have HB2 : RowKit.Hid (Below w.heap.size w w2) := Lib.hid (by first | exact HB0.out.trans (hb2.mono HB0.out.size) | exact below_after HB0.out hb2); clear hb2)
      | (go_at_call 85; refine (HM.out _ (by first | exact HR1.out | exact (show Row _ B _ cs from HR1.out))).mono ?_; rintro e w3 ⟨rfl, hb3⟩; have c3 : w3.cell? ⟨w.heap.size, 0, none⟩ = some (.slice a n cap) := (by first | exact cell_kept c1 hb3 | exact cell_after c1 hb3); have r03 : w3.cell? ⟨w.heap.size + 1, 0, none⟩ = some (.int .i64 0) := (by first | exact cell_kept r01 hb3 | exact cell_after r01 hb3); have r13 : w3.cell? ⟨w.heap.size + 1, 1, none⟩ = some (.int .i64 0) := (by first | exact cell_kept r11 hb3 | exact cell_after r11 hb3); have fr3 : ∀ o, w3.frozen? ⟨w.heap.size + 1, o, none⟩ = false := fun o => (by first | exact frozen_kept (fr1 o) r01 hb3 | exact frozen_after (fr1 o) r01 hb3); have HR3 : RowKit.Hid (Row w3 B (.slice a n cap) cs) := Lib.hid (by first | exact HR1.out.below hb3 | exact HR1.out.after hb3); have HB3 : RowKit.Hid (Below w.heap.size w w3) := Lib.hid (by first | exact HB1.out.trans (hb3.mono HB1.out.size) | exact below_after HB1.out hb3); clear hb3)
      | (go_at_call 84; refine (HW.out _ (by first | exact HR2.out | exact (show Row _ B _ cs from HR2.out))).mono ?_; rintro e w3 ⟨rfl, hb3⟩; have c3 : w3.cell? ⟨w.heap.size, 0, none⟩ = some (.slice a n cap) := (by first | exact cell_kept c2 hb3 | exact cell_after c2 hb3); have r03 : w3.cell? ⟨w.heap.size + 1, 0, none⟩ = some (.int .i64 0) := (by first | exact cell_kept r02 hb3 | exact cell_after r02 hb3); have r13 : w3.cell? ⟨w.heap.size + 1, 1, none⟩ = some (.int .i64 0) := (by first | exact cell_kept r12 hb3 | exact cell_after r12 hb3); have fr3 : ∀ o, w3.frozen? ⟨w.heap.size + 1, o, none⟩ = false := fun o => (by first | exact frozen_kept (fr2 o) r02 hb3 | exact frozen_after (fr2 o) r02 hb3); have HR3 : RowKit.Hid (Row w3 B (.slice a n cap) cs) := Lib.hid (by first | exact HR2.out.below hb3 | exact HR2.out.after hb3); have HB3 : RowKit.Hid (Below w.heap.size w w3) := Lib.hid (by first | exact HB2.out.trans (hb3.mono HB2.out.size) | exact below_after HB2.out hb3); clear hb3))
  all_goals
    go_wp2_with fail
    refine bodyPost_ret (v := .agg #[.int .i64 V, .int .i64 M]) (by simp [results, Try.results78, go_sem, r03, r13]) rfl ⟨rfl, ?_⟩
    repeat refine Below.setCell ?_ (by simp <;> omega) _
    exact HB3.out

set_option maxHeartbeats 4000000 in
theorem bears (w : World) (B : Nat) (ja : Option Addr) (jn jc : Nat) (sa : Option Addr) (s sc : Nat) (a : Option Addr) (m cap n : Nat) (ls : List Ld) (hs : s + 1 = n) (h : Lds w B a m cap ls) :
    Calls Try.prog 62 #[.agg #[.slice ja jn jc, .slice sa s sc], .slice a m cap] w fun e w' => e = .returned (.bool (decide (m ≤ 6) && ldAll n ls)) ∧ Below w.heap.size w w' := by
  have hb0 := (Below.refl w.heap.size w).alloc (Nat.le_refl _) (.cells #[.slice ja jn jc, .slice sa s sc] 81)
  have hs0 : (w.alloc (.cells #[.slice ja jn jc, .slice sa s sc] 81)).cell? ⟨w.heap.size, 1, none⟩ = some (.slice sa s sc) := by go_simp
  obtain ⟨hmc, hcm⟩ := h.cap
  unfold maxLen at hcm
  have hlen := h.2
  have HL := Lib.hid h
  have HB0 := Lib.hid hb0
  have HS0 := Lib.hid hs0
  have HLEN := Lib.hid hlen
  have HZ := Lib.hid (allFrom_zero m (ldAt n ls))
  clear h hb0 hs0 hlen
  by_cases h6 : 6 < m
  · go_enter Try.func62, Try.ntmps62
    go_wp2_with fail
    go_ret
    exact ⟨ret_bool (by rw [decide_eq_false (by omega)]; rfl), HB0.out⟩
  go_enter Try.func62, Try.ntmps62
  go_wp2_with fail
  go_loopw [12] (fun t wr => ∃ k : Nat, k ≤ m ∧ t = .int .i64 k ∧ allFrom m k (ldAt n ls) = allFrom m 0 (ldAt n ls) ∧ Below w.heap.size w wr ∧ wr.cell? ⟨w.heap.size, 1, none⟩ = some (.slice sa s sc))
    (fun t _ => m - (intOf t).toNat)
  case atStart => exact ⟨0, Nat.zero_le _, rfl, rfl, HB0.out, HS0.out⟩
  case round =>
    obtain ⟨k, hk, rfl, hall, hbw, hsw⟩ := hrel
    have HB := Lib.hid hbw
    have HA := Lib.hid hall
    clear hall
    by_cases hlt : k < m
    · obtain ⟨g, rfl, -, a0, a1, a2⟩ := (HL.out.below hbw).at k hlt
      have HP := Lib.hid (show ldAt n ls k = (ldS n (ld ls k).1 && (ldW (ld ls k).2.1 && inP (ld ls k).2.2)) from rfl)
      generalize (ld ls k).1 = x at *
      generalize (ld ls k).2.1 = y at *
      generalize (ld ls k).2.2 = z at *
      have hz := HB.out.size
      have hwl : w.heap.size < wr.heap.size := cell_block_lt hsw
      have hwn := Nat.ne_of_lt hwl
      have HF := Lib.hid (show ldAt n ls k = false → (decide (m ≤ 6) && ldAll n ls) = false from fun h => by
        have hh : ldAll n ls = false := by unfold ldAll; rw [HLEN.out, ← HZ.out, ← HA.out]; exact allFrom_no hlt h
        rw [hh, Bool.and_false])
      clear hbw
      by_cases hx0 : x < 0
      · have HV := Lib.hid (HF.out (by rw [HP.out, ldS_no.2 (by omega)]; rfl))
        go_wp2_with fail
        go_ret
        refine ⟨ret_bool HV.out.symm, ?_⟩
        repeat (first | exact HB.out | exact below_al3 HB.out _ | refine Below.setCell ?_ (by first | exact hz | (simp <;> omega)) _)
      by_cases hxs : (s : Int) ≤ x
      · have HV := Lib.hid (HF.out (by rw [HP.out, ldS_no.2 (by omega)]; rfl))
        go_wp2_with fail
        go_ret
        refine ⟨ret_bool HV.out.symm, ?_⟩
        repeat (first | exact HB.out | exact below_al3 HB.out _ | refine Below.setCell ?_ (by first | exact hz | (simp <;> omega)) _)
      have hS : ldS n x = true := ldS_iff.2 (by omega)
      cases hy : ldW y
      · have HV := Lib.hid (HF.out (by rw [HP.out, hy]; simp))
        clear hS
        go_wp2_with fail
        refine (isLoadWeight _ _).mono ?_
        rintro e w1 ⟨rfl, rfl⟩
        rw [hy]
        go_wp2_with fail
        go_ret
        refine ⟨ret_bool HV.out.symm, ?_⟩
        repeat (first | exact HB.out | exact below_al3 HB.out _ | refine Below.setCell ?_ (by first | exact hz | (simp <;> omega)) _)
      cases hp : inP z
      · have HV := Lib.hid (HF.out (by rw [HP.out, hp]; simp))
        clear hS
        go_wp2_with fail
        refine (isLoadWeight _ _).mono ?_
        rintro e w1 ⟨rfl, rfl⟩
        rw [hy]
        go_wp2_with fail
        refine (isPlace _ _).mono ?_
        rintro e w1 ⟨rfl, rfl⟩
        rw [hp]
        go_wp2_with fail
        go_ret
        refine ⟨ret_bool HV.out.symm, ?_⟩
        repeat (first | exact HB.out | exact below_al3 HB.out _ | refine Below.setCell ?_ (by first | exact hz | (simp <;> omega)) _)
      · have HT := Lib.hid (show ldAt n ls k = true by rw [HP.out, hS, hy, hp]; rfl)
        clear hS
        go_wp2_with fail
        refine (isLoadWeight _ _).mono ?_
        rintro e w1 ⟨rfl, rfl⟩
        rw [hy]
        go_wp2_with fail
        refine (isPlace _ _).mono ?_
        rintro e w1 ⟨rfl, rfl⟩
        rw [hp]
        go_wp2_with fail
        go_roundw
        case rel =>
          refine ⟨k + 1, by omega, by go_num, by rw [← HA.out]; exact allFrom_yes hlt HT.out, ?_, ?_⟩
          · repeat (first | exact HB.out | exact below_al3 HB.out _ | refine Below.setCell ?_ (by first | exact hz | (simp <;> omega)) _)
          · have := cell_block_lt hsw; go_simp
        case measure => simp [intOf]; omega
    · obtain rfl : k = m := by omega
      clear hbw
      go_wp2_with fail
      go_ret
      refine ⟨ret_bool ?_, HB.out⟩
      have : ldAll n ls = true := by unfold ldAll; rw [HLEN.out, ← HZ.out, ← HA.out, allFrom_end]
      rw [this, decide_eq_true (by omega)]
      rfl
end Go.Proofs.Ytiallkkleilgiaa
