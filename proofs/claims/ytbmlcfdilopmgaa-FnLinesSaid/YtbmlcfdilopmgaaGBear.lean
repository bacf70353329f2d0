/- The program's methods on loads: a weight in range, a joint that is there, burdens and their sum, whether loads may lie on the stones of an arch; The program's burdenLeft and loadArch; The program's loadArch: an arch with its stones and its loads; The program's LoadsOk, WeightLeft, MomentLeft, TotalOf. -/
import Derived.Test.YtbmlcfdilopmgaaGLoad
import Derived.Test.YtbmlcfdilopmgaaGBuilt
import Derived.Test.YtbmlcfdilopmgaaGWeight
import Derived.Deep.RegionLaw

/- The program's methods on loads: a weight in range, a joint that is there, burdens and their sum, whether loads may lie on the stones of an arch. -/
namespace Go.Proofs.Ytbmlcfdilopmgaa
set_option maxRecDepth 100000
open Go.ChangeShapes Go.WideShapes Go.ChangeAt Go.RowKit

theorem isLoadWeight (n : Int) (w : World) :
    Calls Try.prog 111 #[.int .i64 n] w fun e w' => e = .returned (.bool (ldW n)) ∧ w = w' := by
  by_cases h : 0 ≤ n
  · go_enter Try.func111, Try.ntmps111
    go_wp2
    go_ret
    exact ⟨ret_bool (by unfold ldW; simp; omega), rfl⟩
  · go_enter Try.func111, Try.ntmps111
    go_wp2
    go_ret
    exact ⟨ret_bool (by unfold ldW; simp; omega), rfl⟩

theorem hasJoint (a : Option Addr) (n cap : Nat) (k : Int) (w : World) :
    Calls Try.prog 101 #[.slice a n cap, .int .i64 k] w fun e w' => e = .returned (.bool (decide (0 ≤ k ∧ k < (n : Int)))) ∧ w = w' := by
  by_cases h : 0 ≤ k
  · go_enter Try.func101, Try.ntmps101
    go_wp2
    go_ret
    exact ⟨ret_bool (by simp; omega), rfl⟩
  · go_enter Try.func101, Try.ntmps101
    go_wp2
    go_ret
    exact ⟨ret_bool (by simp; omega), rfl⟩

theorem burdenPlus (a b c d : Int) (w : World) (ha : -1000000000 ≤ a ∧ a ≤ 1000000000) (hb : -1000000000 ≤ b ∧ b ≤ 1000000000) (hc : -1000000000 ≤ c ∧ c ≤ 1000000000) (hd : -1000000000 ≤ d ∧ d ≤ 1000000000) :
    Calls Try.prog 106 #[.agg #[.int .i64 a, .int .i64 b], .agg #[.int .i64 c, .int .i64 d]] w fun e w' => e = .returned (.agg #[.int .i64 (a + c), .int .i64 (b + d)]) ∧ Below w.heap.size w w' := by
  go_enter Try.func106, Try.ntmps106
  go_wp2_with fail
  refine bodyPost_ret (v := .agg #[.int .i64 (a + c), .int .i64 (b + d)]) (by simp [results, Try.results106, go_sem]) rfl ⟨rfl, ?_⟩
  repeat (first | exact Below.refl _ _ | refine Below.alloc ?_ (by simp <;> omega) _ | refine Below.setCell ?_ (by simp <;> omega) _)

theorem loadBurden (s x y : Int) (w : World) (hx : 0 ≤ x ∧ x ≤ 10000) (hy : -60 ≤ y ∧ y ≤ 60) :
    Calls Try.prog 108 #[.agg #[.int .i64 s, .int .i64 x, .int .i64 y]] w fun e w' => e = .returned (.agg #[.int .i64 x, .int .i64 (x * y)]) ∧ Below w.heap.size w w' := by
  have hm := mul_bd (x := x) (y := y) 10000 60 ⟨by omega, by omega⟩ hy
  have hwr : IntKind.i64.wrap (x * y) = x * y := IntWalk.i64_in _ (by omega)
  go_enter Try.func108, Try.ntmps108
  go_wp2_with fail
  refine bodyPost_ret (v := .agg #[.int .i64 x, .int .i64 (x * y)]) (by simp [results, Try.results108, go_sem]) rfl ⟨rfl, ?_⟩
  repeat (first | exact Below.refl _ _ | refine Below.alloc ?_ (by simp <;> omega) _ | refine Below.setCell ?_ (by simp <;> omega) _)

set_option maxHeartbeats 2000000 in
theorem stoneBurden (w : World) (B : Nat) (a : Option Addr) (n cap : Nat) (cs : List (Int × Int)) (hr : Row w B (.slice a n cap) cs) :
    Calls Try.prog 107 #[.agg #[.slice a n cap]] w fun e w' => e = .returned (.agg #[.int .i64 (weightV cs), .int .i64 (momV cs)]) ∧ Below w.heap.size w w' := by
  have hb0 := ((Below.refl w.heap.size w).alloc (Nat.le_refl _) (.cells #[.slice a n cap] 129)).alloc (by simp) (.cells #[.int .i64 0, .int .i64 0] 165)
  have HB0 := Lib.hid hb0
  have HR0 := Lib.hid (hr.below hb0)
  have hW := fun w' h => implWeightOf w' B (.slice a n cap) cs h
  have hM := fun w' h => implMomentOf w' B (.slice a n cap) cs h
  generalize weightV cs = V at *
  generalize momV cs = M at *
  have HW := Lib.hid hW
  have HM := Lib.hid hM
  clear hr hb0 hW hM
  have c0 : ((w.alloc (.cells #[.slice a n cap] 129)).alloc (.cells #[.int .i64 0, .int .i64 0] 165)).cell? ⟨w.heap.size, 0, none⟩ = some (.slice a n cap) := by go_simp
  have r00 : ((w.alloc (.cells #[.slice a n cap] 129)).alloc (.cells #[.int .i64 0, .int .i64 0] 165)).cell? ⟨w.heap.size + 1, 0, none⟩ = some (.int .i64 0) := by go_simp
  have r10 : ((w.alloc (.cells #[.slice a n cap] 129)).alloc (.cells #[.int .i64 0, .int .i64 0] 165)).cell? ⟨w.heap.size + 1, 1, none⟩ = some (.int .i64 0) := by go_simp
  have fr0 : ∀ o, ((w.alloc (.cells #[.slice a n cap] 129)).alloc (.cells #[.int .i64 0, .int .i64 0] 165)).frozen? ⟨w.heap.size + 1, o, none⟩ = false := fun o => by go_simp
  go_enter Try.func107, Try.ntmps107
  go_wp2_with fail
  go_region_held3 (fun w' => w'.cell? ⟨w.heap.size, 0, none⟩ = some (.slice a n cap))
    (first | go_keep | trivial)
    (first
      | (go_at_call 113; refine (HW.out _ (by first | exact HR0.out | exact (show Row _ B _ cs from HR0.out))).mono ?_; rintro e w1 ⟨rfl, hb1⟩; have c1 : w1.cell? ⟨w.heap.size, 0, none⟩ = some (.slice a n cap) := (by first | exact cell_kept c0 hb1 | exact cell_after c0 hb1); have r01 : w1.cell? ⟨w.heap.size + 1, 0, none⟩ = some (.int .i64 0) := (by first | exact cell_kept r00 hb1 | exact cell_after r00 hb1); have r11 : w1.cell? ⟨w.heap.size + 1, 1, none⟩ = some (.int .i64 0) := (by first | exact cell_kept r10 hb1 | exact cell_after r10 hb1); have fr1 : ∀ o, w1.frozen? ⟨w.heap.size + 1, o, none⟩ = false := fun o => (by first | exact frozen_kept (fr0 o) r00 hb1 | exact frozen_after (fr0 o) r00 hb1); have HR1 : RowKit.Hid (Row w1 B (.slice a n cap) cs) := Lib.hid (by first | exact HR0.out.below hb1 | exact HR0.out.after hb1); have HB1 : RowKit.Hid (Below w.heap.size w w1) := Lib.hid (by first | exact HB0.out.trans (hb1.mono HB0.out.size) | exact below_after HB0.out hb1); clear hb1)
      | (go_at_call 114; refine (HM.out _ (by first | exact HR0.out | exact (show Row _ B _ cs from HR0.out))).mono ?_; rintro e w2 ⟨rfl, hb2⟩; have c2 : w2.cell? ⟨w.heap.size, 0, none⟩ = some (.slice a n cap) := (by first | exact cell_kept c0 hb2 | exact cell_after c0 hb2); have r02 : w2.cell? ⟨w.heap.size + 1, 0, none⟩ = some (.int .i64 0) := (by first | exact cell_kept r00 hb2 | exact cell_after r00 hb2); have r12 : w2.cell? ⟨w.heap.size + 1, 1, none⟩ = some (.int .i64 0) := (by first | exact cell_kept r10 hb2 | exact cell_after r10 hb2); have fr2 : ∀ o, w2.frozen? ⟨w.heap.size + 1, o, none⟩ = false := fun o => (by first | exact frozen_kept (fr0 o) r00 hb2 | exact frozen_after (fr0 o) r00 hb2); have HR2 : RowKit.Hid (Row w2 B (.slice a n cap) cs) := Lib.hid (by first | exact HR0.out.below hb2 | exact HR0.out.after hb2); have HB2 : RowKit.Hid (Below w.heap.size w w2) := Lib.hid (by first | exact HB0.out.trans (hb2.mono HB0.out.size) | exact below_after HB0.out hb2); clear hb2)
      | (go_at_call 114; refine (HM.out _ (by first | exact HR1.out | exact (show Row _ B _ cs from HR1.out))).mono ?_; rintro e w3 ⟨rfl, hb3⟩; have c3 : w3.cell? ⟨w.heap.size, 0, none⟩ = some (.slice a n cap) := (by first | exact cell_kept c1 hb3 | exact cell_after c1 hb3); have r03 : w3.cell? ⟨w.heap.size + 1, 0, none⟩ = some (.int .i64 0) := (by first | exact cell_kept r01 hb3 | exact cell_after r01 hb3); have r13 : w3.cell? ⟨w.heap.size + 1, 1, none⟩ = some (.int .i64 0) := (by first | exact cell_kept r11 hb3 | exact cell_after r11 hb3); have fr3 : ∀ o, w3.frozen? ⟨w.heap.size + 1, o, none⟩ = false := fun o => (by first | exact frozen_kept (fr1 o) r01 hb3 | exact frozen_after (fr1 o) r01 hb3); have HR3 : RowKit.Hid (Row w3 B (.slice a n cap) cs) := Lib.hid (by first | exact HR1.out.below hb3 | exact HR1.out.after hb3); have HB3 : RowKit.Hid (Below w.heap.size w w3) := Lib.hid (by first | exact HB1.out.trans (hb3.mono HB1.out.size) | exact below_after HB1.out hb3); clear hb3)
      | (go_at_call 113; refine (HW.out _ (by first | exact HR2.out | exact (show Row _ B _ cs from HR2.out))).mono ?_; rintro e w3 ⟨rfl, hb3⟩; have c3 : w3.cell? ⟨w.heap.size, 0, none⟩ = some (.slice a n cap) := (by first | exact cell_kept c2 hb3 | exact cell_after c2 hb3); have r03 : w3.cell? ⟨w.heap.size + 1, 0, none⟩ = some (.int .i64 0) := (by first | exact cell_kept r02 hb3 | exact cell_after r02 hb3); have r13 : w3.cell? ⟨w.heap.size + 1, 1, none⟩ = some (.int .i64 0) := (by first | exact cell_kept r12 hb3 | exact cell_after r12 hb3); have fr3 : ∀ o, w3.frozen? ⟨w.heap.size + 1, o, none⟩ = false := fun o => (by first | exact frozen_kept (fr2 o) r02 hb3 | exact frozen_after (fr2 o) r02 hb3); have HR3 : RowKit.Hid (Row w3 B (.slice a n cap) cs) := Lib.hid (by first | exact HR2.out.below hb3 | exact HR2.out.after hb3); have HB3 : RowKit.Hid (Below w.heap.size w w3) := Lib.hid (by first | exact HB2.out.trans (hb3.mono HB2.out.size) | exact below_after HB2.out hb3); clear hb3))
  all_goals
    go_wp2_with fail
    refine bodyPost_ret (v := .agg #[.int .i64 V, .int .i64 M]) (by simp [results, Try.results107, go_sem, r03, r13]) rfl ⟨rfl, ?_⟩
    repeat refine Below.setCell ?_ (by simp <;> omega) _
    exact HB3.out

set_option maxHeartbeats 4000000 in
theorem bears (w : World) (B : Nat) (ja : Option Addr) (jn jc : Nat) (sa : Option Addr) (s sc : Nat) (a : Option Addr) (m cap n : Nat) (ls : List Ld) (hs : s + 1 = n) (h : Lds w B a m cap ls) :
    Calls Try.prog 104 #[.agg #[.slice ja jn jc, .slice sa s sc], .slice a m cap] w fun e w' => e = .returned (.bool (decide (m ≤ 6) && ldAll n ls)) ∧ Below w.heap.size w w' := by
  have hb0 := (Below.refl w.heap.size w).alloc (Nat.le_refl _) (.cells #[.slice ja jn jc, .slice sa s sc] 157)
  have hs0 : (w.alloc (.cells #[.slice ja jn jc, .slice sa s sc] 157)).cell? ⟨w.heap.size, 1, none⟩ = some (.slice sa s sc) := by go_simp
  obtain ⟨hmc, hcm⟩ := h.cap
  unfold maxLen at hcm
  have hlen := h.2
  have HL := Lib.hid h
  have HB0 := Lib.hid hb0
  have HS0 := Lib.hid hs0
  have HLEN := Lib.hid hlen
  have HZ := Lib.hid (allFrom_zero m (ldAt n ls))
  clear h hb0 hs0 hlen
  by_cases h6 : 6 < m
  · go_enter Try.func104, Try.ntmps104
    go_wp2_with fail
    go_ret
    exact ⟨ret_bool (by rw [decide_eq_false (by omega)]; rfl), HB0.out⟩
  go_enter Try.func104, Try.ntmps104
  go_wp2_with fail
  go_loopw [12] (fun t wr => ∃ k : Nat, k ≤ m ∧ t = .int .i64 k ∧ allFrom m k (ldAt n ls) = allFrom m 0 (ldAt n ls) ∧ Below w.heap.size w wr ∧ wr.cell? ⟨w.heap.size, 1, none⟩ = some (.slice sa s sc))
    (fun t _ => m - (intOf t).toNat)
  case atStart => exact ⟨0, Nat.zero_le _, rfl, rfl, HB0.out, HS0.out⟩
  case round =>
    obtain ⟨k, hk, rfl, hall, hbw, hsw⟩ := hrel
    have HB := Lib.hid hbw
    have HA := Lib.hid hall
    clear hall
    by_cases hlt : k < m
    · obtain ⟨g, rfl, -, a0, a1, a2⟩ := (HL.out.below hbw).at k hlt
      have HP := Lib.hid (show ldAt n ls k = (ldS n (ld ls k).1 && (ldW (ld ls k).2.1 && inP (ld ls k).2.2)) from rfl)
      generalize (ld ls k).1 = x at *
      generalize (ld ls k).2.1 = y at *
      generalize (ld ls k).2.2 = z at *
      have hz := HB.out.size
      have hwl : w.heap.size < wr.heap.size := cell_block_lt hsw
      have hwn := Nat.ne_of_lt hwl
      have HF := Lib.hid (show ldAt n ls k = false → (decide (m ≤ 6) && ldAll n ls) = false from fun h => by
        have hh : ldAll n ls = false := by unfold ldAll; rw [HLEN.out, ← HZ.out, ← HA.out]; exact allFrom_no hlt h
        rw [hh, Bool.and_false])
      clear hbw
      by_cases hx0 : x < 0
      · have HV := Lib.hid (HF.out (by rw [HP.out, ldS_no.2 (by omega)]; rfl))
        go_wp2_with fail
        go_ret
        refine ⟨ret_bool HV.out.symm, ?_⟩
        repeat (first | exact HB.out | exact below_al3 HB.out _ | refine Below.setCell ?_ (by first | exact hz | (simp <;> omega)) _)
      by_cases hxs : (s : Int) ≤ x
      · have HV := Lib.hid (HF.out (by rw [HP.out, ldS_no.2 (by omega)]; rfl))
        go_wp2_with fail
        go_ret
        refine ⟨ret_bool HV.out.symm, ?_⟩
        repeat (first | exact HB.out | exact below_al3 HB.out _ | refine Below.setCell ?_ (by first | exact hz | (simp <;> omega)) _)
      have hS : ldS n x = true := ldS_iff.2 (by omega)
      cases hy : ldW y
      · have HV := Lib.hid (HF.out (by rw [HP.out, hy]; simp))
        clear hS
        go_wp2_with fail
        refine (isLoadWeight _ _).mono ?_
        rintro e w1 ⟨rfl, rfl⟩
        rw [hy]
        go_wp2_with fail
        go_ret
        refine ⟨ret_bool HV.out.symm, ?_⟩
        repeat (first | exact HB.out | exact below_al3 HB.out _ | refine Below.setCell ?_ (by first | exact hz | (simp <;> omega)) _)
      cases hp : inP z
      · have HV := Lib.hid (HF.out (by rw [HP.out, hp]; simp))
        clear hS
        go_wp2_with fail
        refine (isLoadWeight _ _).mono ?_
        rintro e w1 ⟨rfl, rfl⟩
        rw [hy]
        go_wp2_with fail
        refine (isPlace _ _).mono ?_
        rintro e w1 ⟨rfl, rfl⟩
        rw [hp]
        go_wp2_with fail
        go_ret
        refine ⟨ret_bool HV.out.symm, ?_⟩
        repeat (first | exact HB.out | exact below_al3 HB.out _ | refine Below.setCell ?_ (by first | exact hz | (simp <;> omega)) _)
      · have HT := Lib.hid (show ldAt n ls k = true by rw [HP.out, hS, hy, hp]; rfl)
        clear hS
        go_wp2_with fail
        refine (isLoadWeight _ _).mono ?_
        rintro e w1 ⟨rfl, rfl⟩
        rw [hy]
        go_wp2_with fail
        refine (isPlace _ _).mono ?_
        rintro e w1 ⟨rfl, rfl⟩
        rw [hp]
        go_wp2_with fail
        go_roundw
        case rel =>
          refine ⟨k + 1, by omega, by go_num, by rw [← HA.out]; exact allFrom_yes hlt HT.out, ?_, ?_⟩
          · repeat (first | exact HB.out | exact below_al3 HB.out _ | refine Below.setCell ?_ (by first | exact hz | (simp <;> omega)) _)
          · have := cell_block_lt hsw; go_simp
        case measure => simp [intOf]; omega
    · obtain rfl : k = m := by omega
      clear hbw
      go_wp2_with fail
      go_ret
      refine ⟨ret_bool ?_, HB.out⟩
      have : ldAll n ls = true := by unfold ldAll; rw [HLEN.out, ← HZ.out, ← HA.out, allFrom_end]
      rw [this, decide_eq_true (by omega)]
      rfl
end Go.Proofs.Ytbmlcfdilopmgaa

/- The program's burdenLeft and loadArch. -/
namespace Go.Proofs.Ytbmlcfdilopmgaa
set_option maxRecDepth 100000
open Go.ChangeShapes Go.WideShapes Go.ChangeAt Go.RowKit

theorem burdenNo (w : World) (ja sa la : Option Addr) (n jc s sc m lc : Nat) (k : Int) (hk : ¬ (0 ≤ k ∧ k < (n : Int))) :
    Calls Try.prog 102 #[.agg #[.slice ja n jc, .slice sa s sc, .slice la m lc], .int .i64 k] w fun e w' => e = .returned (.agg #[.int .i64 0, .int .i64 0]) ∧ Below w.heap.size w w' := by
  have HD := Lib.hid (show decide (0 ≤ k ∧ k < (n : Int)) = false from decide_eq_false hk)
  clear hk
  go_enter Try.func102, Try.ntmps102
  go_wp2_with fail
  refine (hasJoint _ n _ k _).mono ?_
  rintro e w1 ⟨rfl, rfl⟩
  rw [HD.out]
  go_wp2_with fail
  refine bodyPost_ret (v := .agg #[.int .i64 0, .int .i64 0]) (by simp [results, Try.results102, go_sem]) rfl ⟨rfl, ?_⟩
  repeat (first | exact Below.refl _ _ | refine Below.alloc ?_ (by simp <;> omega) _ | refine Below.setCell ?_ (by simp <;> omega) _)

/-- The boxes of burdenLeft: its sum, its loads, its result. -/
def BoxS (w : World) (H : Nat) (S M : Int) (v : Value) : Prop :=
  w.cell? ⟨H + 1 + 1, 0, none⟩ = some (.int .i64 S) ∧ w.cell? ⟨H + 1 + 1, 1, none⟩ = some (.int .i64 M) ∧ (∀ o, w.frozen? ⟨H + 1 + 1, o, none⟩ = false) ∧ w.cell? ⟨H, 2, none⟩ = some v ∧
  w.cell? ⟨H + 1, 0, none⟩ = some (.int .i64 0) ∧ w.cell? ⟨H + 1, 1, none⟩ = some (.int .i64 0) ∧ ∀ o, w.frozen? ⟨H + 1, o, none⟩ = false
theorem BoxS.below {w w' : World} {H : Nat} {S M : Int} {v : Value} (h : BoxS w H S M v) (hb : Below w.heap.size w w') : BoxS w' H S M v :=
  ⟨cell_kept h.1 hb, cell_kept h.2.1 hb, fun o => frozen_kept (h.2.2.1 o) h.1 hb, cell_kept h.2.2.2.1 hb, cell_kept h.2.2.2.2.1 hb, cell_kept h.2.2.2.2.2.1 hb, fun o => frozen_kept (h.2.2.2.2.2.2 o) h.2.2.2.2.1 hb⟩
theorem BoxS.after {w w' : World} {H n : Nat} {S M : Int} {v : Value} (h : BoxS w H S M v) (hb : Below (w.drewN n).heap.size (w.drewN n) w') : BoxS w' H S M v := BoxS.below (w := w.drewN n) h hb
theorem BoxS.set {w : World} {H : Nat} {S M : Int} {v : Value} (h : BoxS w H S M v) (S' M' : Int) : BoxS ((w.setCell ⟨H + 1 + 1, 0, none⟩ (.int .i64 S')).setCell ⟨H + 1 + 1, 1, none⟩ (.int .i64 M')) H S' M' v := by
  obtain ⟨h1, h2, h3, h4, h5, h6, h7⟩ := h
  have l1 := cell_block_lt h1
  have l2 := cell_block_lt h4
  have f0 := h3 0
  have f1 := h3 1
  refine ⟨?_, ?_, fun o => ?_, ?_, ?_, ?_, fun o => ?_⟩
  · go_simp
  · go_simp
  · have := h3 o; go_simp
  · go_simp
  · go_simp
  · go_simp
  · have := h7 o; go_simp

theorem sum_bdW (css : List (List (Int × Int))) (k : Nat) (hk : k ≤ 8) : -1036800 ≤ sumTo (fun i => weightV (st css i)) k ∧ sumTo (fun i => weightV (st css i)) k ≤ 1036800 := by
  have := sumTo_bd (fun i => weightV (st css i)) 129600 k fun i _ => weightV_bd _
  omega
theorem sum_bdM (css : List (List (Int × Int))) (k : Nat) (hk : k ≤ 8) : -41472000 ≤ sumTo (fun i => momV (st css i)) k ∧ sumTo (fun i => momV (st css i)) k ≤ 41472000 := by
  have := sumTo_bd (fun i => momV (st css i)) 5184000 k fun i _ => momV_bd _
  omega

set_option maxHeartbeats 8000000 in
theorem burdenYes (w : World) (B B2 : Nat) (ja la : Option Addr) (sg n jc s sc m lc K N : Nat) (css : List (List (Int × Int))) (ls : List Ld) (hr : SRow w B (.slice (some ⟨sg, 0, none⟩) s sc) css) (hcs : css.length = s) (hsc : s ≤ sc)
    (hl : Lds w B2 la m lc ls) (hm6 : m ≤ 6) (hok : ∀ i, i < ls.length → ldOk N (ld ls i) = true) (hK : K < n) (hKs : K ≤ s) (hK8 : K ≤ 8) :
    Calls Try.prog 102 #[.agg #[.slice ja n jc, .slice (some ⟨sg, 0, none⟩) s sc, .slice la m lc], .int .i64 K] w fun e w' => e = .returned (.agg #[.int .i64 (sumTo (fun i => weightV (st css i)) K + sumTo (befF ldw ls K) m), .int .i64 (sumTo (fun i => momV (st css i)) K + sumTo (befF ldm ls K) m)]) ∧ Below w.heap.size w w' := by
  obtain ⟨hmc, hcm⟩ := hl.cap
  unfold maxLen at hcm
  have HD := Lib.hid (show decide ((0 : Int) ≤ (K : Int) ∧ (K : Int) < (n : Int)) = true from decide_eq_true ⟨by omega, by omega⟩)
  have hb0 := (((Below.refl w.heap.size w).alloc (Nat.le_refl _) (.cells #[.slice ja n jc, .slice (some ⟨sg, 0, none⟩) s sc, .slice la m lc] 159)).alloc (by simp) (.cells #[.int .i64 0, .int .i64 0] 165)).alloc (by simp <;> omega) (.cells #[.int .i64 0, .int .i64 0] 165)
  have hx0 : BoxS (((w.alloc (.cells #[.slice ja n jc, .slice (some ⟨sg, 0, none⟩) s sc, .slice la m lc] 159)).alloc (.cells #[.int .i64 0, .int .i64 0] 165)).alloc (.cells #[.int .i64 0, .int .i64 0] 165)) w.heap.size 0 0 (.slice la m lc) := by
    refine ⟨?_, ?_, fun o => ?_, ?_, ?_, ?_, fun o => ?_⟩ <;> go_simp
  have HB0 := Lib.hid hb0
  have HX0 := Lib.hid hx0
  have HR := Lib.hid hr
  have HN := Lib.hid hcs
  have HL := Lib.hid hl
  have HOK := Lib.hid hok
  have HLN := Lib.hid hl.2
  have hk0 : (0 : Int) ≤ (K : Int) := Int.natCast_nonneg _
  have hk1 : (K : Int) ≤ (sc : Int) := by omega
  have hk2 : K ≤ sc := by omega
  clear hb0 hx0 hr hcs hl hok
  go_enter Try.func102, Try.ntmps102
  go_wp2_with fail
  refine (hasJoint _ n _ K _).mono ?_
  rintro e w1 ⟨rfl, rfl⟩
  rw [HD.out]
  go_wp2_with fail
  go_loopw [23] (fun t wr => ∃ k : Nat, k ≤ K ∧ t = .int .i64 k ∧ BoxS wr w.heap.size (sumTo (fun i => weightV (st css i)) k) (sumTo (fun i => momV (st css i)) k) (.slice la m lc) ∧ Below w.heap.size w wr)
    (fun t _ => K - (intOf t).toNat)
  case atStart => exact ⟨0, Nat.zero_le _, rfl, HX0.out, HB0.out⟩
  case round =>
    clear HX0 HB0
    obtain ⟨k, hk, rfl, hx, hbw⟩ := hrel
    have HB := Lib.hid hbw
    have HX := Lib.hid hx
    have hS := sum_bdW css k (by omega)
    have hM := sum_bdM css k (by omega)
    by_cases hlt : k < K
    · obtain ⟨pa, pm, pc, c1, r1⟩ := (HR.out.below hbw).at HN.out k (by omega)
      have hV := weightV_bd (st css k)
      have hU := momV_bd (st css k)
      have HS1 := Lib.hid (show sumTo (fun i => weightV (st css i)) (k + 1) = sumTo (fun i => weightV (st css i)) k + weightV (st css k) from rfl)
      have HM1 := Lib.hid (show sumTo (fun i => momV (st css i)) (k + 1) = sumTo (fun i => momV (st css i)) k + momV (st css k) from rfl)
      have hC := fun W h => stoneBurden W B pa pm pc (st css k) h
      have hal : Below wr.heap.size wr (wr.alloc (.cells #[.slice pa pm pc] 129)) := (Below.refl _ _).alloc (Nat.le_refl _) _
      have HXW := Lib.hid (HX.out.below hal)
      have HRW := Lib.hid (r1.below hal)
      have HBW := Lib.hid (below_al3 hbw (.cells #[.slice pa pm pc] 129))
      have z0 : (wr.alloc (.cells #[.slice pa pm pc] 129)).cell? ⟨wr.heap.size, 0, none⟩ = some (.slice pa pm pc) := by go_simp
      generalize sumTo (fun i => weightV (st css i)) k = S at *
      generalize sumTo (fun i => momV (st css i)) k = M at *
      generalize weightV (st css k) = V at *
      generalize momV (st css k) = U at *
      have hPl : ∀ W, Calls Try.prog 106 #[.agg #[.int .i64 S, .int .i64 M], .agg #[.int .i64 V, .int .i64 U]] W fun e w' => e = .returned (.agg #[.int .i64 (S + V), .int .i64 (M + U)]) ∧ Below W.heap.size W w' := fun W => burdenPlus S M V U W (by omega) (by omega) (by omega) (by omega)
      have HC := Lib.hid hC
      have HP := Lib.hid hPl
      clear hC hPl hal hbw r1 hx hS hM hV hU
      go_wp2_with fail
      generalize hW : wr.alloc (.cells #[.slice pa pm pc] 129) = W at *
      obtain ⟨q00, q10, fq0, -⟩ := HXW.out
      have z00 := z0
      have HX0 : RowKit.Hid (BoxS W w.heap.size S M (.slice la m lc)) := Lib.hid HXW.out
      have HB0 : RowKit.Hid (Below w.heap.size w W) := Lib.hid HBW.out
      clear hW z0 c1 HXW HBW HB HX
      go_region_law
        (first
          | (go_simp; go_at_call 107; refine (HC.out _ (by first | exact HRW.out | exact (show Row _ B _ _ from HRW.out))).mono ?_; rintro e w1 ⟨rfl, hb1⟩; have q01 : w1.cell? ⟨w.heap.size + 1 + 1, 0, none⟩ = some (.int .i64 S) := (by first | exact cell_kept q00 hb1 | exact cell_after q00 hb1); have q11 : w1.cell? ⟨w.heap.size + 1 + 1, 1, none⟩ = some (.int .i64 M) := (by first | exact cell_kept q10 hb1 | exact cell_after q10 hb1); have fq1 : ∀ o, w1.frozen? ⟨w.heap.size + 1 + 1, o, none⟩ = false := fun o => (by first | exact frozen_kept (fq0 o) q00 hb1 | exact frozen_after (fq0 o) q00 hb1); have z01 : w1.cell? ⟨wr.heap.size, 0, none⟩ = some (.slice pa pm pc) := (by first | exact cell_kept z00 hb1 | exact cell_after z00 hb1); have HX1 : RowKit.Hid (BoxS w1 w.heap.size S M (.slice la m lc)) := Lib.hid (by first | exact HX0.out.below hb1 | exact HX0.out.after hb1); have HB1 : RowKit.Hid (Below w.heap.size w w1) := Lib.hid (by first | exact HB0.out.trans (hb1.mono HB0.out.size) | exact below_after HB0.out hb1); clear hb1)
          | (go_simp; go_at_call 106; refine (HP.out _).mono ?_; rintro e w2 ⟨rfl, hb2⟩; have q02 : w2.cell? ⟨w.heap.size + 1 + 1, 0, none⟩ = some (.int .i64 S) := (by first | exact cell_kept q01 hb2 | exact cell_after q01 hb2); have q12 : w2.cell? ⟨w.heap.size + 1 + 1, 1, none⟩ = some (.int .i64 M) := (by first | exact cell_kept q11 hb2 | exact cell_after q11 hb2); have fq2 : ∀ o, w2.frozen? ⟨w.heap.size + 1 + 1, o, none⟩ = false := fun o => (by first | exact frozen_kept (fq1 o) q01 hb2 | exact frozen_after (fq1 o) q01 hb2); have z02 : w2.cell? ⟨wr.heap.size, 0, none⟩ = some (.slice pa pm pc) := (by first | exact cell_kept z01 hb2 | exact cell_after z01 hb2); have HX2 : RowKit.Hid (BoxS w2 w.heap.size S M (.slice la m lc)) := Lib.hid (by first | exact HX1.out.below hb2 | exact HX1.out.after hb2); have HB2 : RowKit.Hid (Below w.heap.size w w2) := Lib.hid (by first | exact HB1.out.trans (hb2.mono HB1.out.size) | exact below_after HB1.out hb2); clear hb2))
      all_goals
        clear q00 q10 fq0 z00 q01 q11 fq1 z01
        go_wp2_with fail
        go_roundw
        case rel =>
          refine ⟨k + 1, by omega, by go_num, ?_, ?_⟩
          · rw [HS1.out, HM1.out]; exact BoxS.set HX2.out _ _
          · repeat refine Below.setCell ?_ (by show w.heap.size ≤ w.heap.size + 1 + 1; omega) _
            exact HB2.out
        case measure => simp [intOf]; omega
    · obtain rfl : k = K := by omega
      obtain ⟨q0, q1, fq, l2, -⟩ := hx
      generalize hSW : sumTo (fun i => weightV (st css i)) k = SW at *
      generalize hSM : sumTo (fun i => momV (st css i)) k = SM at *
      have HSW := Lib.hid hSW
      have HSM := Lib.hid hSM
      clear hbw hSW hSM
      go_wp2_with fail
      go_loopw [35] (fun t wr => ∃ i : Nat, i ≤ m ∧ t = .int .i64 i ∧ BoxS wr w.heap.size (SW + sumTo (befF ldw ls k) i) (SM + sumTo (befF ldm ls k) i) (.slice la m lc) ∧ Below w.heap.size w wr)
        (fun t _ => m - (intOf t).toNat)
      case atStart => exact ⟨0, Nat.zero_le _, rfl, by simpa [sumTo] using HX.out, HB.out⟩
      case round =>
        clear HX HB q0 q1 fq l2
        obtain ⟨i, hi, rfl, hx, hbw⟩ := hrel
        have HB := Lib.hid hbw
        have HX := Lib.hid hx
        have hS := befF_bd (f := ldw) (fun l hl => ldw_bd hl) (by have := HLN.out; omega) HOK.out k i (by have := HLN.out; omega)
        have hM := befF_bd (f := ldm) (fun l hl => ldm_bd hl) (by have := HLN.out; omega) HOK.out k i (by have := HLN.out; omega)
        by_cases hlt : i < m
        · obtain ⟨g, rfl, -, a0, a1, a2⟩ := (HL.out.below hbw).at i hlt
          have hO := ldOk_iff.1 (HOK.out i (by have := HLN.out; omega))
          have HS1 := Lib.hid (show sumTo (befF ldw ls k) (i + 1) = sumTo (befF ldw ls k) i + befF ldw ls k i from rfl)
          have HM1 := Lib.hid (show sumTo (befF ldm ls k) (i + 1) = sumTo (befF ldm ls k) i + befF ldm ls k i from rfl)
          have HYW := Lib.hid (befF_yes (f := ldw) (ls := ls) (k := k) (i := i))
          have HYM := Lib.hid (befF_yes (f := ldm) (ls := ls) (k := k) (i := i))
          have HNW := Lib.hid (befF_no (f := ldw) (ls := ls) (k := k) (i := i))
          have HNM := Lib.hid (befF_no (f := ldm) (ls := ls) (k := k) (i := i))
          have hw0 : ldw (ld ls i) = (ld ls i).2.1 := rfl
          have hm0 : ldm (ld ls i) = (ld ls i).2.1 * (ld ls i).2.2 := rfl
          rw [hw0] at HYW
          rw [hm0] at HYM
          generalize (ld ls i).1 = x at *
          generalize (ld ls i).2.1 = y at *
          generalize (ld ls i).2.2 = z at *
          generalize sumTo (befF ldw ls k) i = LW at *
          generalize sumTo (befF ldm ls k) i = LM at *
          obtain ⟨S, hSe⟩ : ∃ S, S = SW + LW := ⟨_, rfl⟩
          obtain ⟨M, hMe⟩ : ∃ M, M = SM + LM := ⟨_, rfl⟩
          have hSb : -1000000000 ≤ S ∧ S ≤ 1000000000 := by omega
          have hMb : -1000000000 ≤ M ∧ M ≤ 1000000000 := by omega
          rw [← hSe, ← hMe] at HX
          have hmul := mul_bd (x := y) (y := z) 10000 60 ⟨by omega, by omega⟩ ⟨by omega, by omega⟩
          have hC := fun W => loadBurden x y z W (by omega) (by omega)
          have hPl : ∀ W, Calls Try.prog 106 #[.agg #[.int .i64 S, .int .i64 M], .agg #[.int .i64 y, .int .i64 (y * z)]] W fun e w' => e = .returned (.agg #[.int .i64 (S + y), .int .i64 (M + y * z)]) ∧ Below W.heap.size W w' := fun W => burdenPlus S M y (y * z) W (by omega) (by omega) (by omega) (by omega)
          have hal : Below wr.heap.size wr (wr.alloc (.cells #[.int .i64 x, .int .i64 y, .int .i64 z] 82)) := (Below.refl _ _).alloc (Nat.le_refl _) _
          have HXW := Lib.hid (HX.out.below hal)
          have HBW := Lib.hid (below_al3 hbw (.cells #[.int .i64 x, .int .i64 y, .int .i64 z] 82))
          have z0 : (wr.alloc (.cells #[.int .i64 x, .int .i64 y, .int .i64 z] 82)).cell? ⟨wr.heap.size, 0, none⟩ = some (.int .i64 x) := by go_simp
          have z1 : (wr.alloc (.cells #[.int .i64 x, .int .i64 y, .int .i64 z] 82)).cell? ⟨wr.heap.size, 1, none⟩ = some (.int .i64 y) := by go_simp
          have z2 : (wr.alloc (.cells #[.int .i64 x, .int .i64 y, .int .i64 z] 82)).cell? ⟨wr.heap.size, 2, none⟩ = some (.int .i64 z) := by go_simp
          have HC := Lib.hid hC
          have HP := Lib.hid hPl
          have HSE := Lib.hid hSe
          have HME := Lib.hid hMe
          clear hC hPl hal hbw hx hS hM hO hw0 hm0 hSe hMe hSb hMb hmul
          by_cases hxk : x < (k : Int)
          · have HY1 := Lib.hid (HYW.out hxk)
            have HY2 := Lib.hid (HYM.out hxk)
            clear HYW HYM HNW HNM
            go_wp2_with fail
            generalize hW : wr.alloc (.cells #[.int .i64 x, .int .i64 y, .int .i64 z] 82) = W at *
            obtain ⟨q00, q10, fq0, -⟩ := HXW.out
            have z00 := z0
            have z10 := z1
            have z20 := z2
            have HX0 : RowKit.Hid (BoxS W w.heap.size S M (.slice (some ⟨g, 0, none⟩) m lc)) := Lib.hid HXW.out
            have HB0 : RowKit.Hid (Below w.heap.size w W) := Lib.hid HBW.out
            clear hW z0 z1 z2 a0 a1 a2 HXW HBW HB HX
            go_region_law
              (first
                | (go_simp; go_at_call 108; refine (HC.out _).mono ?_; rintro e w1 ⟨rfl, hb1⟩; have q01 : w1.cell? ⟨w.heap.size + 1 + 1, 0, none⟩ = some (.int .i64 S) := (by first | exact cell_kept q00 hb1 | exact cell_after q00 hb1); have q11 : w1.cell? ⟨w.heap.size + 1 + 1, 1, none⟩ = some (.int .i64 M) := (by first | exact cell_kept q10 hb1 | exact cell_after q10 hb1); have fq1 : ∀ o, w1.frozen? ⟨w.heap.size + 1 + 1, o, none⟩ = false := fun o => (by first | exact frozen_kept (fq0 o) q00 hb1 | exact frozen_after (fq0 o) q00 hb1); have z01 : w1.cell? ⟨wr.heap.size, 0, none⟩ = some (.int .i64 x) := (by first | exact cell_kept z00 hb1 | exact cell_after z00 hb1); have z11 : w1.cell? ⟨wr.heap.size, 1, none⟩ = some (.int .i64 y) := (by first | exact cell_kept z10 hb1 | exact cell_after z10 hb1); have z21 : w1.cell? ⟨wr.heap.size, 2, none⟩ = some (.int .i64 z) := (by first | exact cell_kept z20 hb1 | exact cell_after z20 hb1); have HX1 : RowKit.Hid (BoxS w1 w.heap.size S M (.slice (some ⟨g, 0, none⟩) m lc)) := Lib.hid (by first | exact HX0.out.below hb1 | exact HX0.out.after hb1); have HB1 : RowKit.Hid (Below w.heap.size w w1) := Lib.hid (by first | exact HB0.out.trans (hb1.mono HB0.out.size) | exact below_after HB0.out hb1); clear hb1)
                | (go_simp; go_at_call 106; refine (HP.out _).mono ?_; rintro e w2 ⟨rfl, hb2⟩; have q02 : w2.cell? ⟨w.heap.size + 1 + 1, 0, none⟩ = some (.int .i64 S) := (by first | exact cell_kept q01 hb2 | exact cell_after q01 hb2); have q12 : w2.cell? ⟨w.heap.size + 1 + 1, 1, none⟩ = some (.int .i64 M) := (by first | exact cell_kept q11 hb2 | exact cell_after q11 hb2); have fq2 : ∀ o, w2.frozen? ⟨w.heap.size + 1 + 1, o, none⟩ = false := fun o => (by first | exact frozen_kept (fq1 o) q01 hb2 | exact frozen_after (fq1 o) q01 hb2); have z02 : w2.cell? ⟨wr.heap.size, 0, none⟩ = some (.int .i64 x) := (by first | exact cell_kept z01 hb2 | exact cell_after z01 hb2); have z12 : w2.cell? ⟨wr.heap.size, 1, none⟩ = some (.int .i64 y) := (by first | exact cell_kept z11 hb2 | exact cell_after z11 hb2); have z22 : w2.cell? ⟨wr.heap.size, 2, none⟩ = some (.int .i64 z) := (by first | exact cell_kept z21 hb2 | exact cell_after z21 hb2); have HX2 : RowKit.Hid (BoxS w2 w.heap.size S M (.slice (some ⟨g, 0, none⟩) m lc)) := Lib.hid (by first | exact HX1.out.below hb2 | exact HX1.out.after hb2); have HB2 : RowKit.Hid (Below w.heap.size w w2) := Lib.hid (by first | exact HB1.out.trans (hb2.mono HB1.out.size) | exact below_after HB1.out hb2); clear hb2))
            all_goals
              clear q00 q10 fq0 z00 z10 z20 q01 q11 fq1 z01 z11 z21
              go_wp2_with fail
              go_roundw
              case rel =>
                refine ⟨i + 1, by omega, by go_num, ?_, ?_⟩
                · rw [HS1.out, HM1.out, HY1.out, HY2.out, ← Int.add_assoc, ← Int.add_assoc, ← HSE.out, ← HME.out]; exact BoxS.set HX2.out _ _
                · repeat refine Below.setCell ?_ (by show w.heap.size ≤ w.heap.size + 1 + 1; omega) _
                  exact HB2.out
              case measure => simp [intOf]; omega
          · have HY1 := Lib.hid (HNW.out hxk)
            have HY2 := Lib.hid (HNM.out hxk)
            clear HYW HYM HNW HNM
            go_wp2_with fail
            go_roundw
            case rel =>
              refine ⟨i + 1, by omega, by go_num, ?_, HBW.out⟩
              rw [HS1.out, HM1.out, HY1.out, HY2.out, Int.add_zero, Int.add_zero, ← HSE.out, ← HME.out]; exact HXW.out
            case measure => simp [intOf]; omega
        · obtain rfl : i = m := by omega
          obtain ⟨q0, q1, fq, -, r0, r1, fr⟩ := hx
          generalize hLW : sumTo (befF ldw ls k) i = LW at *
          generalize hLM : sumTo (befF ldm ls k) i = LM at *
          have HLW := Lib.hid hLW
          have HLM := Lib.hid hLM
          clear hbw hS hM hLW hLM
          go_wp2_with fail
          refine bodyPost_ret (v := .agg #[.int .i64 (SW + LW), .int .i64 (SM + LM)]) (by simp [results, Try.results102, go_sem, r0, r1]) rfl ⟨by rw [HSW.out, HSM.out, HLW.out, HLM.out], ?_⟩
          repeat refine Below.setCell ?_ (by show w.heap.size ≤ w.heap.size + 1; omega) _
          exact HB.out
end Go.Proofs.Ytbmlcfdilopmgaa

/- The program's loadArch: an arch with its stones and its loads. -/
namespace Go.Proofs.Ytbmlcfdilopmgaa
set_option maxRecDepth 100000
open Go.ChangeShapes Go.WideShapes Go.ChangeAt Go.RowKit

theorem loadsV_bears {js : List Jt} {ls : List Ld} {m n : Nat} (h : archV js = true) (hm : ls.length = m) (hn : js.length = n) : loadsV js ls = (decide (m ≤ 6) && ldAll n ls) := by
  subst hm hn
  unfold loadsV
  rw [h, Bool.true_and]

set_option maxHeartbeats 2000000 in
theorem loadNo (w : World) (B B2 g cap n : Nat) (la : Option Addr) (m lc : Nat) (js : List Jt) (ls : List Ld) (hr : JRowAt w B g cap js) (hn : js.length = n) (hl : Lds w B2 la m lc ls) (h : loadsV js ls = false) :
    Calls Try.prog 99 #[.agg #[.slice (some ⟨g, 0, none⟩) n cap], .slice la m lc] w fun e w' => e = .returned (.tuple #[.agg #[.slice none 0 0, .slice none 0 0, .slice none 0 0], .bool false]) ∧ Below w.heap.size w w' := by
  have HB0 := Lib.hid (two_below w #[.slice (some ⟨g, 0, none⟩) n cap] #[.slice none 0 0, .slice none 0 0, .slice none 0 0] 26 159)
  have HR := Lib.hid (hr.below HB0.out)
  have HL := Lib.hid (hl.below HB0.out)
  have HN := Lib.hid hn
  have HLN := Lib.hid hl.2
  have H := Lib.hid h
  clear hr hn h hl
  cases ha : archV js
  · have HA := Lib.hid ha
    clear ha
    go_enter Try.func99, Try.ntmps99
    go_wp2_with fail
    refine (buildNo _ _ _ _ _ js HR.out HN.out HA.out).mono ?_
    rintro e w1 ⟨rfl, hb1⟩
    have c0 : w1.cell? ⟨w.heap.size + 1, 0, none⟩ = some (.slice none 0 0) := (hb1.cell (p := ⟨w.heap.size + 1, 0, none⟩) (by simp)).trans (by go_simp)
    have c1 : w1.cell? ⟨w.heap.size + 1, 1, none⟩ = some (.slice none 0 0) := (hb1.cell (p := ⟨w.heap.size + 1, 1, none⟩) (by simp)).trans (by go_simp)
    have c2 : w1.cell? ⟨w.heap.size + 1, 2, none⟩ = some (.slice none 0 0) := (hb1.cell (p := ⟨w.heap.size + 1, 2, none⟩) (by simp)).trans (by go_simp)
    have f0 : ∀ o, w1.frozen? ⟨w.heap.size + 1, o, none⟩ = false := fun o => (hb1.frozen (p := ⟨w.heap.size + 1, o, none⟩) (by simp)).trans (by go_simp)
    have HB1 := Lib.hid (HB0.out.trans (hb1.mono HB0.out.size))
    have hz1 := HB1.out.size
    have hwl : w.heap.size + 1 < w1.heap.size := cell_block_lt c0
    have hne := Nat.ne_of_lt hwl
    clear hb1
    go_upto_region 2 with (fail)
    have HB2 := Lib.hid (below_al3 HB1.out (.cells #[.slice none 0 0, .slice none 0 0] 157))
    have d0 : (w1.alloc (.cells #[.slice none 0 0, .slice none 0 0] 157)).cell? ⟨w.heap.size + 1, 0, none⟩ = some (.slice none 0 0) := by go_simp
    have d1 : (w1.alloc (.cells #[.slice none 0 0, .slice none 0 0] 157)).cell? ⟨w.heap.size + 1, 1, none⟩ = some (.slice none 0 0) := by go_simp
    have d2 : (w1.alloc (.cells #[.slice none 0 0, .slice none 0 0] 157)).cell? ⟨w.heap.size + 1, 2, none⟩ = some (.slice none 0 0) := by go_simp
    have e0 : ∀ o, (w1.alloc (.cells #[.slice none 0 0, .slice none 0 0] 157)).frozen? ⟨w.heap.size + 1, o, none⟩ = false := fun o => by have := f0 o; go_simp
    generalize hW : w1.alloc (.cells #[.slice none 0 0, .slice none 0 0] 157) = W at *
    clear hW c0 c1 c2 f0
    go_wp2_with fail
    refine bodyPost_ret (v := .tuple #[.agg #[.slice none 0 0, .slice none 0 0, .slice none 0 0], .bool false]) (by simp [results, Try.results99, go_sem, d0, d1, d2]) rfl ⟨rfl, ?_⟩
    repeat refine Below.setCell ?_ (by show w.heap.size ≤ w.heap.size + 1; omega) _
    exact HB2.out
  · have HA := Lib.hid ha
    have hv := loadsV_bears ha HLN.out HN.out
    rw [H.out] at hv
    have HV := Lib.hid hv.symm
    have h3 := arch_size ha
    rw [HN.out] at h3
    clear ha hv
    go_enter Try.func99, Try.ntmps99
    go_wp2_with fail
    refine (buildYes _ _ _ _ _ js HR.out HN.out HA.out).mono ?_
    rintro e w1 ⟨sg, sc, rfl, hbu, hb1⟩
    have c0 : w1.cell? ⟨w.heap.size + 1, 0, none⟩ = some (.slice none 0 0) := (hb1.cell (p := ⟨w.heap.size + 1, 0, none⟩) (by simp)).trans (by go_simp)
    have c1 : w1.cell? ⟨w.heap.size + 1, 1, none⟩ = some (.slice none 0 0) := (hb1.cell (p := ⟨w.heap.size + 1, 1, none⟩) (by simp)).trans (by go_simp)
    have c2 : w1.cell? ⟨w.heap.size + 1, 2, none⟩ = some (.slice none 0 0) := (hb1.cell (p := ⟨w.heap.size + 1, 2, none⟩) (by simp)).trans (by go_simp)
    have f0 : ∀ o, w1.frozen? ⟨w.heap.size + 1, o, none⟩ = false := fun o => (hb1.frozen (p := ⟨w.heap.size + 1, o, none⟩) (by simp)).trans (by go_simp)
    have HB1 := Lib.hid (HB0.out.trans (hb1.mono HB0.out.size))
    have HL1 := Lib.hid ((HL.out.below hb1).alloc (.cells #[.slice (some ⟨g, 0, none⟩) n cap, .slice (some ⟨sg, 0, none⟩) (n - 1) sc] 157))
    have hz1 := HB1.out.size
    have hwl : w.heap.size + 1 < w1.heap.size := cell_block_lt c0
    have hne := Nat.ne_of_lt hwl
    clear hb1 hbu
    go_wp2_with fail
    have HB2 := Lib.hid (below_al3 HB1.out (.cells #[.slice (some ⟨g, 0, none⟩) n cap, .slice (some ⟨sg, 0, none⟩) (n - 1) sc] 157))
    have d0 : (w1.alloc (.cells #[.slice (some ⟨g, 0, none⟩) n cap, .slice (some ⟨sg, 0, none⟩) (n - 1) sc] 157)).cell? ⟨w.heap.size + 1, 0, none⟩ = some (.slice none 0 0) := by go_simp
    have d1 : (w1.alloc (.cells #[.slice (some ⟨g, 0, none⟩) n cap, .slice (some ⟨sg, 0, none⟩) (n - 1) sc] 157)).cell? ⟨w.heap.size + 1, 1, none⟩ = some (.slice none 0 0) := by go_simp
    have d2 : (w1.alloc (.cells #[.slice (some ⟨g, 0, none⟩) n cap, .slice (some ⟨sg, 0, none⟩) (n - 1) sc] 157)).cell? ⟨w.heap.size + 1, 2, none⟩ = some (.slice none 0 0) := by go_simp
    have e0 : ∀ o, (w1.alloc (.cells #[.slice (some ⟨g, 0, none⟩) n cap, .slice (some ⟨sg, 0, none⟩) (n - 1) sc] 157)).frozen? ⟨w.heap.size + 1, o, none⟩ = false := fun o => by have := f0 o; go_simp
    generalize hW : w1.alloc (.cells #[.slice (some ⟨g, 0, none⟩) n cap, .slice (some ⟨sg, 0, none⟩) (n - 1) sc] 157) = W at *
    clear hW c0 c1 c2 f0
    refine (bears _ _ _ _ _ _ _ _ _ _ _ n ls (by omega) HL1.out).mono ?_
    rintro e w2 ⟨rfl, hb2⟩
    rw [HV.out]
    have k0 := cell_kept d0 hb2
    have k1 := cell_kept d1 hb2
    have k2 := cell_kept d2 hb2
    have q0 : ∀ o, w2.frozen? ⟨w.heap.size + 1, o, none⟩ = false := fun o => frozen_kept (e0 o) d0 hb2
    have HB3 := Lib.hid (HB2.out.trans (hb2.mono HB2.out.size))
    clear hb2 d0 d1 d2 e0
    go_wp2_with fail
    refine bodyPost_ret (v := .tuple #[.agg #[.slice none 0 0, .slice none 0 0, .slice none 0 0], .bool false]) (by simp [results, Try.results99, go_sem, k0, k1, k2]) rfl ⟨rfl, ?_⟩
    repeat refine Below.setCell ?_ (by show w.heap.size ≤ w.heap.size + 1; omega) _
    exact HB3.out

set_option maxHeartbeats 2000000 in
theorem loadYes (w : World) (B B2 g cap n : Nat) (la : Option Addr) (m lc : Nat) (js : List Jt) (ls : List Ld) (hr : JRowAt w B g cap js) (hn : js.length = n) (hl : Lds w B2 la m lc ls) (h : loadsV js ls = true) :
    Calls Try.prog 99 #[.agg #[.slice (some ⟨g, 0, none⟩) n cap], .slice la m lc] w fun e w' => ∃ sg sc, e = .returned (.tuple #[.agg #[.slice (some ⟨g, 0, none⟩) n cap, .slice (some ⟨sg, 0, none⟩) (n - 1) sc, .slice la m lc], .bool true]) ∧ Built w w' js n sg sc ∧ Below w.heap.size w w' := by
  have HB0 := Lib.hid (two_below w #[.slice (some ⟨g, 0, none⟩) n cap] #[.slice none 0 0, .slice none 0 0, .slice none 0 0] 26 159)
  have HR := Lib.hid (hr.below HB0.out)
  have HL := Lib.hid (hl.below HB0.out)
  have HN := Lib.hid hn
  have HLN := Lib.hid hl.2
  have ha := (loadsV_iff.1 h).1
  have HA := Lib.hid ha
  have hv := loadsV_bears ha HLN.out HN.out
  rw [h] at hv
  have HV := Lib.hid hv.symm
  have h3 := arch_size ha
  rw [HN.out] at h3
  clear hr hn h hl ha hv
  go_enter Try.func99, Try.ntmps99
  go_wp2_with fail
  refine (buildYes _ _ _ _ _ js HR.out HN.out HA.out).mono ?_
  rintro e w1 ⟨sg, sc, rfl, hbu, hb1⟩
  have c0 : w1.cell? ⟨w.heap.size + 1, 0, none⟩ = some (.slice none 0 0) := (hb1.cell (p := ⟨w.heap.size + 1, 0, none⟩) (by simp)).trans (by go_simp)
  have c1 : w1.cell? ⟨w.heap.size + 1, 1, none⟩ = some (.slice none 0 0) := (hb1.cell (p := ⟨w.heap.size + 1, 1, none⟩) (by simp)).trans (by go_simp)
  have c2 : w1.cell? ⟨w.heap.size + 1, 2, none⟩ = some (.slice none 0 0) := (hb1.cell (p := ⟨w.heap.size + 1, 2, none⟩) (by simp)).trans (by go_simp)
  have f0 : ∀ o, w1.frozen? ⟨w.heap.size + 1, o, none⟩ = false := fun o => (hb1.frozen (p := ⟨w.heap.size + 1, o, none⟩) (by simp)).trans (by go_simp)
  have hal : Below w1.heap.size w1 (w1.alloc (.cells #[.slice (some ⟨g, 0, none⟩) n cap, .slice (some ⟨sg, 0, none⟩) (n - 1) sc] 157)) := (Below.refl _ _).alloc (Nat.le_refl _) _
  have hsgz : w.heap.size + 1 + 1 ≤ sg := by
    obtain ⟨⟨vs, -, ho, -⟩, -⟩ := hbu
    have := (World.ownsRow.lt ho sg rfl).1
    simpa using this
  have HBU := Lib.hid (hbu.below hal)
  have HB1 := Lib.hid (HB0.out.trans (hb1.mono HB0.out.size))
  have HL1 := Lib.hid ((HL.out.below hb1).alloc (.cells #[.slice (some ⟨g, 0, none⟩) n cap, .slice (some ⟨sg, 0, none⟩) (n - 1) sc] 157))
  have hz1 := HB1.out.size
  have hwl : w.heap.size + 1 < w1.heap.size := cell_block_lt c0
  have hne := Nat.ne_of_lt hwl
  clear hb1 hbu hal
  go_wp2_with fail
  have HB2 := Lib.hid (below_al3 HB1.out (.cells #[.slice (some ⟨g, 0, none⟩) n cap, .slice (some ⟨sg, 0, none⟩) (n - 1) sc] 157))
  have b0 : (w1.alloc (.cells #[.slice (some ⟨g, 0, none⟩) n cap, .slice (some ⟨sg, 0, none⟩) (n - 1) sc] 157)).cell? ⟨w1.heap.size, 0, none⟩ = some (.slice (some ⟨g, 0, none⟩) n cap) := by go_simp
  have b1 : (w1.alloc (.cells #[.slice (some ⟨g, 0, none⟩) n cap, .slice (some ⟨sg, 0, none⟩) (n - 1) sc] 157)).cell? ⟨w1.heap.size, 1, none⟩ = some (.slice (some ⟨sg, 0, none⟩) (n - 1) sc) := by go_simp
  have d0 : (w1.alloc (.cells #[.slice (some ⟨g, 0, none⟩) n cap, .slice (some ⟨sg, 0, none⟩) (n - 1) sc] 157)).cell? ⟨w.heap.size + 1, 0, none⟩ = some (.slice none 0 0) := by go_simp
  have d1 : (w1.alloc (.cells #[.slice (some ⟨g, 0, none⟩) n cap, .slice (some ⟨sg, 0, none⟩) (n - 1) sc] 157)).cell? ⟨w.heap.size + 1, 1, none⟩ = some (.slice none 0 0) := by go_simp
  have d2 : (w1.alloc (.cells #[.slice (some ⟨g, 0, none⟩) n cap, .slice (some ⟨sg, 0, none⟩) (n - 1) sc] 157)).cell? ⟨w.heap.size + 1, 2, none⟩ = some (.slice none 0 0) := by go_simp
  have e0 : ∀ o, (w1.alloc (.cells #[.slice (some ⟨g, 0, none⟩) n cap, .slice (some ⟨sg, 0, none⟩) (n - 1) sc] 157)).frozen? ⟨w.heap.size + 1, o, none⟩ = false := fun o => by have := f0 o; go_simp
  generalize hW : w1.alloc (.cells #[.slice (some ⟨g, 0, none⟩) n cap, .slice (some ⟨sg, 0, none⟩) (n - 1) sc] 157) = W at *
  clear hW c0 c1 c2 f0
  refine (bears _ _ _ _ _ _ _ _ _ _ _ n ls (by omega) HL1.out).mono ?_
  rintro e w2 ⟨rfl, hb2⟩
  rw [HV.out]
  have HBU2 := Lib.hid (HBU.out.below hb2)
  have j0 := cell_kept b0 hb2
  have j1 := cell_kept b1 hb2
  have k0 := cell_kept d0 hb2
  have k1 := cell_kept d1 hb2
  have k2 := cell_kept d2 hb2
  have q0 : ∀ o, w2.frozen? ⟨w.heap.size + 1, o, none⟩ = false := fun o => frozen_kept (e0 o) d0 hb2
  have HB3 := Lib.hid (HB2.out.trans (hb2.mono HB2.out.size))
  obtain ⟨hs1, hs2, hs3, hs4⟩ := HBU2.out
  simp only [World.size_alloc] at hs1
  have HS1 := Lib.hid hs1
  clear hb2 b0 b1 d0 d1 d2 e0 HBU HBU2 hs1
  go_wp2_with fail
  have hset : ∀ (W : World), SRow W (w.heap.size + 1 + 1) (.slice (some ⟨sg, 0, none⟩) (n - 1) sc) (stonesTo js (n - 1)) → ∀ o (u : Value), SRow (W.setCell ⟨w.heap.size + 1, o, none⟩ u) (w.heap.size + 1 + 1) (.slice (some ⟨sg, 0, none⟩) (n - 1) sc) (stonesTo js (n - 1)) := by
    rintro W ⟨vs, h1, h2, h3⟩ o u
    refine ⟨vs, h1, ownsRow_setCell_other h2 (a := ⟨w.heap.size + 1, o, none⟩) (fun he => by simp [Value.ownBlock] at he; omega) _, fun i hi => ?_⟩
    have hri := h3 i hi
    exact ownsRow_setCell_other hri (a := ⟨w.heap.size + 1, o, none⟩) (fun he => by have := (World.ownsRow.lt hri _ he).1; simp at this; omega) _
  refine bodyPost_ret (v := .tuple #[.agg #[.slice (some ⟨g, 0, none⟩) n cap, .slice (some ⟨sg, 0, none⟩) (n - 1) sc, .slice la m lc], .bool true]) (by simp [results, Try.results99, go_sem, k0, k1, k2]) rfl ⟨sg, sc, rfl, ⟨SRow.base (B := w.heap.size + 1 + 1) ?_ (by omega), ?_, hs3, hs4⟩, ?_⟩
  · repeat refine hset _ ?_ _ _
    exact HS1.out
  · simpa using hs2
  · repeat refine Below.setCell ?_ (by show w.heap.size ≤ w.heap.size + 1; omega) _
    exact HB3.out
end Go.Proofs.Ytbmlcfdilopmgaa

/- The program's LoadsOk, WeightLeft, MomentLeft, TotalOf. -/
namespace Go.Proofs.Ytbmlcfdilopmgaa
set_option maxRecDepth 100000
open Go.ChangeShapes Go.WideShapes Go.ChangeAt Go.RowKit

theorem burden_f0 : ∀ (x y : Int) (W : World), (Instr.field 165 (.agg #[.int .i64 x, .int .i64 y]) 0).run Try.prog W = .ok (.int .i64 x) W := fun _ _ _ => by kernel_rfl
theorem burden_f1 : ∀ (x y : Int) (W : World), (Instr.field 165 (.agg #[.int .i64 x, .int .i64 y]) 1).run Try.prog W = .ok (.int .i64 y) W := fun _ _ _ => by kernel_rfl
theorem left_w {js : List Jt} {ls : List Ld} {n m K : Nat} (h : loadsV js ls = true) (hn : js.length = n) (hm : ls.length = m) (hK : K < n) :
    sumTo (fun i => weightV (st (stonesTo js (n - 1)) i)) K + sumTo (befF ldw ls K) m = leftF wL js ls K := by
  subst hn hm
  rw [leftF_yes h hK, show sumTo (fun i => weightV (st (stonesTo js (js.length - 1)) i)) K = sumTo (wK js) K from sumTo_congr _ fun i hi => by rw [st_stonesTo _ _ _ (by omega)]; rfl]
  unfold wL
  rw [stF_sum wK ldw js ls fun i hi => (ldOk_iff.1 ((loadsV_iff.1 h).2.2 i hi)).1.1]
theorem left_m {js : List Jt} {ls : List Ld} {n m K : Nat} (h : loadsV js ls = true) (hn : js.length = n) (hm : ls.length = m) (hK : K < n) :
    sumTo (fun i => momV (st (stonesTo js (n - 1)) i)) K + sumTo (befF ldm ls K) m = leftF mL js ls K := by
  subst hn hm
  rw [leftF_yes h hK, show sumTo (fun i => momV (st (stonesTo js (js.length - 1)) i)) K = sumTo (mK js) K from sumTo_congr _ fun i hi => by rw [st_stonesTo _ _ _ (by omega)]; rfl]
  unfold mL
  rw [stF_sum mK ldm js ls fun i hi => (ldOk_iff.1 ((loadsV_iff.1 h).2.2 i hi)).1.1]

theorem burdenLeft (w W : World) (B2 g n cap sg sc : Nat) (la : Option Addr) (m lc : Nat) (js : List Jt) (ls : List Ld) (k : Int) (hb : Built w W js n sg sc) (hl : Lds W B2 la m lc ls) (h : loadsV js ls = true) (hn : js.length = n) :
    Calls Try.prog 102 #[.agg #[.slice (some ⟨g, 0, none⟩) n cap, .slice (some ⟨sg, 0, none⟩) (n - 1) sc, .slice la m lc], .int .i64 k] W fun e w' => e = .returned (.agg #[.int .i64 (leftF wL js ls k), .int .i64 (leftF mL js ls k)]) ∧ Below W.heap.size W w' := by
  by_cases hk : 0 ≤ k ∧ k < (n : Int)
  · obtain ⟨K, rfl⟩ : ∃ K : Nat, k = K := ⟨k.toNat, by omega⟩
    have hm := hl.2
    obtain ⟨h1, h6, hok⟩ := loadsV_iff.1 h
    have h38 := arch_size h1
    rw [← left_w h hn hm (by omega), ← left_m h hn hm (by omega)]
    exact burdenYes W w.heap.size B2 (some ⟨g, 0, none⟩) la sg n cap (n - 1) sc m lc K js.length (stonesTo js (n - 1)) ls hb.1 (stonesTo_length _ _) hb.2.2.1 hl (by omega) hok (by omega) (by omega) (by omega)
  · rw [leftF_no (f := wL) (by rw [hn]; omega), leftF_no (f := mL) (by rw [hn]; omega)]
    exact burdenNo W _ _ _ _ _ _ _ _ _ k hk

end Go.Proofs.Ytbmlcfdilopmgaa
