/- Lists of thrusts: whether one is in a list, of the program's library and of the model. -/
import Derived.Test.YtibcalpkmjjilaaThreeP
import Derived.Test.YtibcalpkmjjilaaCondA
import Derived.Test.YtibcalpkmjjilaaThL
import Derived.Laws.StructEq
namespace Go.Proofs.Ytibcalpkmjjilaa
set_option maxRecDepth 100000
open Go.ChangeShapes Go.WideShapes Go.ChangeAt Go.RowKit

/-- A thrust is none of the first k. -/
def NotTo (ts : List Cd) (t : Cd) (k : Nat) : Prop := ∀ j, j < k → cd ts j ≠ t
theorem notTo_zero (ts : List Cd) (t : Cd) : NotTo ts t 0 := fun j hj => absurd hj (Nat.not_lt_zero j)
theorem notTo_next {ts : List Cd} {t : Cd} {k : Nat} (h : NotTo ts t k) (hn : cd ts k ≠ t) : NotTo ts t (k + 1) := fun j hj => if e : j = k then by rw [e]; exact hn else h j (by omega)
theorem notTo_end {ts : List Cd} {t : Cd} (h : NotTo ts t ts.length) : decide (t ∈ ts) = false := by
  rw [decide_eq_false_iff_not]
  intro hm
  obtain ⟨j, hj, e⟩ := List.mem_iff_getElem.1 hm
  exact h j hj ((cd_get hj).trans e)
theorem at_in {ts : List Cd} {t : Cd} {k : Nat} (hk : k < ts.length) (h : cd ts k = t) : decide (t ∈ ts) = true := by
  rw [decide_eq_true_iff, ← h, cd_get hk]
  exact List.getElem_mem hk
theorem cd_ne {ts : List Cd} {k : Nat} {h v m d x y z u : Int} (e : cd ts k = (x, y, z, u)) (hn : ¬ (x = h ∧ y = v ∧ z = m ∧ u = d)) : cd ts k ≠ (h, v, m, d) := by
  rw [e]; intro he; simp only [Prod.mk.injEq] at he; exact hn he

set_option maxHeartbeats 2000000 in
theorem implIndex (w : World) (B : Nat) (a : Option Addr) (n cap : Nat) (h v m d : Int) (ts : List Cd) (hr : Ths w B a n cap ts) :
    Calls Try.prog 96 #[.slice a n cap, .agg #[.int .i64 h, .int .i64 v, .int .i64 m, .int .i64 d]] w fun e w' => ∃ r : Int, e = .returned (.int .i64 r) ∧ decide (r ≥ 0) = decide ((h, v, m, d) ∈ ts) ∧ Below w.heap.size w w' := by
  obtain ⟨hnc, hcm⟩ := hr.cap
  unfold maxLen at hcm
  have hln := hr.2
  have HB0 := Lib.hid (cd_al w (.cells #[.int .i64 h, .int .i64 v, .int .i64 m, .int .i64 d] 29))
  have HT0 := Lib.hid (tbox_alloc w h v m d)
  have HR := Lib.hid hr
  have HN := Lib.hid hln
  clear hr hln
  go_enter Try.func96, Try.ntmps96
  go_wp2_with fail
  go_loopw [8] (fun t wr => ∃ k : Nat, k ≤ n ∧ t = .int .i64 k ∧ NotTo ts (h, v, m, d) k ∧ Below w.heap.size w wr ∧ TBox wr w.heap.size h v m d)
    (fun t _ => n - (intOf t).toNat)
  case atStart => exact ⟨0, Nat.zero_le _, rfl, notTo_zero _ _, HB0.out, HT0.out⟩
  case round =>
    clear HB0 HT0
    obtain ⟨k, hk, rfl, hall, hbw, htb⟩ := hrel
    have HB := Lib.hid hbw
    have HA := Lib.hid hall
    have HT := Lib.hid htb
    clear hall
    by_cases hlt : k < n
    · have hlN := HN.out
      obtain ⟨g, rfl, -, a0, a1, a2, a3⟩ := (HR.out.below hbw).at k hlt
      obtain ⟨⟨x, y, z, u⟩, hq⟩ : ∃ q, cd ts k = q := ⟨_, rfl⟩
      rw [hq] at a0 a1 a2 a3
      dsimp only at a0 a1 a2 a3
      have HQ := Lib.hid hq
      have HNX := Lib.hid (fun hn => notTo_next (ts := ts) (t := (h, v, m, d)) (k := k) HA.out (cd_ne hq hn))
      have HYS := Lib.hid (fun (e : (x, y, z, u) = (h, v, m, d)) => at_in (ts := ts) (t := (h, v, m, d)) (k := k) (by omega) (hq.trans e))
      obtain ⟨t0, t1, t2, t3⟩ := htb
      clear hbw hq hlN
      by_cases e0 : x = h
      · by_cases e1 : y = v
        · by_cases e2 : z = m
          · by_cases e3 : u = d
            · have HY := Lib.hid (HYS.out (by rw [e0, e1, e2, e3]))
              subst e0 e1 e2 e3
              go_wp2_with fail
              go_quiet (fail)
              go_wp2_with fail
              go_ret
              exact ⟨(k : Int), rfl, by rw [HY.out]; simp, below_drewN HB.out _⟩
            · have HX := Lib.hid (HNX.out (by omega))
              have f3 : (d == u) = false := by simpa using fun q => e3 q.symm
              go_wp2_with fail
              go_quiet (fail)
              go_wp2_with fail
              go_roundw
              case rel => exact ⟨k + 1, by omega, by go_num, HX.out, below_drewN HB.out _, HT.out⟩
              case measure => simp [intOf]; omega
          · have HX := Lib.hid (HNX.out (by omega))
            have f2 : (m == z) = false := by simpa using fun q => e2 q.symm
            go_wp2_with fail
            go_quiet (fail)
            go_wp2_with fail
            go_roundw
            case rel => exact ⟨k + 1, by omega, by go_num, HX.out, below_drewN HB.out _, HT.out⟩
            case measure => simp [intOf]; omega
        · have HX := Lib.hid (HNX.out (by omega))
          have f1 : (v == y) = false := by simpa using fun q => e1 q.symm
          go_wp2_with fail
          go_quiet (fail)
          go_wp2_with fail
          go_roundw
          case rel => exact ⟨k + 1, by omega, by go_num, HX.out, below_drewN HB.out _, HT.out⟩
          case measure => simp [intOf]; omega
      · have HX := Lib.hid (HNX.out (by omega))
        have f0 : (h == x) = false := by simpa using fun q => e0 q.symm
        go_wp2_with fail
        go_quiet (fail)
        go_wp2_with fail
        go_roundw
        case rel => exact ⟨k + 1, by omega, by go_num, HX.out, below_drewN HB.out _, HT.out⟩
        case measure => simp [intOf]; omega
    · obtain rfl : k = n := by omega
      have HE := Lib.hid (notTo_end (ts := ts) (t := (h, v, m, d)) (by rw [HN.out]; exact HA.out))
      clear hbw htb
      go_wp2_with fail
      go_ret
      exact ⟨-1, rfl, by rw [HE.out]; decide, HB.out⟩

theorem implContains (w : World) (B : Nat) (a : Option Addr) (n cap : Nat) (h v m d : Int) (ts : List Cd) (hr : Ths w B a n cap ts) :
    Calls Try.prog 79 #[.slice a n cap, .agg #[.int .i64 h, .int .i64 v, .int .i64 m, .int .i64 d]] w fun e w' => e = .returned (.bool (decide ((h, v, m, d) ∈ ts))) ∧ Below w.heap.size w w' := by
  have hal := cd_al w (.cells #[.int .i64 h, .int .i64 v, .int .i64 m, .int .i64 d] 29)
  have HB0 := Lib.hid hal
  have HR := Lib.hid (hr.below hal)
  clear hr hal
  go_enter Try.func79, Try.ntmps79
  go_wp2_with fail
  refine (implIndex _ _ _ _ _ _ _ _ _ _ HR.out).mono ?_
  rintro e w1 ⟨r, rfl, hd, hb1⟩
  have HD := Lib.hid hd
  have HB1 := Lib.hid (HB0.out.trans (hb1.mono HB0.out.size))
  clear hb1 hd
  go_wp2_with fail
  go_ret
  exact ⟨ret_bool (by rw [← HD.out]), HB1.out⟩

set_option maxHeartbeats 2000000 in
theorem specHas (w : World) (B : Nat) (a : Option Addr) (n cap : Nat) (h v m d : Int) (ts : List Cd) (hr : Ths w B a n cap ts) :
    Calls Try.prog 54 #[.slice a n cap, .agg #[.int .i64 h, .int .i64 v, .int .i64 m, .int .i64 d]] w fun e w' => e = .returned (.bool (decide ((h, v, m, d) ∈ ts))) ∧ Below w.heap.size w w' := by
  obtain ⟨hnc, hcm⟩ := hr.cap
  unfold maxLen at hcm
  have hln := hr.2
  have HB0 := Lib.hid (cd_al w (.cells #[.int .i64 h, .int .i64 v, .int .i64 m, .int .i64 d] 29))
  have HT0 := Lib.hid (tbox_alloc w h v m d)
  have HR := Lib.hid hr
  have HN := Lib.hid hln
  clear hr hln
  go_enter Try.func54, Try.ntmps54
  go_wp2_with fail
  go_loopw [5] (fun t wr => ∃ k : Nat, k ≤ n ∧ t = .int .i64 k ∧ NotTo ts (h, v, m, d) k ∧ Below w.heap.size w wr ∧ TBox wr w.heap.size h v m d)
    (fun t _ => n - (intOf t).toNat)
  case atStart => exact ⟨0, Nat.zero_le _, rfl, notTo_zero _ _, HB0.out, HT0.out⟩
  case round =>
    clear HB0 HT0
    obtain ⟨k, hk, rfl, hall, hbw, htb⟩ := hrel
    have HB := Lib.hid hbw
    have HA := Lib.hid hall
    have HT := Lib.hid htb
    clear hall
    by_cases hlt : k < n
    · have hlN := HN.out
      obtain ⟨g, rfl, -, a0, a1, a2, a3⟩ := (HR.out.below hbw).at k hlt
      obtain ⟨⟨x, y, z, u⟩, hq⟩ : ∃ q, cd ts k = q := ⟨_, rfl⟩
      rw [hq] at a0 a1 a2 a3
      dsimp only at a0 a1 a2 a3
      have HQ := Lib.hid hq
      have HNX := Lib.hid (fun hn => notTo_next (ts := ts) (t := (h, v, m, d)) (k := k) HA.out (cd_ne hq hn))
      have HYS := Lib.hid (fun (e : (x, y, z, u) = (h, v, m, d)) => at_in (ts := ts) (t := (h, v, m, d)) (k := k) (by omega) (hq.trans e))
      obtain ⟨t0, t1, t2, t3⟩ := htb
      clear hbw hq hlN
      by_cases e0 : x = h
      · by_cases e1 : y = v
        · by_cases e2 : z = m
          · by_cases e3 : u = d
            · have HY := Lib.hid (HYS.out (by rw [e0, e1, e2, e3]))
              subst e0 e1 e2 e3
              go_wp2_with fail
              go_quiet (fail)
              go_wp2_with fail
              go_ret
              exact ⟨ret_bool HY.out.symm, below_drewN HB.out _⟩
            · have HX := Lib.hid (HNX.out (by omega))
              have f3 : (u == d) = false := by simpa using e3
              go_wp2_with fail
              go_quiet (fail)
              go_wp2_with fail
              go_roundw
              case rel => exact ⟨k + 1, by omega, by go_num, HX.out, below_drewN HB.out _, HT.out⟩
              case measure => simp [intOf]; omega
          · have HX := Lib.hid (HNX.out (by omega))
            have f2 : (z == m) = false := by simpa using e2
            go_wp2_with fail
            go_quiet (fail)
            go_wp2_with fail
            go_roundw
            case rel => exact ⟨k + 1, by omega, by go_num, HX.out, below_drewN HB.out _, HT.out⟩
            case measure => simp [intOf]; omega
        · have HX := Lib.hid (HNX.out (by omega))
          have f1 : (y == v) = false := by simpa using e1
          go_wp2_with fail
          go_quiet (fail)
          go_wp2_with fail
          go_roundw
          case rel => exact ⟨k + 1, by omega, by go_num, HX.out, below_drewN HB.out _, HT.out⟩
          case measure => simp [intOf]; omega
      · have HX := Lib.hid (HNX.out (by omega))
        have f0 : (x == h) = false := by simpa using e0
        go_wp2_with fail
        go_quiet (fail)
        go_wp2_with fail
        go_roundw
        case rel => exact ⟨k + 1, by omega, by go_num, HX.out, below_drewN HB.out _, HT.out⟩
        case measure => simp [intOf]; omega
    · obtain rfl : k = n := by omega
      have HE := Lib.hid (notTo_end (ts := ts) (t := (h, v, m, d)) (by rw [HN.out]; exact HA.out))
      clear hbw htb
      go_wp2_with fail
      go_ret
      exact ⟨ret_bool HE.out.symm, HB.out⟩
end Go.Proofs.Ytibcalpkmjjilaa
