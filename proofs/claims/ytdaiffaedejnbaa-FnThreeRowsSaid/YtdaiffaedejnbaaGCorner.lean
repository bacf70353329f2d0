/- Corners, plainly: one step of their list, and which rows a solution fulfills; Lists of thrusts: whether one is in a list, of the program's library and of the model; Corners: the contract of the program's appendCorner; Corners: the contract of the program's CornersOf. -/
import Derived.Test.YtdaiffaedejnbaaGThree
import Derived.Test.YtdaiffaedejnbaaGCond
import Derived.Test.YtdaiffaedejnbaaGFour
import Derived.Laws.StructEq
import Derived.Test.YtdaiffaedejnbaaThreeK
import Derived.StillTailTactics
import Derived.Deep.CutRange

/- Corners, plainly: one step of their list, and which rows a solution fulfills. -/
namespace Go.Proofs.Ytdaiffaedejnbaa
set_option maxRecDepth 100000

/-- The corners, with the solution of three rows if it is one and not there yet. -/
def coAdd (rs l : List Cd) (p q r : Cd) : List Cd := if soB p q r && (!decide (soT p q r ∈ l) && coH rs (soT p q r)) then l ++ [soT p q r] else l
theorem coAdd_step (rs l : List Cd) (i k m : Nat) : coAdd rs l (cd rs i) (cd rs k) (cd rs m) = coStep rs l i k m := rfl
theorem coAdd_no {rs l : List Cd} {p q r : Cd} (h : soB p q r = false) : coAdd rs l p q r = l := by unfold coAdd; rw [h]; rfl
theorem coAdd_ful {rs l : List Cd} {p q r : Cd} (h : coH rs (soT p q r) = false) : coAdd rs l p q r = l := by unfold coAdd; rw [h]; simp
theorem coAdd_in {rs l : List Cd} {p q r : Cd} (h : decide (soT p q r ∈ l) = true) : coAdd rs l p q r = l := by unfold coAdd; rw [h]; simp
theorem coAdd_yes {rs l : List Cd} {p q r : Cd} (h : soB p q r = true) (hn : decide (soT p q r ∈ l) = false) (hf : coH rs (soT p q r) = true) : coAdd rs l p q r = l ++ [soT p q r] := by unfold coAdd; rw [h, hn, hf]; rfl
/-- Of valid rows, as many as may be, FulfillsAll says what the products say. -/
theorem coOk_ful {rs : List Cd} (hok : coOk rs = true) {p q r : Cd} (h : soB p q r = true) : fulAll (soT p q r).1 (soT p q r).2.1 (soT p q r).2.2.1 (soT p q r).2.2.2 rs = coH rs (soT p q r) := by
  unfold coOk at hok
  rw [Bool.and_eq_true] at hok
  have hn := inR_iff.1 hok.2
  rw [fulAll_yes (inR_iff.2 (by omega)) (soB_okT h), Bool.eq_iff_iff]
  unfold coH
  rw [allV_iff, allV_iff]
  refine ⟨fun hh x hx => ?_, fun hh x hx => ?_⟩
  · have := hh x hx
    unfold cdFAt cdF at this
    rw [Bool.and_eq_true] at this
    exact this.2
  · unfold cdFAt cdF
    rw [Bool.and_eq_true]
    exact ⟨allV_iff.1 hok.1 x hx, hh x hx⟩
end Go.Proofs.Ytdaiffaedejnbaa

/- Lists of thrusts: whether one is in a list, of the program's library and of the model. -/
namespace Go.Proofs.Ytdaiffaedejnbaa
set_option maxRecDepth 100000
open Go.ChangeShapes Go.WideShapes Go.ChangeAt Go.RowKit

/-- A thrust is none of the first k. -/
def NotTo (ts : List Cd) (t : Cd) (k : Nat) : Prop := ∀ j, j < k → cd ts j ≠ t
theorem notTo_zero (ts : List Cd) (t : Cd) : NotTo ts t 0 := fun j hj => absurd hj (Nat.not_lt_zero j)
theorem notTo_next {ts : List Cd} {t : Cd} {k : Nat} (h : NotTo ts t k) (hn : cd ts k ≠ t) : NotTo ts t (k + 1) := fun j hj => if e : j = k then by rw [e]; exact hn else h j (by omega)
theorem notTo_end {ts : List Cd} {t : Cd} (h : NotTo ts t ts.length) : decide (t ∈ ts) = false := by
  rw [decide_eq_false_iff_not]
  intro hm
  obtain ⟨j, hj, e⟩ := List.mem_iff_getElem.1 hm
  exact h j hj ((cd_get hj).trans e)
theorem at_in {ts : List Cd} {t : Cd} {k : Nat} (hk : k < ts.length) (h : cd ts k = t) : decide (t ∈ ts) = true := by
  rw [decide_eq_true_iff, ← h, cd_get hk]
  exact List.getElem_mem hk
theorem cd_ne {ts : List Cd} {k : Nat} {h v m d x y z u : Int} (e : cd ts k = (x, y, z, u)) (hn : ¬ (x = h ∧ y = v ∧ z = m ∧ u = d)) : cd ts k ≠ (h, v, m, d) := by
  rw [e]; intro he; simp only [Prod.mk.injEq] at he; exact hn he

set_option maxHeartbeats 2000000 in
theorem implIndex (w : World) (B : Nat) (a : Option Addr) (n cap : Nat) (h v m d : Int) (ts : List Cd) (hr : Ths w B a n cap ts) :
    Calls Try.prog 86 #[.slice a n cap, .agg #[.int .i64 h, .int .i64 v, .int .i64 m, .int .i64 d]] w fun e w' => ∃ r : Int, e = .returned (.int .i64 r) ∧ decide (r ≥ 0) = decide ((h, v, m, d) ∈ ts) ∧ Below w.heap.size w w' := by
  obtain ⟨hnc, hcm⟩ := hr.cap
  unfold maxLen at hcm
  have hln := hr.2
  have HB0 := Lib.hid (cd_al w (.cells #[.int .i64 h, .int .i64 v, .int .i64 m, .int .i64 d] 29))
  have HT0 := Lib.hid (tbox_alloc w h v m d)
  have HR := Lib.hid hr
  have HN := Lib.hid hln
  clear hr hln
  go_enter Try.func86, Try.ntmps86
  go_wp2_with fail
  go_loopw [8] (fun t wr => ∃ k : Nat, k ≤ n ∧ t = .int .i64 k ∧ NotTo ts (h, v, m, d) k ∧ Below w.heap.size w wr ∧ TBox wr w.heap.size h v m d)
    (fun t _ => n - (intOf t).toNat)
  case atStart => exact ⟨0, Nat.zero_le _, rfl, notTo_zero _ _, HB0.out, HT0.out⟩
  case round =>
    clear HB0 HT0
    obtain ⟨k, hk, rfl, hall, hbw, htb⟩ := hrel
    have HB := Lib.hid hbw
    have HA := Lib.hid hall
    have HT := Lib.hid htb
    clear hall
    by_cases hlt : k < n
    · have hlN := HN.out
      obtain ⟨g, rfl, -, a0, a1, a2, a3⟩ := (HR.out.below hbw).at k hlt
      obtain ⟨⟨x, y, z, u⟩, hq⟩ : ∃ q, cd ts k = q := ⟨_, rfl⟩
      rw [hq] at a0 a1 a2 a3
      dsimp only at a0 a1 a2 a3
      have HQ := Lib.hid hq
      have HNX := Lib.hid (fun hn => notTo_next (ts := ts) (t := (h, v, m, d)) (k := k) HA.out (cd_ne hq hn))
      have HYS := Lib.hid (fun (e : (x, y, z, u) = (h, v, m, d)) => at_in (ts := ts) (t := (h, v, m, d)) (k := k) (by omega) (hq.trans e))
      obtain ⟨t0, t1, t2, t3⟩ := htb
      clear hbw hq hlN
      by_cases e0 : x = h
      · by_cases e1 : y = v
        · by_cases e2 : z = m
          · by_cases e3 : u = d
            · have HY := Lib.hid (HYS.out (by rw [e0, e1, e2, e3]))
              subst e0 e1 e2 e3
              go_wp2_with fail
              go_quiet (fail)
              go_wp2_with fail
              go_ret
              exact ⟨(k : Int), rfl, by rw [HY.out]; simp, below_drewN HB.out _⟩
            · have HX := Lib.hid (HNX.out (by omega))
              have f3 : (d == u) = false := by simpa using fun q => e3 q.symm
              go_wp2_with fail
              go_quiet (fail)
              go_wp2_with fail
              go_roundw
              case rel => exact ⟨k + 1, by omega, by go_num, HX.out, below_drewN HB.out _, HT.out⟩
              case measure => simp [intOf]; omega
          · have HX := Lib.hid (HNX.out (by omega))
            have f2 : (m == z) = false := by simpa using fun q => e2 q.symm
            go_wp2_with fail
            go_quiet (fail)
            go_wp2_with fail
            go_roundw
            case rel => exact ⟨k + 1, by omega, by go_num, HX.out, below_drewN HB.out _, HT.out⟩
            case measure => simp [intOf]; omega
        · have HX := Lib.hid (HNX.out (by omega))
          have f1 : (v == y) = false := by simpa using fun q => e1 q.symm
          go_wp2_with fail
          go_quiet (fail)
          go_wp2_with fail
          go_roundw
          case rel => exact ⟨k + 1, by omega, by go_num, HX.out, below_drewN HB.out _, HT.out⟩
          case measure => simp [intOf]; omega
      · have HX := Lib.hid (HNX.out (by omega))
        have f0 : (h == x) = false := by simpa using fun q => e0 q.symm
        go_wp2_with fail
        go_quiet (fail)
        go_wp2_with fail
        go_roundw
        case rel => exact ⟨k + 1, by omega, by go_num, HX.out, below_drewN HB.out _, HT.out⟩
        case measure => simp [intOf]; omega
    · obtain rfl : k = n := by omega
      have HE := Lib.hid (notTo_end (ts := ts) (t := (h, v, m, d)) (by rw [HN.out]; exact HA.out))
      clear hbw htb
      go_wp2_with fail
      go_ret
      exact ⟨-1, rfl, by rw [HE.out]; decide, HB.out⟩

theorem implContains (w : World) (B : Nat) (a : Option Addr) (n cap : Nat) (h v m d : Int) (ts : List Cd) (hr : Ths w B a n cap ts) :
    Calls Try.prog 76 #[.slice a n cap, .agg #[.int .i64 h, .int .i64 v, .int .i64 m, .int .i64 d]] w fun e w' => e = .returned (.bool (decide ((h, v, m, d) ∈ ts))) ∧ Below w.heap.size w w' := by
  have hal := cd_al w (.cells #[.int .i64 h, .int .i64 v, .int .i64 m, .int .i64 d] 29)
  have HB0 := Lib.hid hal
  have HR := Lib.hid (hr.below hal)
  clear hr hal
  go_enter Try.func76, Try.ntmps76
  go_wp2_with fail
  refine (implIndex _ _ _ _ _ _ _ _ _ _ HR.out).mono ?_
  rintro e w1 ⟨r, rfl, hd, hb1⟩
  have HD := Lib.hid hd
  have HB1 := Lib.hid (HB0.out.trans (hb1.mono HB0.out.size))
  clear hb1 hd
  go_wp2_with fail
  go_ret
  exact ⟨ret_bool (by rw [← HD.out]), HB1.out⟩

set_option maxHeartbeats 2000000 in
theorem specHas (w : World) (B : Nat) (a : Option Addr) (n cap : Nat) (h v m d : Int) (ts : List Cd) (hr : Ths w B a n cap ts) :
    Calls Try.prog 56 #[.slice a n cap, .agg #[.int .i64 h, .int .i64 v, .int .i64 m, .int .i64 d]] w fun e w' => e = .returned (.bool (decide ((h, v, m, d) ∈ ts))) ∧ Below w.heap.size w w' := by
  obtain ⟨hnc, hcm⟩ := hr.cap
  unfold maxLen at hcm
  have hln := hr.2
  have HB0 := Lib.hid (cd_al w (.cells #[.int .i64 h, .int .i64 v, .int .i64 m, .int .i64 d] 29))
  have HT0 := Lib.hid (tbox_alloc w h v m d)
  have HR := Lib.hid hr
  have HN := Lib.hid hln
  clear hr hln
  go_enter Try.func56, Try.ntmps56
  go_wp2_with fail
  go_loopw [5] (fun t wr => ∃ k : Nat, k ≤ n ∧ t = .int .i64 k ∧ NotTo ts (h, v, m, d) k ∧ Below w.heap.size w wr ∧ TBox wr w.heap.size h v m d)
    (fun t _ => n - (intOf t).toNat)
  case atStart => exact ⟨0, Nat.zero_le _, rfl, notTo_zero _ _, HB0.out, HT0.out⟩
  case round =>
    clear HB0 HT0
    obtain ⟨k, hk, rfl, hall, hbw, htb⟩ := hrel
    have HB := Lib.hid hbw
    have HA := Lib.hid hall
    have HT := Lib.hid htb
    clear hall
    by_cases hlt : k < n
    · have hlN := HN.out
      obtain ⟨g, rfl, -, a0, a1, a2, a3⟩ := (HR.out.below hbw).at k hlt
      obtain ⟨⟨x, y, z, u⟩, hq⟩ : ∃ q, cd ts k = q := ⟨_, rfl⟩
      rw [hq] at a0 a1 a2 a3
      dsimp only at a0 a1 a2 a3
      have HQ := Lib.hid hq
      have HNX := Lib.hid (fun hn => notTo_next (ts := ts) (t := (h, v, m, d)) (k := k) HA.out (cd_ne hq hn))
      have HYS := Lib.hid (fun (e : (x, y, z, u) = (h, v, m, d)) => at_in (ts := ts) (t := (h, v, m, d)) (k := k) (by omega) (hq.trans e))
      obtain ⟨t0, t1, t2, t3⟩ := htb
      clear hbw hq hlN
      by_cases e0 : x = h
      · by_cases e1 : y = v
        · by_cases e2 : z = m
          · by_cases e3 : u = d
            · have HY := Lib.hid (HYS.out (by rw [e0, e1, e2, e3]))
              subst e0 e1 e2 e3
              go_wp2_with fail
              go_quiet (fail)
              go_wp2_with fail
              go_ret
              exact ⟨ret_bool HY.out.symm, below_drewN HB.out _⟩
            · have HX := Lib.hid (HNX.out (by omega))
              have f3 : (u == d) = false := by simpa using e3
              go_wp2_with fail
              go_quiet (fail)
              go_wp2_with fail
              go_roundw
              case rel => exact ⟨k + 1, by omega, by go_num, HX.out, below_drewN HB.out _, HT.out⟩
              case measure => simp [intOf]; omega
          · have HX := Lib.hid (HNX.out (by omega))
            have f2 : (z == m) = false := by simpa using e2
            go_wp2_with fail
            go_quiet (fail)
            go_wp2_with fail
            go_roundw
            case rel => exact ⟨k + 1, by omega, by go_num, HX.out, below_drewN HB.out _, HT.out⟩
            case measure => simp [intOf]; omega
        · have HX := Lib.hid (HNX.out (by omega))
          have f1 : (y == v) = false := by simpa using e1
          go_wp2_with fail
          go_quiet (fail)
          go_wp2_with fail
          go_roundw
          case rel => exact ⟨k + 1, by omega, by go_num, HX.out, below_drewN HB.out _, HT.out⟩
          case measure => simp [intOf]; omega
      · have HX := Lib.hid (HNX.out (by omega))
        have f0 : (x == h) = false := by simpa using e0
        go_wp2_with fail
        go_quiet (fail)
        go_wp2_with fail
        go_roundw
        case rel => exact ⟨k + 1, by omega, by go_num, HX.out, below_drewN HB.out _, HT.out⟩
        case measure => simp [intOf]; omega
    · obtain rfl : k = n := by omega
      have HE := Lib.hid (notTo_end (ts := ts) (t := (h, v, m, d)) (by rw [HN.out]; exact HA.out))
      clear hbw htb
      go_wp2_with fail
      go_ret
      exact ⟨ret_bool HE.out.symm, HB.out⟩
end Go.Proofs.Ytdaiffaedejnbaa

/- Corners: the contract of the program's appendCorner. -/
namespace Go.Proofs.Ytdaiffaedejnbaa
set_option maxRecDepth 100000
open Go.ChangeShapes Go.WideShapes Go.ChangeAt Go.RowKit

theorem g_of_below {w w' : World} (h : Below w.heap.size w w') (r : Option Nat) : w.grownBy w' r := ⟨h.os, h.tape, h.output, h.size, fun k hk _ => h.block k hk⟩
theorem g_trans {a b c : World} {r : Option Nat} (h : a.grownBy b r) (k : b.grownBy c r) : a.grownBy c r :=
  ⟨k.os.trans h.os, k.tape.trans h.tape, k.output.trans h.output, Nat.le_trans h.size k.size, fun j hj hne => (k.block j (Nat.lt_of_lt_of_le hj h.size) hne).trans (h.block j hj hne)⟩
theorem Try.infoTr : (Try.prog.info? 29).map (fun i => (i.zero, i.size, i.bytes)) = some (some (.agg #[.int .i64 0, .int .i64 0, .int .i64 0, .int .i64 0]), 4, 32) := by kernel_rfl
/-- A value's own block is another one, or one that was made since. -/
def OwnNew (w : World) (v v' : Value) : Prop := v'.ownBlock = v.ownBlock ∨ ∃ g, v'.ownBlock = some g ∧ w.heap.size ≤ g
/-- The list of corners as it is handed back. -/
def CoAns (w : World) (B : Nat) (v : Value) (l : List Cd) (e : Ending) (w' : World) : Prop := ∃ v', e = .returned v' ∧ ThRow w' B v' l ∧ w.grownBy w' v.ownBlock ∧ OwnNew w v v'

set_option maxRecDepth 100000 in
set_option maxHeartbeats 4000000 in
theorem appendCorner (w : World) (B B2 n cap m rc : Nat) (a ra : Option Addr) (l rs : List Cd) (a1 b1 c1 d1 a2 b2 c2 d2 a3 b3 c3 d3 : Int) (hl : Ths w B a n cap l) (hB : B ≤ w.heap.size) (hn : n ≤ 1000000) (hr : Cds w B2 ra m rc rs) (hok : coOk rs = true) :
    Calls Try.prog 54 #[.slice a n cap, .slice ra m rc, .agg #[.int .i64 a1, .int .i64 b1, .int .i64 c1, .int .i64 d1, .int .i64 a2, .int .i64 b2, .int .i64 c2, .int .i64 d2, .int .i64 a3, .int .i64 b3, .int .i64 c3, .int .i64 d3]] w (CoAns w B (.slice a n cap) (coAdd rs l (a1, b1, c1, d1) (a2, b2, c2, d2) (a3, b3, c3, d3))) := by
  obtain ⟨i0, hi0, hz0, hz1, hz2⟩ := info_parts Try.infoTr
  obtain ⟨hcc, hcm⟩ := hl.cap
  unfold maxLen at hcm
  have hal := cd_al w (.cells #[.int .i64 a1, .int .i64 b1, .int .i64 c1, .int .i64 d1, .int .i64 a2, .int .i64 b2, .int .i64 c2, .int .i64 d2, .int .i64 a3, .int .i64 b3, .int .i64 c3, .int .i64 d3] 73)
  have HB0 := Lib.hid hal
  have HL0 := Lib.hid (hl.below hal)
  have HR0 := Lib.hid (hr.below hal)
  have HBB := Lib.hid hB
  have HLL := Lib.hid hl.2
  have HS := Lib.hid (fun w => implSolveRows a1 b1 c1 d1 a2 b2 c2 d2 a3 b3 c3 d3 w)
  have HF := Lib.hid (fun (h : soB (a1, b1, c1, d1) (a2, b2, c2, d2) (a3, b3, c3, d3) = true) => coOk_ful hok h)
  have HA := Lib.hid (coAdd_no (rs := rs) (l := l) (p := (a1, b1, c1, d1)) (q := (a2, b2, c2, d2)) (r := (a3, b3, c3, d3)))
  have HC := Lib.hid (coAdd_ful (rs := rs) (l := l) (p := (a1, b1, c1, d1)) (q := (a2, b2, c2, d2)) (r := (a3, b3, c3, d3)))
  have HD := Lib.hid (coAdd_in (rs := rs) (l := l) (p := (a1, b1, c1, d1)) (q := (a2, b2, c2, d2)) (r := (a3, b3, c3, d3)))
  have HY := Lib.hid (coAdd_yes (rs := rs) (l := l) (p := (a1, b1, c1, d1)) (q := (a2, b2, c2, d2)) (r := (a3, b3, c3, d3)))
  have hv : slvV (a1, b1, c1, d1) (a2, b2, c2, d2) (a3, b3, c3, d3) = .tuple #[.agg #[.int .i64 (soT (a1, b1, c1, d1) (a2, b2, c2, d2) (a3, b3, c3, d3)).1, .int .i64 (soT (a1, b1, c1, d1) (a2, b2, c2, d2) (a3, b3, c3, d3)).2.1, .int .i64 (soT (a1, b1, c1, d1) (a2, b2, c2, d2) (a3, b3, c3, d3)).2.2.1, .int .i64 (soT (a1, b1, c1, d1) (a2, b2, c2, d2) (a3, b3, c3, d3)).2.2.2], .bool (soB (a1, b1, c1, d1) (a2, b2, c2, d2) (a3, b3, c3, d3))] := rfl
  rw [hv] at HS
  obtain ⟨⟨th, tv, tm, td⟩, ht⟩ : ∃ t, soT (a1, b1, c1, d1) (a2, b2, c2, d2) (a3, b3, c3, d3) = t := ⟨_, rfl⟩
  obtain ⟨o, ho⟩ : ∃ o, soB (a1, b1, c1, d1) (a2, b2, c2, d2) (a3, b3, c3, d3) = o := ⟨_, rfl⟩
  rw [ht, ho] at HS HF
  rw [ht] at HC HD HY
  rw [ho] at HA HY
  dsimp only at HS HF
  obtain ⟨l2, hl2⟩ : ∃ l2, coAdd rs l (a1, b1, c1, d1) (a2, b2, c2, d2) (a3, b3, c3, d3) = l2 := ⟨_, rfl⟩
  rw [hl2] at HA HC HD HY ⊢
  clear hl hr hal hv ht ho hl2 hok
  go_enter Try.func54, Try.ntmps54
  go_wp2_with fail
  refine (HS.out _).mono ?_
  rintro e w1 ⟨rfl, hb1⟩
  have hal1 := cd_al w1 (.cells #[.int .i64 th, .int .i64 tv, .int .i64 tm, .int .i64 td] 29)
  have hb2 := HB0.out.trans (hb1.mono HB0.out.size)
  have HB2 := Lib.hid (hb2.trans (hal1.mono hb2.size))
  have HL2 := Lib.hid ((HL0.out.below hb1).below hal1)
  have HR2 := Lib.hid ((HR0.out.below hb1).below hal1)
  have HTB := Lib.hid (tbox_alloc w1 th tv tm td)
  clear hb1 hal1 hb2 HB0 HL0 HR0
  cases o
  · have HX := Lib.hid (HA.out (by first | rfl | trivial))
    go_wp2_with fail
    go_ret
    exact ⟨_, rfl, by rw [HX.out]; exact (show Ths _ _ _ _ _ _ from HL2.out).2 ▸ HL2.out.1, g_of_below HB2.out _, .inl rfl⟩
  go_wp2_with fail
  refine (implFulfillsAll _ _ _ _ _ _ _ _ _ rs HR2.out).mono ?_
  rintro e w3 ⟨rfl, hb3⟩
  rw [HF.out (by trivial)]
  have HB3 := Lib.hid (HB2.out.trans (hb3.mono HB2.out.size))
  have HL3 := Lib.hid (HL2.out.below hb3)
  have HT3 := Lib.hid (HTB.out.below hb3)
  clear hb3 HB2 HL2 HTB HR2
  cases hf : coH rs (th, tv, tm, td)
  · have HX := Lib.hid (HC.out hf)
    go_wp2_with fail
    go_ret
    exact ⟨_, rfl, by rw [HX.out]; exact HL3.out.2 ▸ HL3.out.1, g_of_below HB3.out _, .inl rfl⟩
  obtain ⟨t0, t1, t2, t3⟩ := id HT3.out
  go_wp2_with fail
  refine (implContains _ _ _ _ _ _ _ _ _ l HL3.out).mono ?_
  rintro e w4 ⟨rfl, hb4⟩
  have HB4 := Lib.hid (HB3.out.trans (hb4.mono HB3.out.size))
  have HL4 := Lib.hid (HL3.out.below hb4)
  have HT4 := Lib.hid (HT3.out.below hb4)
  clear hb4 HB3 HL3 HT3 t0 t1 t2 t3
  cases hm : decide ((th, tv, tm, td) ∈ l)
  · have HX := Lib.hid (HY.out (by first | rfl | trivial) hm hf)
    have hwz := HB4.out.size
    have hBB := HBB.out
    obtain ⟨t0, t1, t2, t3⟩ := id HT4.out
    have HO := Lib.hid (show w4.ownsRow B 29 4 (.slice a n cap) n (flat4 l) from by have := HL4.out.1; unfold ThRow at this; rwa [HLL.out] at this)
    clear hm hf
    go_wp2_with (at_builtin; refine wpList_append_lies _ rfl _ _ _ rfl B 29 i0 _ 4 32 Try.underlying45 hi0 hz0 hz1 hz2 rfl (by omega) (.slice a n cap) n (flat4 l) (by rfl) (World.ownsRow.alloc HO.out _) ⟨w4.heap.size, 0, none⟩ 1 1 [.int .i64 th, .int .i64 tv, .int .i64 tm, .int .i64 td] (by rfl) (by rfl) (World.news_of_block (cs := #[.int .i64 th, .int .i64 tv, .int .i64 tm, .int .i64 td]) (t := 29) (fr := (0, 0)) (heap_alloc_new w4 _)) (by simp [Value.oneCell']) (by omega) (by unfold maxLen; omega) (by omega) (by simp; omega) (w4.heap.size + 1) (by simp) ?_; intro gg cp w5 hown5 hgrow5 hat5 hgl5; have HO5 := Lib.hid hown5; have HG5 := Lib.hid hgrow5; have HT5 := Lib.hid hat5; clear hown5 hgrow5 hat5)
    go_ret
    refine ⟨_, rfl, ?_, ?_, ?_⟩
    · unfold ThRow
      rw [HX.out, flat4_one, List.length_append, HLL.out]
      exact HO5.out
    · exact g_trans (g_of_below (cal HB4.out _) _) HG5.out
    · rcases HT5.out with h | h
      · exact .inl h.symm
      · exact .inr ⟨gg, rfl, by omega⟩
  · have HX := Lib.hid (HD.out hm)
    clear hm hf
    go_wp2_with fail
    go_ret
    exact ⟨_, rfl, by rw [HX.out]; exact HL4.out.2 ▸ HL4.out.1, g_of_below HB4.out _, .inl rfl⟩
end Go.Proofs.Ytdaiffaedejnbaa

/- Corners: the contract of the program's CornersOf. -/
namespace Go.Proofs.Ytdaiffaedejnbaa
set_option maxRecDepth 100000
open Go.ChangeShapes Go.WideShapes Go.ChangeAt Go.RowKit

theorem coOk_of {rs : List Cd} {n : Nat} (h : rs.length = n) (hn : inR (n : Int) 3 20 = true) (hc : cdsOk rs = true) : coOk rs = true := by
  unfold coOk; rw [h, hn, Bool.and_true, ← h]; exact hc
theorem coOk_n {rs : List Cd} {n : Nat} (h : rs.length = n) (hn : inR (n : Int) 3 20 = false) : coOk rs = false := by
  unfold coOk; rw [h, hn, Bool.and_false]
theorem coOk_c {rs : List Cd} (hc : cdsOk rs = false) : coOk rs = false := by
  unfold coOk; rw [show allV rs.length (fun x => okR (cd rs x)) = false from hc]; rfl
theorem thsOf {w : World} {B : Nat} {v : Value} {l : List Cd} (h : ThRow w B v l) : ∃ a n cap, v = .slice a n cap ∧ Ths w B a n cap l := by
  obtain ⟨a, cap, rfl, -, -⟩ := throw_slice h
  exact ⟨a, l.length, cap, rfl, h, rfl⟩
theorem ths_ne {w : World} {B n cap : Nat} {a : Option Addr} {l : List Cd} (h : Ths w B a n cap l) : some w.heap.size ≠ (Value.slice a n cap).ownBlock := fun he => by
  have := (World.ownsRow.lt h.1 _ he.symm).2
  omega
theorem rbox_alloc (w : World) (h v m d : Int) : TBox (w.alloc (.cells #[.int .i64 h, .int .i64 v, .int .i64 m, .int .i64 d] 25)) w.heap.size h v m d := by
  refine ⟨?_, ?_, ?_, ?_⟩ <;> go_simp
/-- What is kept behind a step: below the base all, and a box that is not the list's. -/
theorem below_rowed {w x y : World} {B : Nat} {row : Option Nat} (h : Below B w x) (hg : x.grownBy y row) (hB : B ≤ x.heap.size) (hr : ∀ j, row = some j → B ≤ j) : Below B w y :=
  h.grown hg hB (fun j hj => hr j hj)

set_option maxRecDepth 100000 in
set_option maxHeartbeats 8000000 in
theorem implCornersOf (w : World) (B : Nat) (ra : Option Addr) (m rc : Nat) (rs : List Cd) (hr : Cds w B ra m rc rs) :
    Calls Try.prog 19 #[.slice ra m rc] w fun e w' => ∃ v, e = .returned v ∧ ThRow w' w.heap.size v (coV rs) ∧ Below w.heap.size w w' := by
  obtain ⟨hnc, hcm⟩ := hr.cap
  unfold maxLen at hcm
  have HN := Lib.hid hr.2
  have HR := Lib.hid hr
  have HC := Lib.hid (fun w => isBetweenR (m : Int) 3 20 w (by omega))
  cases hn : inR (m : Int) 3 20
  · have HV := Lib.hid (coV_no (coOk_n hr.2 hn))
    clear hr
    go_enter Try.func19, Try.ntmps19
    go_wp2_with fail
    refine (HC.out _).mono ?_
    rintro e w1 ⟨rfl, rfl⟩
    rw [hn]
    go_wp2_with fail
    go_ret
    exact ⟨_, rfl, by rw [HV.out]; exact ThRow.nil _ _, Below.refl _ _⟩
  cases hc : cdsOk rs
  · have HV := Lib.hid (coV_no (coOk_c hc))
    clear hr
    go_enter Try.func19, Try.ntmps19
    go_wp2_with fail
    refine (HC.out _).mono ?_
    rintro e w1 ⟨rfl, rfl⟩
    rw [hn]
    go_wp2_with fail
    refine (areValidRows _ _ _ _ _ rs HR.out).mono ?_
    rintro e w1 ⟨rfl, hb1⟩
    rw [hc]
    go_wp2_with fail
    go_ret
    exact ⟨_, rfl, by rw [HV.out]; exact ThRow.nil _ _, hb1⟩
  have hok := coOk_of hr.2 hn hc
  have HOK := Lib.hid hok
  have HV := Lib.hid (show coV rs = coI rs m by rw [coV_yes hok, hr.2])
  have HVL := Lib.hid (fun k (hk : k ≤ m) => coI_len rs k)
  have h3 := inR_iff.1 hn
  obtain ⟨g, rfl, -⟩ := hr.at 0 (by omega)
  have HCC := Lib.hid hc
  clear hr hok hc
  go_enter Try.func19, Try.ntmps19
  go_wp2_with fail
  refine (HC.out _).mono ?_
  rintro e w1 ⟨rfl, rfl⟩
  rw [hn]
  go_wp2_with fail
  refine (areValidRows _ _ _ _ _ rs HR.out).mono ?_
  rintro e w1 ⟨rfl, hb1⟩
  rw [HCC.out]
  have HB1 := Lib.hid hb1
  clear hb1 HCC HC hn
  go_wp2_with fail
  go_loopw [3, 4, 20] (fun q _ t wr => ∃ (i : Nat) (a : Option Addr) (n cap : Nat), i ≤ m ∧ t = .int .i64 i ∧ q = .slice a n cap ∧ Ths wr w.heap.size a n cap (coI rs i) ∧ Below w.heap.size w wr)
    (fun _ _ t _ => m - (intOf t).toNat)
  case atStart => exact ⟨0, none, 0, 0, Nat.zero_le _, rfl, rfl, ⟨ThRow.nil _ _, rfl⟩, HB1.out⟩
  case round =>
    clear HB1
    obtain ⟨i, a, n, cap, hi, rfl, rfl, hth, hbw⟩ := hrel
    have HB := Lib.hid hbw
    have HT := Lib.hid hth
    by_cases hlt : i < m
    · obtain ⟨g', hg', -, a0, a1, a2, a3⟩ := (HR.out.below hbw).at i hlt
      simp only [Option.some.injEq, Addr.mk.injEq, and_true] at hg'
      subst hg'
      obtain ⟨⟨px, py, pz, pu⟩, hp⟩ : ∃ q, cd rs i = q := ⟨_, rfl⟩
      rw [hp] at a0 a1 a2 a3
      dsimp only at a0 a1 a2 a3
      have HP := Lib.hid hp
      have hal := cd_al wr (.cells #[.int .i64 px, .int .i64 py, .int .i64 pz, .int .i64 pu] 25)
      have HBZ := Lib.hid (hbw.trans (hal.mono hbw.size))
      have HTZ := Lib.hid (hth.below hal)
      have HPZ := Lib.hid (rbox_alloc wr px py pz pu)
      have HNE := Lib.hid (ths_ne hth)
      have HBW := Lib.hid hbw.size
      have HNI := Lib.hid (coI_next rs i)
      clear hp hal hbw hth
      go_wp2_with fail
      rename World => wo
      go_loopw [3, 6] (fun q t w2 => ∃ (k : Nat) (a : Option Addr) (n cap : Nat), i < k ∧ k ≤ m ∧ t = .int .i64 k ∧ q = .slice a n cap ∧ Ths w2 w.heap.size a n cap (coK rs i (coI rs i) k) ∧ Below w.heap.size w w2 ∧ TBox w2 wo.heap.size px py pz pu ∧ some wo.heap.size ≠ (Value.slice a n cap).ownBlock)
        (fun _ t _ => m - (intOf t).toNat)
      case atStart => exact ⟨i + 1, a, n, cap, Nat.lt_succ_self _, hlt, by go_num, rfl, by rw [coK_low _ _ _ _ (Nat.le_refl _)]; exact HTZ.out, HBZ.out, HPZ.out, HNE.out⟩
      case round =>
        clear HTZ HBZ HPZ HNE a0 a1 a2 a3
        obtain ⟨k, a2, n2, cap2, hik, hkm, rfl, rfl, hth, hbw, htb, hne⟩ := hrel
        have HB2 := Lib.hid hbw
        have HT2 := Lib.hid hth
        have HTB := Lib.hid htb
        have HNE := Lib.hid hne
        clear hne htb hth
        by_cases hlt2 : k < m
        · have HK2 := Lib.hid (coK_next rs i (coI rs i) k hik)
          by_cases hmk : m = k + 1
          · have HM := Lib.hid (show coM rs i k (coK rs i (coI rs i) k) rs.length = coK rs i (coI rs i) k from coM_low _ _ _ _ _ (by rw [HN.out, hmk]; exact Nat.le_refl _))
            have hz : m - (k + 1) = 0 := by omega
            have hkm2 : k + 1 ≤ m := hlt2
            clear hbw hmk
            by_cases hrc : rc = k + 1
            · subst hrc
              go_wp2_with fail
              refine wp_loop_rounds 1 ?_
              rw [rounds_succ]
              go_wp2_with fail
              go_roundw
              case rel => exact ⟨k + 1, a2, n2, cap2, Nat.lt_succ_of_lt hik, hlt2, by go_num, rfl, by rw [HK2.out, HM.out]; exact HT2.out, HB2.out, HTB.out, HNE.out⟩
              case measure => simp [intOf]; omega
            · go_wp2_with fail
              refine wp_loop_rounds 1 ?_
              rw [rounds_succ]
              go_wp2_with fail
              go_roundw
              case rel => exact ⟨k + 1, a2, n2, cap2, Nat.lt_succ_of_lt hik, hlt2, by go_num, rfl, by rw [HK2.out, HM.out]; exact HT2.out, HB2.out, HTB.out, HNE.out⟩
              case measure => simp [intOf]; omega
          · have hrc : ¬ rc = k + 1 := by omega
            have hrc2 : k + 1 < rc := by omega
            clear hbw
            go_wp2_with fail
            obtain ⟨L2, hL2⟩ : ∃ L2, coK rs i (coI rs i) k = L2 := ⟨_, rfl⟩
            rw [hL2] at HK2 HT2
            have HLL := Lib.hid hL2
            have HLN := Lib.hid (show (coK rs i (coI rs i) k).length ≤ 8000 by
              have h1 := coK_len rs (coI rs i) i k
              have h2 := HVL.out i hi
              rw [HN.out] at h1 h2
              have h4 : m * m ≤ 20 * 20 := Nat.mul_le_mul (by omega) (by omega)
              have h5 : i * (m * m) ≤ 19 * (20 * 20) := Nat.mul_le_mul (by omega) h4
              have h6 : k * m ≤ 20 * 20 := Nat.mul_le_mul (by omega) (by omega)
              omega)
            rw [hL2] at HLN
            clear hL2
            rename World => w2
            go_loopw [3, 38] (fun q t w3 => ∃ (j : Nat) (a : Option Addr) (n cap : Nat), k + 1 + j ≤ m ∧ t = .int .i64 j ∧ q = .slice a n cap ∧ Ths w3 w.heap.size a n cap (coM rs i k L2 (k + 1 + j)) ∧ Below w.heap.size w w3 ∧ TBox w3 wo.heap.size px py pz pu ∧ some wo.heap.size ≠ (Value.slice a n cap).ownBlock)
              (fun _ t _ => m - (intOf t).toNat)
            case atStart => exact ⟨0, a2, n2, cap2, hlt2, rfl, rfl, by rw [coM_low _ _ _ _ _ (Nat.le_refl _)]; exact HT2.out, HB2.out, HTB.out, HNE.out⟩
            case round =>
              clear HT2 HB2 HTB HNE
              obtain ⟨j, a3', n3, cap3, hj, rfl, rfl, hth, hbw, htb, hne⟩ := hrel
              have HB3 := Lib.hid hbw
              have HT3 := Lib.hid hth
              have HTB3 := Lib.hid htb
              have HNE3 := Lib.hid hne
              have HM3 := Lib.hid (show coM rs i k L2 (k + 1 + j + 1) = coStep rs (coM rs i k L2 (k + 1 + j)) i k (k + 1 + j) from coM_next _ _ _ _ _ (by omega))
              by_cases hlt3 : k + 1 + j < m
              · obtain ⟨g', hg', -, r0, r1, r2, r3⟩ := (HR.out.below hbw).at (k + 1 + j) hlt3
                simp only [Option.some.injEq, Addr.mk.injEq, and_true] at hg'
                subst hg'
                obtain ⟨g', hg', -, k0, k1, k2, k3⟩ := (HR.out.below hbw).at k hlt2
                simp only [Option.some.injEq, Addr.mk.injEq, and_true] at hg'
                subst hg'
                rw [show (k + 1 + j) * 4 = (k + 1) * 4 + j * 4 by omega] at r0 r1 r2 r3
                obtain ⟨⟨rx, ry, rz, ru⟩, hrq⟩ : ∃ q, cd rs (k + 1 + j) = q := ⟨_, rfl⟩
                rw [hrq] at r0 r1 r2 r3
                obtain ⟨⟨kx, ky, kz, ku⟩, hkq⟩ : ∃ q, cd rs k = q := ⟨_, rfl⟩
                rw [hkq] at k0 k1 k2 k3
                dsimp only at r0 r1 r2 r3 k0 k1 k2 k3
                have HST := Lib.hid (show coAdd rs (coM rs i k L2 (k + 1 + j)) (px, py, pz, pu) (kx, ky, kz, ku) (rx, ry, rz, ru) = coM rs i k L2 (k + 1 + j + 1) by
                  rw [HM3.out, ← coAdd_step, HP.out, hkq, hrq])
                have HN3 := Lib.hid (show n3 ≤ 1000000 by
                  have h1 := coM_len rs L2 i k (k + 1 + j)
                  have h2 := HLN.out
                  have h4 := hth.2
                  omega)
                have hal := cd_al wr (.cells #[.int .i64 rx, .int .i64 ry, .int .i64 rz, .int .i64 ru] 25)
                have HBW3 := Lib.hid (tbelowD (hbw.trans (hal.mono hbw.size)))
                have HTW := Lib.hid (show Ths (wr.alloc (.cells #[.int .i64 rx, .int .i64 ry, .int .i64 rz, .int .i64 ru] 25)).drew w.heap.size a3' n3 cap3 (coM rs i k L2 (k + 1 + j)) from ⟨World.ownsRow.drew (hth.below hal).1, hth.2⟩)
                have HRW := Lib.hid (show Cds (wr.alloc (.cells #[.int .i64 rx, .int .i64 ry, .int .i64 rz, .int .i64 ru] 25)).drew B (some ⟨g, 0, none⟩) m rc rs from ⟨World.ownsRow.drew ((HR.out.below hbw).below hal).1, HR.out.2⟩)
                have HTBW := Lib.hid (htb.below hal)
                have HZW := Lib.hid (show wo.heap.size < (wr.alloc (.cells #[.int .i64 rx, .int .i64 ry, .int .i64 rz, .int .i64 ru] 25)).heap.size from cell_block_lt (htb.below hal).1)
                have q0 := tcell k0 hal
                have q1 := tcell k1 hal
                have q2 := tcell k2 hal
                have q3 := tcell k3 hal
                obtain ⟨b0, b1, b2, b3⟩ := rbox_alloc wr rx ry rz ru
                obtain ⟨p0, p1, p2, p3⟩ := id HTBW.out
                clear hbw hth hne hal htb hrq hkq k0 k1 k2 k3
                go_wp2_with fail
                generalize hW : wr.alloc (.cells #[.int .i64 rx, .int .i64 ry, .int .i64 rz, .int .i64 ru] 25) = W at *
                clear hW r0 r1 r2 r3
                go_still_tail 9, (by kernel_rfl)
                change wpList _ _ _ _ _ W.drew
                go_wp2_with fail
                refine (appendCorner _ _ _ _ _ _ _ _ _ _ rs _ _ _ _ _ _ _ _ _ _ _ _ HTW.out HBW3.out.size HN3.out HRW.out HOK.out).mono ?_
                rintro e w4 ⟨v', rfl, hrow, hg, hown⟩
                rw [HST.out] at hrow
                obtain ⟨a4, n4, cap4, rfl, hth4⟩ := thsOf hrow
                have HT4 := Lib.hid hth4
                have HB4 := Lib.hid (below_rowed HBW3.out hg HBW3.out.size (fun x hx => (World.ownsRow.lt HTW.out.1 x hx).1))
                have HTB4 : RowKit.Hid (TBox w4 wo.heap.size px py pz pu) := Lib.hid ⟨(hg.cell_far _ HZW.out HNE3.out).trans p0, (hg.cell_far _ HZW.out HNE3.out).trans p1, (hg.cell_far _ HZW.out HNE3.out).trans p2, (hg.cell_far _ HZW.out HNE3.out).trans p3⟩
                have HNE4 : RowKit.Hid (some wo.heap.size ≠ (Value.slice a4 n4 cap4).ownBlock) := Lib.hid (by
                  rcases hown with h | ⟨y, h, hy⟩
                  · rw [h]; exact HNE3.out
                  · rw [h]; intro he; have hz := HZW.out; simp only [Option.some.injEq] at he; have hy' : W.heap.size ≤ y := hy; omega)
                clear hrow hg hown hth4 p0 p1 p2 p3 b0 b1 b2 b3 q0 q1 q2 q3
                go_wp2_with fail
                go_roundw
                case rel => exact ⟨j + 1, a4, n4, cap4, by omega, by go_num, rfl, HT4.out, HB4.out, HTB4.out, HNE4.out⟩
                case measure => simp [intOf]; omega
              · have hjm : k + 1 + j = m := by omega
                have HE := Lib.hid (show coM rs i k L2 (k + 1 + j) = coK rs i (coI rs i) (k + 1) by rw [HK2.out, HN.out, hjm])
                have hjz : j = m - (k + 1) := by omega
                have HJ := Lib.hid hjz
                have hnl : ¬ (j < m - (k + 1)) := by omega
                clear hbw hth hne htb hjm hjz
                go_wp2_with fail
                go_roundw
                case rel => exact ⟨k + 1, a3', n3, cap3, Nat.lt_succ_of_lt hik, hlt2, by go_num, rfl, by rw [← HE.out]; exact HT3.out, HB3.out, HTB3.out, HNE3.out⟩
                case measure => simp [intOf]; omega
        · have hkm2 : k = m := by omega
          have HE := Lib.hid (show coK rs i (coI rs i) k = coI rs (i + 1) by rw [HNI.out, HN.out, hkm2])
          have hnl : ¬ (k < m) := hlt2
          clear hbw hkm2
          go_wp2_with fail
          go_roundw
          case rel => exact ⟨i + 1, a2, n2, cap2, hlt, by go_num, rfl, by rw [← HE.out]; exact HT2.out, HB2.out⟩
          case measure => simp [intOf]; omega
    · have him : i = m := by omega
      have HE := Lib.hid (show coV rs = coI rs i by rw [HV.out, him])
      clear hbw hth him
      go_wp2_with fail
      go_ret
      exact ⟨_, rfl, by rw [HE.out]; exact HT.out.2 ▸ HT.out.1, HB.out⟩
end Go.Proofs.Ytdaiffaedejnbaa
