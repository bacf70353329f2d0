/- Corners, plainly: one step of their list, and which rows a solution fulfills; Lists of thrusts: whether one is in a list, of the program's library and of the model; Corners by their first row, plainly: the solutions with one first row that fulfill all rows; those of a list that are not there yet; both make the corners; Corners: the contract of the program's appendCorner; Corners: the contract of the program's appendNew; Corners: the contract of the program's cornersFrom. By program (gen_from.py); Corners: the contract of the program's CornersOf. -/
import Derived.Test.YtibcalpkmjjilaaGThree
import Derived.Test.YtibcalpkmjjilaaGCond
import Derived.Test.YtibcalpkmjjilaaGFour
import Derived.Laws.StructEq
import Derived.Test.YtibcalpkmjjilaaThreeK
import Derived.Test.YtibcalpkmjjilaaThrustX
import Derived.Deep.CutRange
import Derived.StillTailTactics

/- Corners, plainly: one step of their list, and which rows a solution fulfills. -/
namespace Go.Proofs.Ytibcalpkmjjilaa
set_option maxRecDepth 100000

/-- The corners, with the solution of three rows if it is one and not there yet. -/
def coAdd (rs l : List Cd) (p q r : Cd) : List Cd := if soB p q r && (!decide (soT p q r ∈ l) && coH rs (soT p q r)) then l ++ [soT p q r] else l
theorem coAdd_step (rs l : List Cd) (i k m : Nat) : coAdd rs l (cd rs i) (cd rs k) (cd rs m) = coStep rs l i k m := rfl
theorem coAdd_no {rs l : List Cd} {p q r : Cd} (h : soB p q r = false) : coAdd rs l p q r = l := by unfold coAdd; rw [h]; rfl
theorem coAdd_ful {rs l : List Cd} {p q r : Cd} (h : coH rs (soT p q r) = false) : coAdd rs l p q r = l := by unfold coAdd; rw [h]; simp
theorem coAdd_in {rs l : List Cd} {p q r : Cd} (h : decide (soT p q r ∈ l) = true) : coAdd rs l p q r = l := by unfold coAdd; rw [h]; simp
theorem coAdd_yes {rs l : List Cd} {p q r : Cd} (h : soB p q r = true) (hn : decide (soT p q r ∈ l) = false) (hf : coH rs (soT p q r) = true) : coAdd rs l p q r = l ++ [soT p q r] := by unfold coAdd; rw [h, hn, hf]; rfl
/-- Of valid rows, as many as may be, FulfillsAll says what the products say. -/
theorem coOk_ful {rs : List Cd} (hok : coOk rs = true) {p q r : Cd} (h : soB p q r = true) : fulAll (soT p q r).1 (soT p q r).2.1 (soT p q r).2.2.1 (soT p q r).2.2.2 rs = coH rs (soT p q r) := by
  unfold coOk at hok
  rw [Bool.and_eq_true] at hok
  have hn := inR_iff.1 hok.2
  rw [fulAll_yes (inR_iff.2 (by omega)) (soB_okT h), Bool.eq_iff_iff]
  unfold coH
  rw [allV_iff, allV_iff]
  refine ⟨fun hh x hx => ?_, fun hh x hx => ?_⟩
  · have := hh x hx
    unfold cdFAt cdF at this
    rw [Bool.and_eq_true] at this
    exact this.2
  · unfold cdFAt cdF
    rw [Bool.and_eq_true]
    exact ⟨allV_iff.1 hok.1 x hx, hh x hx⟩
end Go.Proofs.Ytibcalpkmjjilaa

/- Lists of thrusts: whether one is in a list, of the program's library and of the model. -/
namespace Go.Proofs.Ytibcalpkmjjilaa
set_option maxRecDepth 100000
open Go.ChangeShapes Go.WideShapes Go.ChangeAt Go.RowKit

/-- A thrust is none of the first k. -/
def NotTo (ts : List Cd) (t : Cd) (k : Nat) : Prop := ∀ j, j < k → cd ts j ≠ t
theorem notTo_zero (ts : List Cd) (t : Cd) : NotTo ts t 0 := fun j hj => absurd hj (Nat.not_lt_zero j)
theorem notTo_next {ts : List Cd} {t : Cd} {k : Nat} (h : NotTo ts t k) (hn : cd ts k ≠ t) : NotTo ts t (k + 1) := fun j hj => if e : j = k then by rw [e]; exact hn else h j (by omega)
theorem notTo_end {ts : List Cd} {t : Cd} (h : NotTo ts t ts.length) : decide (t ∈ ts) = false := by
  rw [decide_eq_false_iff_not]
  intro hm
  obtain ⟨j, hj, e⟩ := List.mem_iff_getElem.1 hm
  exact h j hj ((cd_get hj).trans e)
theorem at_in {ts : List Cd} {t : Cd} {k : Nat} (hk : k < ts.length) (h : cd ts k = t) : decide (t ∈ ts) = true := by
  rw [decide_eq_true_iff, ← h, cd_get hk]
  exact List.getElem_mem hk
theorem cd_ne {ts : List Cd} {k : Nat} {h v m d x y z u : Int} (e : cd ts k = (x, y, z, u)) (hn : ¬ (x = h ∧ y = v ∧ z = m ∧ u = d)) : cd ts k ≠ (h, v, m, d) := by
  rw [e]; intro he; simp only [Prod.mk.injEq] at he; exact hn he

set_option maxHeartbeats 2000000 in
theorem implIndex (w : World) (B : Nat) (a : Option Addr) (n cap : Nat) (h v m d : Int) (ts : List Cd) (hr : Ths w B a n cap ts) :
    Calls Try.prog 96 #[.slice a n cap, .agg #[.int .i64 h, .int .i64 v, .int .i64 m, .int .i64 d]] w fun e w' => ∃ r : Int, e = .returned (.int .i64 r) ∧ decide (r ≥ 0) = decide ((h, v, m, d) ∈ ts) ∧ Below w.heap.size w w' := by
  obtain ⟨hnc, hcm⟩ := hr.cap
  unfold maxLen at hcm
  have hln := hr.2
  have HB0 := Lib.hid (cd_al w (.cells #[.int .i64 h, .int .i64 v, .int .i64 m, .int .i64 d] 29))
  have HT0 := Lib.hid (tbox_alloc w h v m d)
  have HR := Lib.hid hr
  have HN := Lib.hid hln
  clear hr hln
  go_enter Try.func96, Try.ntmps96
  go_wp2_with fail
  go_loopw [8] (fun t wr => ∃ k : Nat, k ≤ n ∧ t = .int .i64 k ∧ NotTo ts (h, v, m, d) k ∧ Below w.heap.size w wr ∧ TBox wr w.heap.size h v m d)
    (fun t _ => n - (intOf t).toNat)
  case atStart => exact ⟨0, Nat.zero_le _, rfl, notTo_zero _ _, HB0.out, HT0.out⟩
  case round =>
    clear HB0 HT0
    obtain ⟨k, hk, rfl, hall, hbw, htb⟩ := hrel
    have HB := Lib.hid hbw
    have HA := Lib.hid hall
    have HT := Lib.hid htb
    clear hall
    by_cases hlt : k < n
    · have hlN := HN.out
      obtain ⟨g, rfl, -, a0, a1, a2, a3⟩ := (HR.out.below hbw).at k hlt
      obtain ⟨⟨x, y, z, u⟩, hq⟩ : ∃ q, cd ts k = q := ⟨_, rfl⟩
      rw [hq] at a0 a1 a2 a3
      dsimp only at a0 a1 a2 a3
      have HQ := Lib.hid hq
      have HNX := Lib.hid (fun hn => notTo_next (ts := ts) (t := (h, v, m, d)) (k := k) HA.out (cd_ne hq hn))
      have HYS := Lib.hid (fun (e : (x, y, z, u) = (h, v, m, d)) => at_in (ts := ts) (t := (h, v, m, d)) (k := k) (by omega) (hq.trans e))
      obtain ⟨t0, t1, t2, t3⟩ := htb
      clear hbw hq hlN
      by_cases e0 : x = h
      · by_cases e1 : y = v
        · by_cases e2 : z = m
          · by_cases e3 : u = d
            · have HY := Lib.hid (HYS.out (by rw [e0, e1, e2, e3]))
              subst e0 e1 e2 e3
              go_wp2_with fail
              go_quiet (fail)
              go_wp2_with fail
              go_ret
              exact ⟨(k : Int), rfl, by rw [HY.out]; simp, below_drewN HB.out _⟩
            · have HX := Lib.hid (HNX.out (by omega))
              have f3 : (d == u) = false := by simpa using fun q => e3 q.symm
              go_wp2_with fail
              go_quiet (fail)
              go_wp2_with fail
              go_roundw
              case rel => exact ⟨k + 1, by omega, by go_num, HX.out, below_drewN HB.out _, HT.out⟩
              case measure => simp [intOf]; omega
          · have HX := Lib.hid (HNX.out (by omega))
            have f2 : (m == z) = false := by simpa using fun q => e2 q.symm
            go_wp2_with fail
            go_quiet (fail)
            go_wp2_with fail
            go_roundw
            case rel => exact ⟨k + 1, by omega, by go_num, HX.out, below_drewN HB.out _, HT.out⟩
            case measure => simp [intOf]; omega
        · have HX := Lib.hid (HNX.out (by omega))
          have f1 : (v == y) = false := by simpa using fun q => e1 q.symm
          go_wp2_with fail
          go_quiet (fail)
          go_wp2_with fail
          go_roundw
          case rel => exact ⟨k + 1, by omega, by go_num, HX.out, below_drewN HB.out _, HT.out⟩
          case measure => simp [intOf]; omega
      · have HX := Lib.hid (HNX.out (by omega))
        have f0 : (h == x) = false := by simpa using fun q => e0 q.symm
        go_wp2_with fail
        go_quiet (fail)
        go_wp2_with fail
        go_roundw
        case rel => exact ⟨k + 1, by omega, by go_num, HX.out, below_drewN HB.out _, HT.out⟩
        case measure => simp [intOf]; omega
    · obtain rfl : k = n := by omega
      have HE := Lib.hid (notTo_end (ts := ts) (t := (h, v, m, d)) (by rw [HN.out]; exact HA.out))
      clear hbw htb
      go_wp2_with fail
      go_ret
      exact ⟨-1, rfl, by rw [HE.out]; decide, HB.out⟩

theorem implContains (w : World) (B : Nat) (a : Option Addr) (n cap : Nat) (h v m d : Int) (ts : List Cd) (hr : Ths w B a n cap ts) :
    Calls Try.prog 79 #[.slice a n cap, .agg #[.int .i64 h, .int .i64 v, .int .i64 m, .int .i64 d]] w fun e w' => e = .returned (.bool (decide ((h, v, m, d) ∈ ts))) ∧ Below w.heap.size w w' := by
  have hal := cd_al w (.cells #[.int .i64 h, .int .i64 v, .int .i64 m, .int .i64 d] 29)
  have HB0 := Lib.hid hal
  have HR := Lib.hid (hr.below hal)
  clear hr hal
  go_enter Try.func79, Try.ntmps79
  go_wp2_with fail
  refine (implIndex _ _ _ _ _ _ _ _ _ _ HR.out).mono ?_
  rintro e w1 ⟨r, rfl, hd, hb1⟩
  have HD := Lib.hid hd
  have HB1 := Lib.hid (HB0.out.trans (hb1.mono HB0.out.size))
  clear hb1 hd
  go_wp2_with fail
  go_ret
  exact ⟨ret_bool (by rw [← HD.out]), HB1.out⟩

set_option maxHeartbeats 2000000 in
theorem specHas (w : World) (B : Nat) (a : Option Addr) (n cap : Nat) (h v m d : Int) (ts : List Cd) (hr : Ths w B a n cap ts) :
    Calls Try.prog 54 #[.slice a n cap, .agg #[.int .i64 h, .int .i64 v, .int .i64 m, .int .i64 d]] w fun e w' => e = .returned (.bool (decide ((h, v, m, d) ∈ ts))) ∧ Below w.heap.size w w' := by
  obtain ⟨hnc, hcm⟩ := hr.cap
  unfold maxLen at hcm
  have hln := hr.2
  have HB0 := Lib.hid (cd_al w (.cells #[.int .i64 h, .int .i64 v, .int .i64 m, .int .i64 d] 29))
  have HT0 := Lib.hid (tbox_alloc w h v m d)
  have HR := Lib.hid hr
  have HN := Lib.hid hln
  clear hr hln
  go_enter Try.func54, Try.ntmps54
  go_wp2_with fail
  go_loopw [5] (fun t wr => ∃ k : Nat, k ≤ n ∧ t = .int .i64 k ∧ NotTo ts (h, v, m, d) k ∧ Below w.heap.size w wr ∧ TBox wr w.heap.size h v m d)
    (fun t _ => n - (intOf t).toNat)
  case atStart => exact ⟨0, Nat.zero_le _, rfl, notTo_zero _ _, HB0.out, HT0.out⟩
  case round =>
    clear HB0 HT0
    obtain ⟨k, hk, rfl, hall, hbw, htb⟩ := hrel
    have HB := Lib.hid hbw
    have HA := Lib.hid hall
    have HT := Lib.hid htb
    clear hall
    by_cases hlt : k < n
    · have hlN := HN.out
      obtain ⟨g, rfl, -, a0, a1, a2, a3⟩ := (HR.out.below hbw).at k hlt
      obtain ⟨⟨x, y, z, u⟩, hq⟩ : ∃ q, cd ts k = q := ⟨_, rfl⟩
      rw [hq] at a0 a1 a2 a3
      dsimp only at a0 a1 a2 a3
      have HQ := Lib.hid hq
      have HNX := Lib.hid (fun hn => notTo_next (ts := ts) (t := (h, v, m, d)) (k := k) HA.out (cd_ne hq hn))
      have HYS := Lib.hid (fun (e : (x, y, z, u) = (h, v, m, d)) => at_in (ts := ts) (t := (h, v, m, d)) (k := k) (by omega) (hq.trans e))
      obtain ⟨t0, t1, t2, t3⟩ := htb
      clear hbw hq hlN
      by_cases e0 : x = h
      · by_cases e1 : y = v
        · by_cases e2 : z = m
          · by_cases e3 : u = d
            · have HY := Lib.hid (HYS.out (by rw [e0, e1, e2, e3]))
              subst e0 e1 e2 e3
              go_wp2_with fail
              go_quiet (fail)
              go_wp2_with fail
              go_ret
              exact ⟨ret_bool HY.out.symm, below_drewN HB.out _⟩
            · have HX := Lib.hid (HNX.out (by omega))
              have f3 : (u == d) = false := by simpa using e3
              go_wp2_with fail
              go_quiet (fail)
              go_wp2_with fail
              go_roundw
              case rel => exact ⟨k + 1, by omega, by go_num, HX.out, below_drewN HB.out _, HT.out⟩
              case measure => simp [intOf]; omega
          · have HX := Lib.hid (HNX.out (by omega))
            have f2 : (z == m) = false := by simpa using e2
            go_wp2_with fail
            go_quiet (fail)
            go_wp2_with fail
            go_roundw
            case rel => exact ⟨k + 1, by omega, by go_num, HX.out, below_drewN HB.out _, HT.out⟩
            case measure => simp [intOf]; omega
        · have HX := Lib.hid (HNX.out (by omega))
          have f1 : (y == v) = false := by simpa using e1
          go_wp2_with fail
          go_quiet (fail)
          go_wp2_with fail
          go_roundw
          case rel => exact ⟨k + 1, by omega, by go_num, HX.out, below_drewN HB.out _, HT.out⟩
          case measure => simp [intOf]; omega
      · have HX := Lib.hid (HNX.out (by omega))
        have f0 : (x == h) = false := by simpa using e0
        go_wp2_with fail
        go_quiet (fail)
        go_wp2_with fail
        go_roundw
        case rel => exact ⟨k + 1, by omega, by go_num, HX.out, below_drewN HB.out _, HT.out⟩
        case measure => simp [intOf]; omega
    · obtain rfl : k = n := by omega
      have HE := Lib.hid (notTo_end (ts := ts) (t := (h, v, m, d)) (by rw [HN.out]; exact HA.out))
      clear hbw htb
      go_wp2_with fail
      go_ret
      exact ⟨ret_bool HE.out.symm, HB.out⟩
end Go.Proofs.Ytibcalpkmjjilaa

/- Corners by their first row, plainly: the solutions with one first row that fulfill all rows; those of a list that are not there yet; both make the corners. -/
namespace Go.Proofs.Ytibcalpkmjjilaa
set_option maxRecDepth 100000

/-- The solution of three rows, behind a list, if there is one and it fulfills all rows. -/
def cfAdd (rs l : List Cd) (p q r : Cd) : List Cd := if soB p q r && fulAll (soT p q r).1 (soT p q r).2.1 (soT p q r).2.2.1 (soT p q r).2.2.2 rs then l ++ [soT p q r] else l
theorem cfAdd_no {rs l : List Cd} {p q r : Cd} (h : soB p q r = false) : cfAdd rs l p q r = l := by unfold cfAdd; rw [h]; rfl
theorem cfAdd_ful {rs l : List Cd} {p q r : Cd} (h : fulAll (soT p q r).1 (soT p q r).2.1 (soT p q r).2.2.1 (soT p q r).2.2.2 rs = false) : cfAdd rs l p q r = l := by unfold cfAdd; rw [h, Bool.and_false]; rfl
theorem cfAdd_yes {rs l : List Cd} {p q r : Cd} (h : soB p q r = true) (hf : fulAll (soT p q r).1 (soT p q r).2.1 (soT p q r).2.2.1 (soT p q r).2.2.2 rs = true) : cfAdd rs l p q r = l ++ [soT p q r] := by unfold cfAdd; rw [h, hf]; rfl
theorem cfAdd_len (rs l : List Cd) (p q r : Cd) : (cfAdd rs l p q r).length ≤ l.length + 1 := by
  unfold cfAdd
  split
  · rw [List.length_append]; simp
  · omega
def cfM (rs : List Cd) (i k : Nat) (l : List Cd) : Nat → List Cd
  | 0 => l
  | m + 1 => if k < m then cfAdd rs (cfM rs i k l m) (cd rs i) (cd rs k) (cd rs m) else cfM rs i k l m
def cfK (rs : List Cd) (i : Nat) : Nat → List Cd
  | 0 => []
  | k + 1 => if i < k then cfM rs i k (cfK rs i k) rs.length else cfK rs i k
/-- What cornersFrom answers. -/
def cfV (rs : List Cd) (i : Nat) : List Cd := cfK rs i rs.length
theorem cfM_low (rs : List Cd) (i k : Nat) (l : List Cd) (n : Nat) (h : n ≤ k + 1) : cfM rs i k l n = l := by
  induction n with
  | zero => rfl
  | succ n ih => show (if _ then _ else _) = _; rw [if_neg (by omega)]; exact ih (by omega)
theorem cfM_next (rs : List Cd) (i k : Nat) (l : List Cd) (m : Nat) (h : k < m) : cfM rs i k l (m + 1) = cfAdd rs (cfM rs i k l m) (cd rs i) (cd rs k) (cd rs m) := by show (if _ then _ else _) = _; rw [if_pos h]
theorem cfK_low (rs : List Cd) (i : Nat) (n : Nat) (h : n ≤ i + 1) : cfK rs i n = [] := by
  induction n with
  | zero => rfl
  | succ n ih => show (if _ then _ else _) = _; rw [if_neg (by omega)]; exact ih (by omega)
theorem cfK_next (rs : List Cd) (i : Nat) (k : Nat) (h : i < k) : cfK rs i (k + 1) = cfM rs i k (cfK rs i k) rs.length := by show (if _ then _ else _) = _; rw [if_pos h]
theorem cfM_len (rs l : List Cd) (i k n : Nat) : (cfM rs i k l n).length ≤ l.length + n := by
  induction n with
  | zero => exact Nat.le_refl _
  | succ n ih =>
    show (if k < n then _ else _ : List Cd).length ≤ _
    split
    · have := cfAdd_len rs (cfM rs i k l n) (cd rs i) (cd rs k) (cd rs n); omega
    · omega
theorem cfK_len (rs : List Cd) (i n : Nat) : (cfK rs i n).length ≤ n * rs.length := by
  induction n with
  | zero => simp [cfK]
  | succ n ih =>
    rw [Nat.succ_mul]
    show (if i < n then _ else _ : List Cd).length ≤ _
    split
    · have := cfM_len rs (cfK rs i n) i n rs.length; omega
    · omega
theorem cfV_len (rs : List Cd) (i : Nat) : (cfV rs i).length ≤ rs.length * rs.length := cfK_len rs i _

/-- A thrust behind a list, if it is not there yet; all of a list. -/
def anAdd (l : List Cd) (t : Cd) : List Cd := if decide (t ∈ l) then l else l ++ [t]
theorem anAdd_in {l : List Cd} {t : Cd} (h : decide (t ∈ l) = true) : anAdd l t = l := by unfold anAdd; rw [h]; rfl
theorem anAdd_new {l : List Cd} {t : Cd} (h : decide (t ∈ l) = false) : anAdd l t = l ++ [t] := by unfold anAdd; rw [h]; rfl
def anTo (l os : List Cd) : Nat → List Cd
  | 0 => l
  | k + 1 => anAdd (anTo l os k) (cd os k)
/-- What appendNew answers. -/
def anV (l os : List Cd) : List Cd := anTo l os os.length
theorem anAdd_len (l : List Cd) (t : Cd) : (anAdd l t).length ≤ l.length + 1 := by
  unfold anAdd
  split
  · omega
  · rw [List.length_append]; simp
theorem anTo_len (l os : List Cd) (n : Nat) : (anTo l os n).length ≤ l.length + n := by
  induction n with
  | zero => exact Nat.le_refl _
  | succ n ih => have := anAdd_len (anTo l os n) (cd os n); show (anAdd _ _).length ≤ _; omega
theorem anTo_append (l os : List Cd) (t : Cd) (n : Nat) (hn : n ≤ os.length) : anTo l (os ++ [t]) n = anTo l os n := by
  induction n with
  | zero => rfl
  | succ n ih =>
    show anAdd _ _ = anAdd _ _
    rw [ih (by omega)]
    congr 1
    unfold cd
    rw [List.getD_eq_getElem?_getD, List.getD_eq_getElem?_getD, List.getElem?_append_left (by omega)]
theorem anV_append (l os : List Cd) (t : Cd) : anV l (os ++ [t]) = anAdd (anV l os) t := by
  unfold anV
  rw [List.length_append]
  show anAdd (anTo l (os ++ [t]) os.length) (cd (os ++ [t]) os.length) = _
  rw [anTo_append l os t _ (Nat.le_refl _)]
  congr 1
  unfold cd
  rw [List.getD_eq_getElem?_getD, List.getElem?_append_right (Nat.le_refl _)]
  simp

theorem cf_step {rs : List Cd} (hok : coOk rs = true) (l o : List Cd) (i k m : Nat) : coStep rs (anV l o) i k m = anV l (cfAdd rs o (cd rs i) (cd rs k) (cd rs m)) := by
  rw [← coAdd_step]
  cases h : soB (cd rs i) (cd rs k) (cd rs m)
  · rw [coAdd_no h, cfAdd_no h]
  · have hf := coOk_ful hok h
    cases hc : coH rs (soT (cd rs i) (cd rs k) (cd rs m))
    · rw [coAdd_ful hc, cfAdd_ful (hf.trans hc)]
    · rw [cfAdd_yes h (hf.trans hc), anV_append]
      cases hd : decide (soT (cd rs i) (cd rs k) (cd rs m) ∈ anV l o)
      · rw [coAdd_yes h hd hc, anAdd_new hd]
      · rw [coAdd_in hd, anAdd_in hd]
theorem cf_M {rs : List Cd} (hok : coOk rs = true) (l o : List Cd) (i k n : Nat) : coM rs i k (anV l o) n = anV l (cfM rs i k o n) := by
  induction n with
  | zero => rfl
  | succ n ih =>
    by_cases h : k < n
    · rw [coM_next _ _ _ _ _ h, cfM_next _ _ _ _ _ h, ih, cf_step hok]
    · rw [coM_low _ _ _ _ _ (by omega), cfM_low _ _ _ _ _ (by omega)]
theorem cf_K {rs : List Cd} (hok : coOk rs = true) (l : List Cd) (i n : Nat) : coK rs i l n = anV l (cfK rs i n) := by
  induction n with
  | zero => rfl
  | succ n ih =>
    by_cases h : i < n
    · rw [coK_next _ _ _ _ h, cfK_next _ _ _ h, ih, cf_M hok]
    · rw [coK_low _ _ _ _ (by omega), cfK_low _ _ _ (by omega)]; rfl
/-- One first row more. -/
theorem cf_I {rs : List Cd} (hok : coOk rs = true) (i : Nat) : coI rs (i + 1) = anV (coI rs i) (cfV rs i) := by rw [coI_next, cf_K hok]; rfl
end Go.Proofs.Ytibcalpkmjjilaa

/- Corners: the contract of the program's appendCorner. -/
namespace Go.Proofs.Ytibcalpkmjjilaa
set_option maxRecDepth 100000
open Go.ChangeShapes Go.WideShapes Go.ChangeAt Go.RowKit

theorem g_of_below {w w' : World} (h : Below w.heap.size w w') (r : Option Nat) : w.grownBy w' r := ⟨h.os, h.tape, h.output, h.size, fun k hk _ => h.block k hk⟩
theorem g_trans {a b c : World} {r : Option Nat} (h : a.grownBy b r) (k : b.grownBy c r) : a.grownBy c r :=
  ⟨k.os.trans h.os, k.tape.trans h.tape, k.output.trans h.output, Nat.le_trans h.size k.size, fun j hj hne => (k.block j (Nat.lt_of_lt_of_le hj h.size) hne).trans (h.block j hj hne)⟩
theorem Try.infoTr : (Try.prog.info? 29).map (fun i => (i.zero, i.size, i.bytes)) = some (some (.agg #[.int .i64 0, .int .i64 0, .int .i64 0, .int .i64 0]), 4, 32) := by kernel_rfl
/-- A value's own block is another one, or one that was made since. -/
def OwnNew (w : World) (v v' : Value) : Prop := v'.ownBlock = v.ownBlock ∨ ∃ g, v'.ownBlock = some g ∧ w.heap.size ≤ g
/-- The list of corners as it is handed back. -/
def CoAns (w : World) (B : Nat) (v : Value) (l : List Cd) (e : Ending) (w' : World) : Prop := ∃ v', e = .returned v' ∧ ThRow w' B v' l ∧ w.grownBy w' v.ownBlock ∧ OwnNew w v v'

end Go.Proofs.Ytibcalpkmjjilaa

/- Corners: the contract of the program's appendNew. -/
namespace Go.Proofs.Ytibcalpkmjjilaa
set_option maxRecDepth 100000
open Go.ChangeShapes Go.WideShapes Go.ChangeAt Go.RowKit

theorem own_lt {w : World} {B n cap : Nat} {a : Option Addr} {l : List Cd} (h : Ths w B a n cap l) {g : Nat} (e : (Value.slice a n cap).ownBlock = some g) : B ≤ g ∧ g < w.heap.size := World.ownsRow.lt h.1 g e
theorem ownNew_trans {w x : World} {v v' v'' : Value} (h : OwnNew w v v') (k : OwnNew x v' v'') (hs : w.heap.size ≤ x.heap.size) : OwnNew w v v'' := by
  rcases k with e | ⟨g, e, hg⟩
  · rcases h with e' | ⟨g', e', hg'⟩
    · exact .inl (e.trans e')
    · exact .inr ⟨g', e.trans e', hg'⟩
  · exact .inr ⟨g, e, Nat.le_trans hs hg⟩
/-- What grew by a value's own block and by what is newer has grown by the elder block alone. -/
theorem g_own {w x y : World} {v v' : Value} (h : w.grownBy x v.ownBlock) (k : x.grownBy y v'.ownBlock) (hn : OwnNew w v v') : w.grownBy y v.ownBlock :=
  ⟨k.os.trans h.os, k.tape.trans h.tape, k.output.trans h.output, Nat.le_trans h.size k.size, fun j hj hne => (k.block j (Nat.lt_of_lt_of_le hj h.size) (fun e => by
    rcases hn with e' | ⟨g, e', hg⟩
    · exact hne (e.trans e')
    · rw [e'] at e; simp only [Option.some.injEq] at e; omega)).trans (h.block j hj hne)⟩

theorem coOk_of {rs : List Cd} {n : Nat} (h : rs.length = n) (hn : inR (n : Int) 3 20 = true) (hc : cdsOk rs = true) : coOk rs = true := by
  unfold coOk; rw [h, hn, Bool.and_true, ← h]; exact hc
theorem coOk_n {rs : List Cd} {n : Nat} (h : rs.length = n) (hn : inR (n : Int) 3 20 = false) : coOk rs = false := by
  unfold coOk; rw [h, hn, Bool.and_false]
theorem coOk_c {rs : List Cd} (hc : cdsOk rs = false) : coOk rs = false := by
  unfold coOk; rw [show allV rs.length (fun x => okR (cd rs x)) = false from hc]; rfl
theorem thsOf {w : World} {B : Nat} {v : Value} {l : List Cd} (h : ThRow w B v l) : ∃ a n cap, v = .slice a n cap ∧ Ths w B a n cap l := by
  obtain ⟨a, cap, rfl, -, -⟩ := throw_slice h
  exact ⟨a, l.length, cap, rfl, h, rfl⟩
theorem ths_ne {w : World} {B n cap : Nat} {a : Option Addr} {l : List Cd} (h : Ths w B a n cap l) : some w.heap.size ≠ (Value.slice a n cap).ownBlock := fun he => by
  have := (World.ownsRow.lt h.1 _ he.symm).2
  omega
theorem rbox_alloc (w : World) (h v m d : Int) : TBox (w.alloc (.cells #[.int .i64 h, .int .i64 v, .int .i64 m, .int .i64 d] 25)) w.heap.size h v m d := by
  refine ⟨?_, ?_, ?_, ?_⟩ <;> go_simp
/-- What is kept behind a step: below the base all, and a box that is not the list's. -/
theorem below_rowed {w x y : World} {B : Nat} {row : Option Nat} (h : Below B w x) (hg : x.grownBy y row) (hB : B ≤ x.heap.size) (hr : ∀ j, row = some j → B ≤ j) : Below B w y :=
  h.grown hg hB (fun j hj => hr j hj)

set_option maxRecDepth 100000 in
set_option maxHeartbeats 4000000 in
theorem appendNew (w : World) (B B2 n cap m oc : Nat) (a oa : Option Addr) (l os : List Cd) (hl : Ths w B a n cap l) (hB : B ≤ w.heap.size) (hn : n + m ≤ 1000000) (ho : Ths w B2 oa m oc os) (hne : ∀ g, oa = some ⟨g, 0, none⟩ → (Value.slice a n cap).ownBlock ≠ some g) :
    Calls Try.prog 50 #[.slice a n cap, .slice oa m oc] w (CoAns w B (.slice a n cap) (anV l os)) := by
  obtain ⟨i0, hi0, hz0, hz1, hz2⟩ := info_parts Try.infoTr
  obtain ⟨hcc, hcm⟩ := ho.cap
  unfold maxLen at hcm
  have HL := Lib.hid hl
  have HO := Lib.hid ho
  have HBB := Lib.hid hB
  have HLN := Lib.hid hl.2
  have HON := Lib.hid ho.2
  have HNE := Lib.hid hne
  have hmn : n + m ≤ 1000000 := hn
  have HNL := Lib.hid (anTo_len l os)
  clear hl ho hne
  go_enter Try.func50, Try.ntmps50
  go_wp2_with fail
  go_loopw [0, 9] (fun q t wr => ∃ (k : Nat) (a' : Option Addr) (n' cap' : Nat), k ≤ m ∧ t = .int .i64 k ∧ q = .slice a' n' cap' ∧ Ths wr B a' n' cap' (anTo l os k) ∧ w.grownBy wr (Value.slice a n cap).ownBlock ∧ OwnNew w (.slice a n cap) (.slice a' n' cap'))
    (fun _ t _ => m - (intOf t).toNat)
  case atStart => exact ⟨0, a, n, cap, Nat.zero_le _, rfl, rfl, HL.out, World.grownBy.refl _ _, .inl rfl⟩
  case round =>
    obtain ⟨k, a', n', cap', hk, rfl, rfl, hth, hg, hown⟩ := hrel
    have HT := Lib.hid hth
    have HG := Lib.hid hg
    have HW := Lib.hid hown
    by_cases hlt : k < m
    · obtain ⟨g, hga, -, b0, b1, b2, b3⟩ := HO.out.at k hlt
      have hng := HNE.out g hga
      subst hga
      have hgl : g < w.heap.size := cell_block_lt b0
      have c0 := (hg.cell_far ⟨g, k * 4, none⟩ hgl (fun e => hng e.symm)).trans b0
      have c1 := (hg.cell_far ⟨g, k * 4 + 1, none⟩ hgl (fun e => hng e.symm)).trans b1
      have c2 := (hg.cell_far ⟨g, k * 4 + 2, none⟩ hgl (fun e => hng e.symm)).trans b2
      have c3 := (hg.cell_far ⟨g, k * 4 + 3, none⟩ hgl (fun e => hng e.symm)).trans b3
      have HNX := Lib.hid (show anTo l os (k + 1) = anAdd (anTo l os k) (cd os k) from rfl)
      have HLK := Lib.hid (show n' ≤ 1000000 by have h1 := HNL.out k; have h2 := HLN.out; have h3 := hth.2; omega)
      have HTL := Lib.hid hth.2
      obtain ⟨⟨th, tv, tm, td⟩, hq⟩ : ∃ q, cd os k = q := ⟨_, rfl⟩
      rw [hq] at c0 c1 c2 c3 HNX
      dsimp only at c0 c1 c2 c3
      obtain ⟨L, hL⟩ : ∃ L, anTo l os k = L := ⟨_, rfl⟩
      rw [hL] at HT HTL HNX
      have HYS := Lib.hid (anAdd_in (l := L) (t := (th, tv, tm, td)))
      have HNO := Lib.hid (anAdd_new (l := L) (t := (th, tv, tm, td)))
      have hal := cd_al wr (.cells #[.int .i64 th, .int .i64 tv, .int .i64 tm, .int .i64 td] 29)
      have HT1 := Lib.hid (HT.out.below hal)
      have HB1 := Lib.hid hal
      have HTB := Lib.hid (tbox_alloc wr th tv tm td)
      clear b0 b1 b2 b3 hng hgl hq hL hal hth hg hown HT
      obtain ⟨t0, t1, t2, t3⟩ := id HTB.out
      go_wp2_with fail
      refine (implContains _ _ _ _ _ _ _ _ _ L HT1.out).mono ?_
      rintro e w4 ⟨rfl, hb4⟩
      have HB4 := Lib.hid (HB1.out.trans (hb4.mono HB1.out.size))
      have HT4 := Lib.hid (HT1.out.below hb4)
      have HTB4 := Lib.hid (HTB.out.below hb4)
      have HG4 := Lib.hid (g_trans HG.out (g_of_below HB4.out _))
      clear hb4 HB1 HT1 HTB t0 t1 t2 t3 c0 c1 c2 c3
      cases hm : decide ((th, tv, tm, td) ∈ L)
      · have HX := Lib.hid (HNX.out.trans (HNO.out hm))
        have hwz := HB4.out.size
        have hBB := HBB.out
        have hgz := HG.out.size
        have hlk := HLK.out
        have HOO := Lib.hid (show w4.ownsRow B 29 4 (.slice a' n' cap') n' (flat4 L) from by have := HT4.out.1; unfold ThRow at this; rwa [HTL.out] at this)
        obtain ⟨hc1, hc2⟩ := HT4.out.cap
        unfold maxLen at hc2
        obtain ⟨t0, t1, t2, t3⟩ := id HTB4.out
        clear hm
        go_wp2_with (at_builtin; refine wpList_append_lies _ rfl _ _ _ rfl B 29 i0 _ 4 32 Try.underlying45 hi0 hz0 hz1 hz2 rfl (by omega) (.slice a' n' cap') n' (flat4 L) (by rfl) (World.ownsRow.alloc HOO.out _) ⟨w4.heap.size, 0, none⟩ 1 1 [.int .i64 th, .int .i64 tv, .int .i64 tm, .int .i64 td] (by rfl) (by rfl) (World.news_of_block (cs := #[.int .i64 th, .int .i64 tv, .int .i64 tm, .int .i64 td]) (t := 29) (fr := (0, 0)) (heap_alloc_new w4 _)) (by simp [Value.oneCell']) (by omega) (by unfold maxLen; omega) (by omega) (by first | omega | (simp; omega)) (w4.heap.size + 1) (by simp) ?_; intro gg cp w5 hown5 hgrow5 hat5 hgl5; have HO5 := Lib.hid hown5; have HG5 := Lib.hid hgrow5; have HT5 := Lib.hid hat5; clear hown5 hgrow5 hat5 hgl5 t0 t1 t2 t3)
        have HN5 : RowKit.Hid (OwnNew w4 (.slice a' n' cap') (.slice (some ⟨gg, 0, none⟩) (n' + 1) cp)) := Lib.hid (by
          rcases HT5.out with h | h
          · exact .inl h.symm
          · exact .inr ⟨gg, rfl, by omega⟩)
        go_roundw
        case rel =>
          refine ⟨k + 1, _, _, _, hlt, by go_num, rfl, ⟨?_, ?_⟩, ?_, ?_⟩
          · unfold ThRow
            rw [HX.out, flat4_one, List.length_append, HTL.out]
            exact HO5.out
          · rw [HX.out, List.length_append, HTL.out]; rfl
          · exact g_own HG4.out (g_trans (g_of_below (cd_al w4 _) _) HG5.out) HW.out
          · exact ownNew_trans HW.out HN5.out HG4.out.size
        case measure => simp [intOf]; omega
      · have HX := Lib.hid (HNX.out.trans (HYS.out hm))
        clear hm
        go_wp2_with fail
        go_roundw
        case rel => exact ⟨k + 1, a', n', cap', hlt, by go_num, rfl, by rw [HX.out]; exact HT4.out, HG4.out, HW.out⟩
        case measure => simp [intOf]; omega
    · obtain rfl : k = m := by omega
      have HE := Lib.hid (show anV l os = anTo l os k by unfold anV; rw [HON.out])
      clear hth hg hown
      go_wp2_with fail
      go_ret
      exact ⟨_, rfl, by rw [HE.out]; exact HT.out.2 ▸ HT.out.1, HG.out, HW.out⟩
end Go.Proofs.Ytibcalpkmjjilaa

/- Corners: the contract of the program's cornersFrom. By program (gen_from.py). -/
namespace Go.Proofs.Ytibcalpkmjjilaa
set_option maxRecDepth 100000
open Go.ChangeShapes Go.WideShapes Go.ChangeAt Go.RowKit

theorem rbox_new (w : World) (h v m d : Int) : TBox (w.alloc (.cells #[.int .i64 h, .int .i64 v, .int .i64 m, .int .i64 d] 25)) w.heap.size h v m d := by
  refine ⟨?_, ?_, ?_, ?_⟩ <;> go_simp
set_option maxRecDepth 100000 in
set_option maxHeartbeats 8000000 in
theorem cornersFrom (w : World) (B : Nat) (ra : Option Addr) (m rc i : Nat) (rs : List Cd) (hr : Cds w B ra m rc rs) (hi : i < m) (hm : m ≤ 20) :
    Calls Try.prog 51 #[.slice ra m rc, .int .i64 i] w fun e w' => ∃ v, e = .returned v ∧ ThRow w' w.heap.size v (cfV rs i) ∧ Below w.heap.size w w' := by
  obtain ⟨i0, hi0, hz0, hz1, hz2⟩ := info_parts Try.infoTr
  obtain ⟨hnc, hcm⟩ := hr.cap
  unfold maxLen at hcm
  have HN := Lib.hid hr.2
  have HR := Lib.hid hr
  obtain ⟨g, rfl, -⟩ := hr.at 0 (by omega)
  clear hr
  go_enter Try.func51, Try.ntmps51
  go_wp2_with fail
  go_loopw [5, 6] (fun q t w2 => ∃ (k : Nat) (a : Option Addr) (n cap : Nat), i < k ∧ k ≤ m ∧ t = .int .i64 k ∧ q = .slice a n cap ∧ Ths w2 w.heap.size a n cap (cfK rs i k) ∧ Below w.heap.size w w2)
    (fun _ t _ => m - (intOf t).toNat)
  case atStart => exact ⟨i + 1, none, 0, 0, Nat.lt_succ_self _, hi, by go_num, rfl, by rw [cfK_low _ _ _ (Nat.le_refl _)]; exact ⟨ThRow.nil _ _, rfl⟩, Below.refl _ _⟩
  case round =>
    obtain ⟨k, a2, n2, cap2, hik, hkm, rfl, rfl, hth, hbw⟩ := hrel
    have HB := Lib.hid hbw
    have HT := Lib.hid hth
    clear hth
    by_cases hltk : k < m
    · have HK2 := Lib.hid (cfK_next rs i k hik)
      by_cases hmk : m = k + 1
      · have HM := Lib.hid (show cfM rs i k (cfK rs i k) rs.length = cfK rs i k from cfM_low _ _ _ _ _ (by rw [HN.out, hmk]; exact Nat.le_refl _))
        have hz : m - (k + 1) = 0 := by omega
        have hkm2 : k + 1 ≤ m := hltk
        clear hbw hmk
        by_cases hrc : rc = k + 1
        · subst hrc
          go_wp2_with fail
          refine wp_loop_rounds 1 ?_
          rw [rounds_succ]
          go_wp2_with fail
          go_roundw
          case rel => exact ⟨k + 1, a2, n2, cap2, Nat.lt_succ_of_lt hik, hltk, by go_num, rfl, by rw [HK2.out, HM.out]; exact HT.out, HB.out⟩
          case measure => simp [intOf]; omega
        · go_wp2_with fail
          refine wp_loop_rounds 1 ?_
          rw [rounds_succ]
          go_wp2_with fail
          go_roundw
          case rel => exact ⟨k + 1, a2, n2, cap2, Nat.lt_succ_of_lt hik, hltk, by go_num, rfl, by rw [HK2.out, HM.out]; exact HT.out, HB.out⟩
          case measure => simp [intOf]; omega
      · have hrc : ¬ rc = k + 1 := by omega
        have hrc2 : k + 1 < rc := by omega
        clear hbw
        go_wp2_with fail
        obtain ⟨L2, hL2⟩ : ∃ L2, cfK rs i k = L2 := ⟨_, rfl⟩
        have HLN := Lib.hid (show (cfK rs i k).length ≤ 400 by
          have h1 := cfK_len rs i k
          rw [HN.out] at h1
          have h6 : k * m ≤ 20 * 20 := Nat.mul_le_mul (by omega) (by omega)
          omega)
        rw [hL2] at HK2 HT HLN
        clear hL2
        rename World => w2
        go_loopw [5, 24] (fun q t w3 => ∃ (j : Nat) (a : Option Addr) (n cap : Nat), k + 1 + j ≤ m ∧ t = .int .i64 j ∧ q = .slice a n cap ∧ Ths w3 w.heap.size a n cap (cfM rs i k L2 (k + 1 + j)) ∧ Below w.heap.size w w3)
          (fun _ t _ => m - (intOf t).toNat)
        case atStart => exact ⟨0, a2, n2, cap2, hltk, rfl, rfl, by rw [cfM_low _ _ _ _ _ (Nat.le_refl _)]; exact HT.out, HB.out⟩
        case round =>
          clear HT HB
          obtain ⟨j, a3, n3, cap3, hj, rfl, rfl, hth, hbw⟩ := hrel
          have HB := Lib.hid hbw
          have HT := Lib.hid hth
          have HLT := Lib.hid hth.2
          clear hth
          by_cases hltj : k + 1 + j < m
          · obtain ⟨g', hg', -, p0, p1, p2, p3⟩ := (HR.out.below hbw).at i hi
            simp only [Option.some.injEq, Addr.mk.injEq, and_true] at hg'
            subst hg'
            obtain ⟨⟨px, py, pz, pu⟩, hpq⟩ : ∃ q, cd rs i = q := ⟨_, rfl⟩
            rw [hpq] at p0 p1 p2 p3
            dsimp only at p0 p1 p2 p3
            obtain ⟨g', hg', -, q0, q1, q2, q3⟩ := (HR.out.below hbw).at k hltk
            simp only [Option.some.injEq, Addr.mk.injEq, and_true] at hg'
            subst hg'
            obtain ⟨⟨qx, qy, qz, qu⟩, hqq⟩ : ∃ q, cd rs k = q := ⟨_, rfl⟩
            rw [hqq] at q0 q1 q2 q3
            dsimp only at q0 q1 q2 q3
            obtain ⟨g', hg', -, r0, r1, r2, r3⟩ := (HR.out.below hbw).at (k + 1 + j) hltj
            simp only [Option.some.injEq, Addr.mk.injEq, and_true] at hg'
            subst hg'
            rw [show (k + 1 + j) * 4 = (k + 1) * 4 + j * 4 by omega] at r0 r1 r2 r3
            obtain ⟨⟨rx, ry, rz, ru⟩, hrq⟩ : ∃ q, cd rs (k + 1 + j) = q := ⟨_, rfl⟩
            rw [hrq] at r0 r1 r2 r3
            dsimp only at r0 r1 r2 r3
            have HST := Lib.hid (show cfM rs i k L2 (k + 1 + j + 1) = cfAdd rs (cfM rs i k L2 (k + 1 + j)) (px, py, pz, pu) (qx, qy, qz, qu) (rx, ry, rz, ru) by rw [cfM_next _ _ _ _ _ (by omega), hpq, hqq, hrq])
            have HN3 := Lib.hid (show n3 ≤ 1000000 by have h1 := cfM_len rs L2 i k (k + 1 + j); have h2 := HLN.out; have h4 := HLT.out; omega)
            clear hpq hqq hrq
            have HS := Lib.hid (fun w => implSolveRows px py pz pu qx qy qz qu rx ry rz ru w)
            rw [show slvV (px, py, pz, pu) (qx, qy, qz, qu) (rx, ry, rz, ru) = .tuple #[.agg #[.int .i64 (soT (px, py, pz, pu) (qx, qy, qz, qu) (rx, ry, rz, ru)).1, .int .i64 (soT (px, py, pz, pu) (qx, qy, qz, qu) (rx, ry, rz, ru)).2.1, .int .i64 (soT (px, py, pz, pu) (qx, qy, qz, qu) (rx, ry, rz, ru)).2.2.1, .int .i64 (soT (px, py, pz, pu) (qx, qy, qz, qu) (rx, ry, rz, ru)).2.2.2], .bool (soB (px, py, pz, pu) (qx, qy, qz, qu) (rx, ry, rz, ru))] from rfl] at HS
            have HA := Lib.hid (cfAdd_no (rs := rs) (l := cfM rs i k L2 (k + 1 + j)) (p := (px, py, pz, pu)) (q := (qx, qy, qz, qu)) (r := (rx, ry, rz, ru)))
            have HC := Lib.hid (cfAdd_ful (rs := rs) (l := cfM rs i k L2 (k + 1 + j)) (p := (px, py, pz, pu)) (q := (qx, qy, qz, qu)) (r := (rx, ry, rz, ru)))
            have HY := Lib.hid (cfAdd_yes (rs := rs) (l := cfM rs i k L2 (k + 1 + j)) (p := (px, py, pz, pu)) (q := (qx, qy, qz, qu)) (r := (rx, ry, rz, ru)))
            obtain ⟨⟨th, tv, tm, td⟩, ht⟩ : ∃ t, soT (px, py, pz, pu) (qx, qy, qz, qu) (rx, ry, rz, ru) = t := ⟨_, rfl⟩
            obtain ⟨o, ho⟩ : ∃ o, soB (px, py, pz, pu) (qx, qy, qz, qu) (rx, ry, rz, ru) = o := ⟨_, rfl⟩
            rw [ht, ho] at HS
            rw [ht] at HC HY
            rw [ho] at HA HY
            rw [← HST.out] at HA HC HY
            dsimp only at HS HC HY
            clear ht ho HST
            obtain ⟨L3, hL3⟩ : ∃ L3, cfM rs i k L2 (k + 1 + j) = L3 := ⟨_, rfl⟩
            rw [hL3] at HT HLT HA HC HY
            clear hL3
            have hal := cd_al wr (.cells #[.int .i64 rx, .int .i64 ry, .int .i64 rz, .int .i64 ru] 25)
            have HBZ := Lib.hid (HB.out.trans (hal.mono HB.out.size))
            have HTZ := Lib.hid (HT.out.below hal)
            replace p0 := tcell p0 hal
            replace p1 := tcell p1 hal
            replace p2 := tcell p2 hal
            replace p3 := tcell p3 hal
            replace q0 := tcell q0 hal
            replace q1 := tcell q1 hal
            replace q2 := tcell q2 hal
            replace q3 := tcell q3 hal
            obtain ⟨b0, b1, b2, b3⟩ := rbox_new wr rx ry rz ru
            go_upto_region 8 with fail
            generalize hW : wr.alloc (.cells #[.int .i64 rx, .int .i64 ry, .int .i64 rz, .int .i64 ru] 25) = W at *
            obtain ⟨bx, hbx⟩ : ∃ bx, wr.heap.size = bx := ⟨_, rfl⟩
            rw [hbx] at b0 b1 b2 b3 ⊢
            clear hW hbx hal hbw r0 r1 r2 r3 HB HT
            have F0 := Lib.hid (fun (U : World) (hU : Below W.heap.size W U) => (⟨tcell p0 hU, tcell p1 hU, tcell p2 hU, tcell p3 hU, tcell q0 hU, tcell q1 hU, tcell q2 hU, tcell q3 hU, tcell b0 hU, tcell b1 hU, tcell b2 hU, tcell b3 hU⟩ : U.cell? ⟨g, i * 4, none⟩ = some (.int .i64 px) ∧ U.cell? ⟨g, i * 4 + 1, none⟩ = some (.int .i64 py) ∧ U.cell? ⟨g, i * 4 + 2, none⟩ = some (.int .i64 pz) ∧ U.cell? ⟨g, i * 4 + 3, none⟩ = some (.int .i64 pu) ∧ U.cell? ⟨g, k * 4, none⟩ = some (.int .i64 qx) ∧ U.cell? ⟨g, k * 4 + 1, none⟩ = some (.int .i64 qy) ∧ U.cell? ⟨g, k * 4 + 2, none⟩ = some (.int .i64 qz) ∧ U.cell? ⟨g, k * 4 + 3, none⟩ = some (.int .i64 qu) ∧ U.cell? ⟨bx, 0, none⟩ = some (.int .i64 rx) ∧ U.cell? ⟨bx, 1, none⟩ = some (.int .i64 ry) ∧ U.cell? ⟨bx, 2, none⟩ = some (.int .i64 rz) ∧ U.cell? ⟨bx, 3, none⟩ = some (.int .i64 ru)))
            have ZZ := Lib.hid (Below.refl W.heap.size W)
            have c1 := Nat.ne_of_lt (cell_block_lt p0)
            dsimp only at c1
            have c2 := Ne.symm c1
            have c3 := Nat.ne_of_lt (cell_block_lt b0)
            dsimp only at c3
            have c4 := Ne.symm c3
            go_cut [9, 10] from 25 to 40 (fun p q wx => ∃ b : Nat, p = .pointer (some ⟨b, 0, none⟩) ∧ q = .bool o ∧ TBox wx b th tv tm td ∧ Below W.heap.size W wx)
            case first =>
              go_region_held3 (fun w' => w'.cell? ⟨g, i * 4, none⟩ = some (.int .i64 px) ∧ w'.cell? ⟨g, i * 4 + 1, none⟩ = some (.int .i64 py) ∧ w'.cell? ⟨g, i * 4 + 2, none⟩ = some (.int .i64 pz) ∧ w'.cell? ⟨g, i * 4 + 3, none⟩ = some (.int .i64 pu) ∧ w'.cell? ⟨g, k * 4, none⟩ = some (.int .i64 qx) ∧ w'.cell? ⟨g, k * 4 + 1, none⟩ = some (.int .i64 qy) ∧ w'.cell? ⟨g, k * 4 + 2, none⟩ = some (.int .i64 qz) ∧ w'.cell? ⟨g, k * 4 + 3, none⟩ = some (.int .i64 qu) ∧ w'.cell? ⟨bx, 0, none⟩ = some (.int .i64 rx) ∧ w'.cell? ⟨bx, 1, none⟩ = some (.int .i64 ry) ∧ w'.cell? ⟨bx, 2, none⟩ = some (.int .i64 rz) ∧ w'.cell? ⟨bx, 3, none⟩ = some (.int .i64 ru))
                (first | (exact F0.out _ ZZ.out) | (exact F0.out _ (tbelowD ZZ.out)) | (exact F0.out _ (below_drewN ZZ.out _)) | (exact F0.out _ (cal ZZ.out _)) | (exact F0.out _ (cal (tbelowD ZZ.out) _)) | (exact F0.out _ (cal (below_drewN ZZ.out _) _)) | (exact F0.out _ (tbelowD (cal ZZ.out _))) | (refine ⟨?_, ?_, ?_, ?_, ?_, ?_, ?_, ?_, ?_, ?_, ?_, ?_⟩ <;> exact tcell_sf (by assumption) (by assumption)) | go_keep | trivial)
                ((go_at_call 8; refine (HS.out _).mono ?_; rintro e y ⟨rfl, hy⟩; (first | (have z := ft_dal hy) | (have z := ft_al hy) | skip); have ZZ : RowKit.Hid (Below W.heap.size W y) := Lib.hid (by first | exact cstep ZZ hy | exact cstepD ZZ hy | exact cstepA ZZ hy | exact cstepDA ZZ hy); clear hy; have sz := ZZ.out.size; obtain ⟨p0, p1, p2, p3, q0, q1, q2, q3, b0, b1, b2, b3⟩ := F0.out _ ZZ.out; have c1 := Nat.ne_of_lt (cell_block_lt p0); dsimp only at c1; have c2 := Ne.symm c1; have c3 := Nat.ne_of_lt (cell_block_lt b0); dsimp only at c3; have c4 := Ne.symm c3; (try (obtain ⟨zc, zd, ze, zh, zf, zl⟩ := z))))
              all_goals
                go_wp2_with fail
                go_meet
                refine ⟨_, rfl, rfl, ⟨by first | (go_simp; done) | (go_keep; done), by first | (go_simp; done) | (go_keep; done), by first | (go_simp; done) | (go_keep; done), by first | (go_simp; done) | (go_keep; done)⟩, ?_⟩
                first
                  | (with_reducible exact ZZ.out)
                  | (with_reducible exact cal ZZ.out _)
                  | (with_reducible exact tbelowD (cal ZZ.out _))
                  | (with_reducible exact cal (tbelowD ZZ.out) _)
                  | (iterate 4 (with_reducible refine Below.setCell ?_ (by first | exact Nat.le_refl _ | with_reducible assumption | omega) _)); with_reducible exact ZZ.out
            case rest =>
              obtain ⟨b, rfl, rfl, htb, hbx⟩ := hcut
              have HB4 := Lib.hid (HBZ.out.trans (hbx.mono HBZ.out.size))
              have HT4 := Lib.hid (HTZ.out.below hbx)
              have HTB := Lib.hid htb
              clear hbx htb F0 ZZ HBZ HTZ HS c1 c2 c3 c4 p0 p1 p2 p3 q0 q1 q2 q3 b0 b1 b2 b3
              cases o
              · have HX := Lib.hid (HA.out (by first | rfl | trivial))
                go_wp2_with fail
                go_roundw
                case rel => exact ⟨j + 1, a3, n3, cap3, hltj, by go_num, rfl, by rw [show k + 1 + (j + 1) = k + 1 + j + 1 from rfl, HX.out]; exact HT4.out, HB4.out⟩
                case measure => simp [intOf]; omega
              obtain ⟨t0, t1, t2, t3⟩ := id HTB.out
              have HRR := Lib.hid (HR.out.below HB4.out)
              go_wp2_with fail
              refine (implFulfillsAll _ _ _ _ _ _ _ _ _ rs HRR.out).mono ?_
              rintro e w5 ⟨rfl, hb5⟩
              have HB5 := Lib.hid (HB4.out.trans (hb5.mono HB4.out.size))
              have HT5 := Lib.hid (HT4.out.below hb5)
              have HTB5 := Lib.hid (HTB.out.below hb5)
              clear hb5 HB4 HT4 HTB HRR t0 t1 t2 t3
              cases hf : fulAll th tv tm td rs
              · have HX := Lib.hid (HC.out hf)
                clear hf
                go_wp2_with fail
                go_roundw
                case rel => exact ⟨j + 1, a3, n3, cap3, hltj, by go_num, rfl, by rw [show k + 1 + (j + 1) = k + 1 + j + 1 from rfl, HX.out]; exact HT5.out, HB5.out⟩
                case measure => simp [intOf]; omega
              have HX := Lib.hid (HY.out (by first | rfl | trivial) hf)
              clear hf
              have hwz := HB5.out.size
              obtain ⟨hcc3, hcm3⟩ := HT5.out.cap
              unfold maxLen at hcm3
              have hn3 := HN3.out
              have HO := Lib.hid (show w5.ownsRow w.heap.size 29 4 (.slice a3 n3 cap3) n3 (flat4 L3) from by have := HT5.out.1; unfold ThRow at this; rwa [HLT.out] at this)
              obtain ⟨t0, t1, t2, t3⟩ := id HTB5.out
              go_wp2_with (at_builtin; refine wpList_append_lies _ rfl _ _ _ rfl w.heap.size 29 i0 _ 4 32 Try.underlying45 hi0 hz0 hz1 hz2 rfl (by omega) (.slice a3 n3 cap3) n3 (flat4 L3) (by rfl) (World.ownsRow.alloc HO.out _) ⟨w5.heap.size, 0, none⟩ 1 1 [.int .i64 th, .int .i64 tv, .int .i64 tm, .int .i64 td] (by rfl) (by rfl) (World.news_of_block (cs := #[.int .i64 th, .int .i64 tv, .int .i64 tm, .int .i64 td]) (t := 29) (fr := (0, 0)) (heap_alloc_new w5 _)) (by simp [Value.oneCell']) (by omega) (by unfold maxLen; omega) (by omega) (by first | omega | (simp; omega)) (w5.heap.size + 1) (by simp) ?_; intro gg cp w9 hown9 hgrow9 hat9 hgl9; have HO9 := Lib.hid hown9; have HG9 := Lib.hid hgrow9; clear hown9 hgrow9 hat9 hgl9 t0 t1 t2 t3)
              have HB9 := Lib.hid (below_rowed (HB5.out.alloc HB5.out.size _) HG9.out (by simp; omega) (fun y hy => (World.ownsRow.lt HO.out y hy).1))
              have HT9 : RowKit.Hid (Ths w9 w.heap.size (some ⟨gg, 0, none⟩) (n3 + 1) cp (cfM rs i k L2 (k + 1 + j + 1))) := Lib.hid (by
                rw [HX.out]
                refine ⟨?_, by rw [List.length_append, HLT.out]; rfl⟩
                unfold ThRow
                rw [flat4_one, List.length_append, HLT.out]
                exact HO9.out)
              go_roundw
              case rel => exact ⟨j + 1, _, _, _, hltj, by go_num, rfl, HT9.out, HB9.out⟩
              case measure => simp [intOf]; omega
          · have hjm : k + 1 + j = m := by omega
            have HE := Lib.hid (show cfM rs i k L2 (k + 1 + j) = cfK rs i (k + 1) by rw [HK2.out, HN.out, hjm])
            have hjz : j = m - (k + 1) := by omega
            have hnl : ¬ (j < m - (k + 1)) := by omega
            clear hbw hjm hjz
            go_wp2_with fail
            go_roundw
            case rel => exact ⟨k + 1, a3, n3, cap3, Nat.lt_succ_of_lt hik, hltk, by go_num, rfl, by rw [← HE.out]; exact HT.out, HB.out⟩
            case measure => simp [intOf]; omega
    · have hke : k = m := by omega
      have HE := Lib.hid (show cfV rs i = cfK rs i k by unfold cfV; rw [HN.out, hke])
      have hnl : ¬ (k < m) := hltk
      clear hbw hke
      go_wp2_with fail
      go_ret
      exact ⟨_, rfl, by rw [HE.out]; exact HT.out.2 ▸ HT.out.1, HB.out⟩
end Go.Proofs.Ytibcalpkmjjilaa

/- Corners: the contract of the program's CornersOf. -/
namespace Go.Proofs.Ytibcalpkmjjilaa
set_option maxRecDepth 100000
open Go.ChangeShapes Go.WideShapes Go.ChangeAt Go.RowKit

set_option maxRecDepth 100000 in
set_option maxHeartbeats 8000000 in
theorem implCornersOf (w : World) (B : Nat) (ra : Option Addr) (m rc : Nat) (rs : List Cd) (hr : Cds w B ra m rc rs) :
    Calls Try.prog 16 #[.slice ra m rc] w fun e w' => ∃ v, e = .returned v ∧ ThRow w' w.heap.size v (coV rs) ∧ Below w.heap.size w w' := by
  obtain ⟨hnc, hcm⟩ := hr.cap
  unfold maxLen at hcm
  have HN := Lib.hid hr.2
  have HR := Lib.hid hr
  have HC := Lib.hid (fun w => isBetweenR (m : Int) 3 20 w (by omega))
  cases hn : inR (m : Int) 3 20
  · have HV := Lib.hid (coV_no (coOk_n hr.2 hn))
    clear hr
    go_enter Try.func16, Try.ntmps16
    go_wp2_with fail
    refine (HC.out _).mono ?_
    rintro e w1 ⟨rfl, rfl⟩
    rw [hn]
    go_wp2_with fail
    go_ret
    exact ⟨_, rfl, by rw [HV.out]; exact ThRow.nil _ _, Below.refl _ _⟩
  cases hc : cdsOk rs
  · have HV := Lib.hid (coV_no (coOk_c hc))
    clear hr
    go_enter Try.func16, Try.ntmps16
    go_wp2_with fail
    refine (HC.out _).mono ?_
    rintro e w1 ⟨rfl, rfl⟩
    rw [hn]
    go_wp2_with fail
    refine (areValidRows _ _ _ _ _ rs HR.out).mono ?_
    rintro e w1 ⟨rfl, hb1⟩
    rw [hc]
    go_wp2_with fail
    go_ret
    exact ⟨_, rfl, by rw [HV.out]; exact ThRow.nil _ _, hb1⟩
  have hok := coOk_of hr.2 hn hc
  have HOK := Lib.hid hok
  have HV := Lib.hid (show coV rs = coI rs m by rw [coV_yes hok, hr.2])
  have HVL := Lib.hid (fun k => coI_len rs k)
  have h3 := inR_iff.1 hn
  have HCC := Lib.hid hc
  clear hr hok hc
  go_enter Try.func16, Try.ntmps16
  go_wp2_with fail
  refine (HC.out _).mono ?_
  rintro e w1 ⟨rfl, rfl⟩
  rw [hn]
  go_wp2_with fail
  refine (areValidRows _ _ _ _ _ rs HR.out).mono ?_
  rintro e w1 ⟨rfl, hb1⟩
  rw [HCC.out]
  have HB1 := Lib.hid hb1
  clear hb1 HCC HC hn
  go_wp2_with fail
  go_loopw [3, 16] (fun q t wr => ∃ (i : Nat) (a : Option Addr) (n cap : Nat), i ≤ m ∧ t = .int .i64 i ∧ q = .slice a n cap ∧ Ths wr w.heap.size a n cap (coI rs i) ∧ Below w.heap.size w wr)
    (fun _ t _ => m - (intOf t).toNat)
  case atStart => exact ⟨0, none, 0, 0, Nat.zero_le _, rfl, rfl, ⟨ThRow.nil _ _, rfl⟩, HB1.out⟩
  case round =>
    clear HB1
    obtain ⟨i, a, n, cap, hi, rfl, rfl, hth, hbw⟩ := hrel
    have HB := Lib.hid hbw
    have HT := Lib.hid hth
    by_cases hlt : i < m
    · have HNI := Lib.hid (cf_I HOK.out i)
      have HRR := Lib.hid (HR.out.below hbw)
      have HLI := Lib.hid (show n ≤ 8000 by
        have h1 := HVL.out i
        rw [HN.out] at h1
        have h2 := hth.2
        have h4 : m * m ≤ 20 * 20 := Nat.mul_le_mul (by omega) (by omega)
        have h5 : i * (m * m) ≤ 19 * (20 * 20) := Nat.mul_le_mul (by omega) h4
        omega)
      have HLV := Lib.hid (cfV_len rs i)
      clear hth hbw
      go_wp2_with fail
      refine (cornersFrom _ _ _ _ _ _ rs HRR.out hlt (by omega)).mono ?_
      rintro e w4 ⟨v, rfl, hrow, hb4⟩
      obtain ⟨oa, on, oc, rfl, ho⟩ := thsOf hrow
      have HO4 := Lib.hid ho
      have HT4 := Lib.hid (HT.out.below hb4)
      have HB4 := Lib.hid (HB.out.trans (hb4.mono HB.out.size))
      have HNE := Lib.hid (show ∀ g : Nat, oa = some ⟨g, 0, none⟩ → (Value.slice a n cap).ownBlock ≠ some g from fun g hg he => by
        have h1 := (own_lt HT.out he).2
        have h2 := (own_lt ho (show (Value.slice oa on oc).ownBlock = some g by rw [hg]; rfl)).1
        omega)
      have HLN := Lib.hid (show n + on ≤ 1000000 by
        have h1 := HLV.out
        rw [HN.out] at h1
        have h2 := ho.2
        have h3 := HLI.out
        have h4 : m * m ≤ 20 * 20 := Nat.mul_le_mul (by omega) (by omega)
        omega)
      clear hrow hb4 ho HRR
      go_wp2_with fail
      refine (appendNew _ w.heap.size _ _ _ _ _ _ _ (coI rs i) (cfV rs i) HT4.out HB4.out.size HLN.out HO4.out HNE.out).mono ?_
      rintro e w5 ⟨v', rfl, hrow, hg, hown⟩
      rw [← HNI.out] at hrow
      obtain ⟨a4, n4, cap4, rfl, hth4⟩ := thsOf hrow
      have HT5 := Lib.hid hth4
      have HB5 := Lib.hid (below_rowed HB4.out hg HB4.out.size (fun x hx => (World.ownsRow.lt HT4.out.1 x hx).1))
      clear hrow hg hown hth4
      go_wp2_with fail
      go_roundw
      case rel => exact ⟨i + 1, a4, n4, cap4, hlt, by go_num, rfl, HT5.out, HB5.out⟩
      case measure => simp [intOf]; omega
    · have him : i = m := by omega
      have HE := Lib.hid (show coV rs = coI rs i by rw [HV.out, him])
      clear hbw hth him
      go_wp2_with fail
      go_ret
      exact ⟨_, rfl, by rw [HE.out]; exact HT.out.2 ▸ HT.out.1, HB.out⟩
end Go.Proofs.Ytibcalpkmjjilaa
