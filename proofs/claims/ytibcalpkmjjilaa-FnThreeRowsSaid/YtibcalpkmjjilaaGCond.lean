/- Conditions, plainly: valid, fulfilled by a thrust, all of them, how many are broken, as functions of the list of rows; Conditions, one by one: the contracts of RowOk and Fulfills of the program and of the model, and of what they call; Lists of conditions: FulfillsAll and CountBroken of the program and of the model; whether all are valid; Steps of a walk: what holds in a world that has only grown since, behind an append; a row that grows by one or two structs of four ints. -/
import Derived.Test.YtibcalpkmjjilaaGPlain
import Derived.Test.YtibcalpkmjjilaaGFour
import Derived.Test.YtibcalpkmjjilaaGThrust
import Derived.Deep.RegionWith
import Derived.Deep.AppendLies

/- Conditions, plainly: valid, fulfilled by a thrust, all of them, how many are broken, as functions of the list of rows. -/
namespace Go.Proofs.Ytibcalpkmjjilaa
set_option maxRecDepth 100000

/-- What RowOk answers. -/
def cdOk (a b c d : Int) : Bool := inR a (-100) 100 && (inR b (-100) 100 && (inR c (-1) 1 && inR d (-1000000000) 1000000000))
theorem cdOk_iff {a b c d : Int} : cdOk a b c d = true ↔ (-100 ≤ a ∧ a ≤ 100) ∧ (-100 ≤ b ∧ b ≤ 100) ∧ (-1 ≤ c ∧ c ≤ 1) ∧ (-1000000000 ≤ d ∧ d ≤ 1000000000) := by
  unfold cdOk; simp only [Bool.and_eq_true, inR_iff]
theorem cdOk_a {a b c d : Int} (h : inR a (-100) 100 = false) : cdOk a b c d = false := by unfold cdOk; rw [h]; rfl
theorem cdOk_b {a b c d : Int} (h : inR b (-100) 100 = false) : cdOk a b c d = false := by unfold cdOk; rw [h]; simp
theorem cdOk_c {a b c d : Int} (h : inR c (-1) 1 = false) : cdOk a b c d = false := by unfold cdOk; rw [h]; simp
theorem cdOk_d {a b c d : Int} (h : inR d (-1000000000) 1000000000 = false) : cdOk a b c d = false := by unfold cdOk; rw [h]; simp
theorem cdOk_yes {a b c d : Int} (ha : inR a (-100) 100 = true) (hb : inR b (-100) 100 = true) (hc : inR c (-1) 1 = true) : cdOk a b c d = inR d (-1000000000) 1000000000 := by unfold cdOk; rw [ha, hb, hc]; rfl

/-- By how much a thrust exceeds a condition. -/
def cdX (h v m d a b c e : Int) : Int := a * h + b * v + c * m - e * d
/-- A valid thrust fulfills a valid condition. -/
def cdH (h v m d a b c e : Int) : Bool := decide (a * h + b * v + c * m ≤ e * d)
theorem cdH_iff {h v m d a b c e : Int} : cdH h v m d a b c e = true ↔ a * h + b * v + c * m ≤ e * d := by unfold cdH; simp
theorem cdH_X {h v m d a b c e : Int} : cdH h v m d a b c e = decide (cdX h v m d a b c e ≤ 0) := by
  unfold cdH cdX; rw [Bool.eq_iff_iff, decide_eq_true_iff, decide_eq_true_iff]; omega
theorem cdH_not {h v m d a b c e : Int} : decide (0 < cdX h v m d a b c e) = !cdH h v m d a b c e := by
  unfold cdH cdX; rw [Bool.eq_iff_iff, decide_eq_true_iff, Bool.not_eq_true', decide_eq_false_iff_not]; omega
/-- The products are small. -/
structure CdBd (h v m d a b c e : Int) : Prop where
  ah : -100000000000000 ≤ a * h ∧ a * h ≤ 100000000000000
  bv : -1000000000000000 ≤ b * v ∧ b * v ≤ 1000000000000000
  cm : -10000000000000 ≤ c * m ∧ c * m ≤ 10000000000000
  ed : -1000000000000000 ≤ e * d ∧ e * d ≤ 1000000000000000
theorem cd_bd {h v m d a b c e : Int} (ht : okT h v m d = true) (hr : cdOk a b c e = true) : CdBd h v m d a b c e := by
  obtain ⟨h1, h2, h3, h4, -⟩ := okT_iff.1 ht
  obtain ⟨k1, k2, k3, k4⟩ := cdOk_iff.1 hr
  have p := mulT_bd (x := a) (y := h) 100 1000000000000 (by omega) (by omega)
  have q := mulT_bd (x := b) (y := v) 100 10000000000000 (by omega) (by omega)
  have r := mulT_bd (x := c) (y := m) 1 10000000000000 (by omega) (by omega)
  have s := mulT_bd (x := e) (y := d) 1000000000 1000000 (by omega) (by omega)
  exact ⟨by omega, by omega, by omega, by omega⟩

/-- A valid condition that is fulfilled; what Fulfills answers. -/
def cdF (h v m d a b c e : Int) : Bool := cdOk a b c e && cdH h v m d a b c e
def fulV (h v m d a b c e : Int) : Bool := okT h v m d && cdF h v m d a b c e
/-- The same of the condition at an index. -/
def cdFAt (h v m d : Int) (rs : List Cd) (i : Nat) : Bool := cdF h v m d (cd rs i).1 (cd rs i).2.1 (cd rs i).2.2.1 (cd rs i).2.2.2
def fulAt (h v m d : Int) (rs : List Cd) (i : Nat) : Bool := fulV h v m d (cd rs i).1 (cd rs i).2.1 (cd rs i).2.2.1 (cd rs i).2.2.2
theorem fulAt_eq {h v m d : Int} {rs : List Cd} {i : Nat} (ht : okT h v m d = true) : fulAt h v m d rs i = cdFAt h v m d rs i := by unfold fulAt fulV; rw [ht]; rfl
theorem fulAt_no {h v m d : Int} {rs : List Cd} {i : Nat} (ht : okT h v m d = false) : fulAt h v m d rs i = false := by unfold fulAt fulV; rw [ht]; rfl
/-- What FulfillsAll answers. -/
def fulAll (h v m d : Int) (rs : List Cd) : Bool := allV rs.length (fulAt h v m d rs) && inR rs.length 1 40
theorem fulAll_n {h v m d : Int} {rs : List Cd} (hn : inR rs.length 1 40 = false) : fulAll h v m d rs = false := by unfold fulAll; rw [hn, Bool.and_false]
theorem fulAll_t {h v m d : Int} {rs : List Cd} (ht : okT h v m d = false) : fulAll h v m d rs = false := by
  cases hn : inR (rs.length : Int) 1 40
  · exact fulAll_n hn
  · have hp := inR_iff.1 hn
    have : allV rs.length (fulAt h v m d rs) = false := by
      rw [← Bool.not_eq_true, allV_iff]
      exact fun hh => by have := hh 0 (by omega); rw [fulAt_no ht] at this; cases this
    unfold fulAll
    rw [this]
    rfl
theorem fulAll_yes {h v m d : Int} {rs : List Cd} (hn : inR rs.length 1 40 = true) (ht : okT h v m d = true) : fulAll h v m d rs = allV rs.length (cdFAt h v m d rs) := by
  unfold fulAll; rw [hn, Bool.and_true]; exact allV_congr fun i _ => fulAt_eq ht

/-- The condition at an index is valid and broken; how many of the first k are; what CountBroken answers. -/
def brkAt (h v m d : Int) (rs : List Cd) (i : Nat) : Bool := cdOk (cd rs i).1 (cd rs i).2.1 (cd rs i).2.2.1 (cd rs i).2.2.2 && !cdH h v m d (cd rs i).1 (cd rs i).2.1 (cd rs i).2.2.1 (cd rs i).2.2.2
def brkTo (h v m d : Int) (rs : List Cd) : Nat → Nat
  | 0 => 0
  | k + 1 => brkTo h v m d rs k + if brkAt h v m d rs k then 1 else 0
theorem brkTo_le (h v m d : Int) (rs : List Cd) (k : Nat) : brkTo h v m d rs k ≤ k := by
  induction k with
  | zero => exact Nat.le_refl _
  | succ k ih => unfold brkTo; split <;> omega
theorem brkTo_yes {h v m d : Int} {rs : List Cd} {k : Nat} (hb : brkAt h v m d rs k = true) : brkTo h v m d rs (k + 1) = brkTo h v m d rs k + 1 := by
  show _ + (if _ then _ else _) = _; rw [hb]; rfl
theorem brkTo_no {h v m d : Int} {rs : List Cd} {k : Nat} (hb : brkAt h v m d rs k = false) : brkTo h v m d rs (k + 1) = brkTo h v m d rs k := by
  show _ + (if _ then _ else _) = _; rw [hb]; rfl
def brkV (h v m d : Int) (rs : List Cd) : Int := if okT h v m d then ((brkTo h v m d rs rs.length : Nat) : Int) else -1
theorem brkV_no {h v m d : Int} {rs : List Cd} (ht : okT h v m d = false) : brkV h v m d rs = -1 := by unfold brkV; rw [ht]; rfl
theorem brkV_yes {h v m d : Int} {rs : List Cd} (ht : okT h v m d = true) : brkV h v m d rs = ((brkTo h v m d rs rs.length : Nat) : Int) := by unfold brkV; rw [ht]; rfl
end Go.Proofs.Ytibcalpkmjjilaa

/- Conditions, one by one: the contracts of RowOk and Fulfills of the program and of the model, and of what they call. -/
namespace Go.Proofs.Ytibcalpkmjjilaa
set_option maxRecDepth 100000
open Go.ChangeShapes Go.WideShapes Go.ChangeAt Go.RowKit

/-- A condition's numbers by number; the limits of their range. -/
def cdL (a b c d : Int) : List Int := [a, b, c, d]
def cdM : List Int := [100, 100, 1, 1000000000]
theorem cdL_all {a b c d : Int} (h : ∀ j, j < 4 → inR ((cdL a b c d).getD j 0) (-(cdM.getD j 0)) (cdM.getD j 0) = true) : cdOk a b c d = true := by
  have h0 := h 0 (by omega)
  have h1 := h 1 (by omega)
  have h2 := h 2 (by omega)
  have h3 := h 3 (by omega)
  simp [cdL, cdM] at h0 h1 h2 h3
  unfold cdOk; rw [h0, h1, h2, h3]; rfl
theorem cdL_not {a b c d : Int} {j : Nat} (hj : j < 4) (h : inR ((cdL a b c d).getD j 0) (-(cdM.getD j 0)) (cdM.getD j 0) = false) : cdOk a b c d = false := by
  match j, hj with
  | 0, _ => simp [cdL, cdM] at h; exact cdOk_a h
  | 1, _ => simp [cdL, cdM] at h; exact cdOk_b h
  | 2, _ => simp [cdL, cdM] at h; exact cdOk_c h
  | 3, _ => simp [cdL, cdM] at h; exact cdOk_d h
theorem cdM_bd (j : Nat) : 0 ≤ cdM.getD j 0 ∧ cdM.getD j 0 ≤ 1000000000 := by
  match j with
  | 0 => decide
  | 1 => decide
  | 2 => decide
  | 3 => decide
  | n + 4 => simp [cdM]
theorem index4 (a b c d : Int) (k : Nat) (hk : k < 4) : ∀ w, (Instr.index 110 (.agg #[.int .i64 a, .int .i64 b, .int .i64 c, .int .i64 d]) (.int .i64 (k : Int))).run Try.prog w = .ok (.int .i64 ((cdL a b c d).getD k 0)) w := by
  match k, hk with
  | 0, _ => exact fun _ => by kernel_rfl
  | 1, _ => exact fun _ => by kernel_rfl
  | 2, _ => exact fun _ => by kernel_rfl
  | 3, _ => exact fun _ => by kernel_rfl

set_option maxHeartbeats 1000000 in
theorem rowNumbers (a b c d : Int) (w : World) :
    Calls Try.prog 67 #[.agg #[.int .i64 a, .int .i64 b, .int .i64 c, .int .i64 d]] w fun e w' => e = .returned (.agg #[.int .i64 a, .int .i64 b, .int .i64 c, .int .i64 d]) ∧ Below w.heap.size w w' := by
  go_enter Try.func67, Try.ntmps67
  go_wp2_with fail
  refine bodyPost_ret (v := .agg #[.int .i64 a, .int .i64 b, .int .i64 c, .int .i64 d]) (by simp [results, Try.results67, go_sem]) rfl ⟨rfl, ?_⟩
  repeat (first | refine Below.setCell ?_ (by simp <;> omega) _ | refine Below.alloc ?_ (by simp <;> omega) _ | exact Below.refl _ _)

set_option maxHeartbeats 2000000 in
/-- isValid: number by number against the limits. -/
theorem rowValid (a b c d : Int) (w : World) :
    Calls Try.prog 40 #[.agg #[.int .i64 a, .int .i64 b, .int .i64 c, .int .i64 d]] w fun e w' => e = .returned (.bool (cdOk a b c d)) ∧ Below w.heap.size w w' := by
  have hb0 := ((Below.refl w.heap.size w).alloc (Nat.le_refl _) (.cells #[.int .i64 a, .int .i64 b, .int .i64 c, .int .i64 d] 25)).alloc (by simp) (.cells #[.int .i64 100, .int .i64 100, .int .i64 1, .int .i64 1000000000] 110)
  have HB0 := Lib.hid hb0
  clear hb0
  go_enter Try.func40, Try.ntmps40
  go_wp2_with fail
  refine (rowNumbers _ _ _ _ _).mono ?_
  rintro e w1 ⟨rfl, hb1⟩
  have l0 : w1.cell? ⟨w.heap.size + 1, 0, none⟩ = some (.int .i64 100) := tcell (by go_simp) hb1
  have l1 : w1.cell? ⟨w.heap.size + 1, 1, none⟩ = some (.int .i64 100) := tcell (by go_simp) hb1
  have l2 : w1.cell? ⟨w.heap.size + 1, 2, none⟩ = some (.int .i64 1) := tcell (by go_simp) hb1
  have l3 : w1.cell? ⟨w.heap.size + 1, 3, none⟩ = some (.int .i64 1000000000) := tcell (by go_simp) hb1
  have hlim : ∀ k, k < 4 → w1.cell? ⟨w.heap.size + 1, k, none⟩ = some (.int .i64 (cdM.getD k 0)) := by
    intro k hk
    match k, hk with
    | 0, _ => exact l0
    | 1, _ => exact l1
    | 2, _ => exact l2
    | 3, _ => exact l3
  clear l0 l1 l2 l3
  have HL := Lib.hid hlim
  have HB1 := Lib.hid (HB0.out.trans (hb1.mono HB0.out.size))
  clear hb1 HB0 hlim
  go_wp2_with fail
  go_loopw [4, 5, 9] (fun _ _ t wr => ∃ k : Nat, k ≤ 4 ∧ t = .int .i64 k ∧ (∀ j, j < k → inR ((cdL a b c d).getD j 0) (-(cdM.getD j 0)) (cdM.getD j 0) = true) ∧ Below w1.heap.size w1 wr) (fun _ _ t _ => 4 - (intOf t).toNat)
  case atStart => exact ⟨0, Nat.zero_le _, rfl, fun j hj => by omega, Below.refl _ _⟩
  case round =>
    obtain ⟨k, hk, rfl, hall, hbw⟩ := hrel
    have HA := Lib.hid hall
    have HBW := Lib.hid (HB1.out.trans (hbw.mono HB1.out.size))
    have HB2 := Lib.hid hbw
    clear hall
    by_cases hlt : k < 4
    · have ik := index4 a b c d k hlt
      have hc := tcell (HL.out k hlt) hbw
      have hbd := cdM_bd k
      have HN := Lib.hid (fun h => cdL_not (a := a) (b := b) (c := c) (d := d) (j := k) hlt h)
      have HY := Lib.hid (fun (h : inR ((cdL a b c d).getD k 0) (-(cdM.getD k 0)) (cdM.getD k 0) = true) => fun j (hj : j < k + 1) => if e : j = k then by rw [e]; exact h else HA.out j (by omega))
      obtain ⟨n, hn⟩ : ∃ n, (cdL a b c d).getD k 0 = n := ⟨_, rfl⟩
      obtain ⟨l, hl⟩ : ∃ l, cdM.getD k 0 = l := ⟨_, rfl⟩
      rw [hn] at ik HN HY
      rw [hl] at hc hbd HN HY
      have hwl : IntKind.i64.wrap (-l) = -l := IntWalk.i64_in _ (by omega)
      have HC := Lib.hid (fun w => isBetweenR n (-l) l w (by omega))
      clear hn hl hbd hbw HA
      cases hin : inR n (-l) l
      · have HV := Lib.hid (HN.out hin)
        go_wp2_with fail
        have hn1 := Since.nonempty wr
        have s0 := fun (x : Since wr) => (x.cell (w.heap.size + 1) k (cell_block_lt hc)).trans hc
        refine wp_region_since (by kernel_rfl) (by kernel_rfl) ?_
        repeat (go_big_quiet_step (first
          | (go_at_call 48; exact Since.call_same (HC.out _))))
        refine wpQuiet_nil ?_
        rintro w2 ⟨⟨_, hb2⟩, rfl⟩
        rw [hin]
        go_wp2_with fail
        go_ret
        exact ⟨ret_bool HV.out.symm, HBW.out.trans (hb2.mono HBW.out.size)⟩
      · go_wp2_with fail
        have hn1 := Since.nonempty wr
        have s0 := fun (x : Since wr) => (x.cell (w.heap.size + 1) k (cell_block_lt hc)).trans hc
        refine wp_region_since (by kernel_rfl) (by kernel_rfl) ?_
        repeat (go_big_quiet_step (first
          | (go_at_call 48; exact Since.call_same (HC.out _))))
        refine wpQuiet_nil ?_
        rintro w2 ⟨⟨_, hb2⟩, rfl⟩
        rw [hin]
        go_wp2_with fail
        go_roundw
        case rel => exact ⟨k + 1, by omega, by go_num, HY.out hin, HB2.out.trans (hb2.mono HB2.out.size)⟩
        case measure => simp [intOf]; omega
    · obtain rfl : k = 4 := by omega
      have HV := Lib.hid (cdL_all HA.out)
      go_wp2_with fail
      go_ret
      exact ⟨ret_bool HV.out.symm, HBW.out⟩

/-- The first k products of a condition's numbers with a thrust's. -/
def exTo (ns fs : List Int) : Nat → Int
  | 0 => 0
  | k + 1 => exTo ns fs k + ns.getD k 0 * fs.getD k 0
theorem exTo_four (h v m d a b c e : Int) : exTo (cdL a b c e) [h, v, m, -d] 4 = cdX h v m d a b c e := by
  have hn : e * -d = -(e * d) := Int.mul_neg e d
  simp [exTo, cdL, cdX]
  omega
structure ExBd (h v m d a b c e : Int) (k : Nat) : Prop where
  p : -1000000000000000 ≤ (cdL a b c e).getD k 0 * ([h, v, m, -d] : List Int).getD k 0 ∧ (cdL a b c e).getD k 0 * ([h, v, m, -d] : List Int).getD k 0 ≤ 1000000000000000
  s : -4000000000000000 ≤ exTo (cdL a b c e) [h, v, m, -d] k ∧ exTo (cdL a b c e) [h, v, m, -d] k ≤ 4000000000000000
theorem ex_bd {h v m d a b c e : Int} (x : CdBd h v m d a b c e) (k : Nat) (hk : k < 4) : ExBd h v m d a b c e k := by
  obtain ⟨h1, h2, h3, h4⟩ := x
  match k, hk with
  | 0, _ => exact ⟨by simp [cdL]; omega, by simp [exTo]⟩
  | 1, _ => exact ⟨by simp [cdL]; omega, by simp [exTo, cdL]; omega⟩
  | 2, _ => exact ⟨by simp [cdL]; omega, by simp [exTo, cdL]; omega⟩
  | 3, _ =>
    have hn : e * -d = -(e * d) := Int.mul_neg e d
    exact ⟨by simp [cdL]; omega, by simp [exTo, cdL]; omega⟩

set_option maxHeartbeats 2000000 in
/-- excess: by how much a valid thrust exceeds a valid condition. -/
theorem rowExcess (h v m d a b c e : Int) (w : World) (hx : CdBd h v m d a b c e) (hd : -1000000 ≤ d ∧ d ≤ 1000000) :
    Calls Try.prog 70 #[.agg #[.int .i64 a, .int .i64 b, .int .i64 c, .int .i64 e], .agg #[.int .i64 h, .int .i64 v, .int .i64 m, .int .i64 d]] w fun e1 w' => e1 = .returned (.int .i64 (cdX h v m d a b c e)) ∧ Below w.heap.size w w' := by
  have hwd : IntKind.i64.wrap (-d) = -d := IntWalk.i64_in _ (by omega)
  have hb0 := (((Below.refl w.heap.size w).alloc (Nat.le_refl _) (.cells #[.int .i64 a, .int .i64 b, .int .i64 c, .int .i64 e] 25)).alloc (by simp) (.cells #[.int .i64 h, .int .i64 v, .int .i64 m, .int .i64 d] 29)).alloc (by simp <;> omega) (.cells #[.int .i64 h, .int .i64 v, .int .i64 m, .int .i64 (-d)] 110)
  have HB0 := Lib.hid hb0
  have HX := Lib.hid hx
  clear hb0 hx
  go_enter Try.func70, Try.ntmps70
  go_wp2_with fail
  refine (rowNumbers _ _ _ _ _).mono ?_
  rintro e1 w1 ⟨rfl, hb1⟩
  have l0 : w1.cell? ⟨w.heap.size + 1 + 1, 0, none⟩ = some (.int .i64 h) := tcell (by go_simp) hb1
  have l1 : w1.cell? ⟨w.heap.size + 1 + 1, 1, none⟩ = some (.int .i64 v) := tcell (by go_simp) hb1
  have l2 : w1.cell? ⟨w.heap.size + 1 + 1, 2, none⟩ = some (.int .i64 m) := tcell (by go_simp) hb1
  have l3 : w1.cell? ⟨w.heap.size + 1 + 1, 3, none⟩ = some (.int .i64 (-d)) := tcell (by go_simp) hb1
  have hlim : ∀ k, k < 4 → w1.cell? ⟨w.heap.size + 1 + 1, k, none⟩ = some (.int .i64 (([h, v, m, -d] : List Int).getD k 0)) := by
    intro k hk
    match k, hk with
    | 0, _ => exact l0
    | 1, _ => exact l1
    | 2, _ => exact l2
    | 3, _ => exact l3
  clear l0 l1 l2 l3
  have HL := Lib.hid hlim
  have HB1 := Lib.hid (HB0.out.trans (hb1.mono HB0.out.size))
  have HV := Lib.hid (exTo_four h v m d a b c e)
  have HK := Lib.hid (fun k (hk : k < 4) => ex_bd HX.out k hk)
  have HIK := Lib.hid (fun k (hk : k < 4) => index4 a b c e k hk)
  obtain ⟨fs, hfs⟩ : ∃ fs, ([h, v, m, -d] : List Int) = fs := ⟨_, rfl⟩
  have HSB := Lib.hid (fun k (hk : k < 4) => (HK.out k hk).s)
  have HPB := Lib.hid (fun k (hk : k < 4) => (HK.out k hk).p)
  obtain ⟨ns, hns⟩ : ∃ ns, cdL a b c e = ns := ⟨_, rfl⟩
  rw [hfs, hns] at HV HSB HPB
  rw [hfs] at HL
  rw [hns] at HIK
  clear hb1 HB0 hlim HX HK hfs hns
  go_wp2_with fail
  go_loopw [6, 7, 8, 21] (fun s _ _ t wr => ∃ k : Nat, k ≤ 4 ∧ t = .int .i64 k ∧ s = .int .i64 (exTo ns fs k) ∧ Below w1.heap.size w1 wr) (fun _ _ _ t _ => 4 - (intOf t).toNat)
  case atStart => exact ⟨0, Nat.zero_le _, rfl, rfl, Below.refl _ _⟩
  case round =>
    obtain ⟨k, hk, rfl, rfl, hbw⟩ := hrel
    have HBW := Lib.hid (HB1.out.trans (hbw.mono HB1.out.size))
    have HB2 := Lib.hid hbw
    by_cases hlt : k < 4
    · have ik := HIK.out k hlt
      have hc := tcell (HL.out k hlt) hbw
      have hs := HSB.out k hlt
      have hp := HPB.out k hlt
      have HE := Lib.hid (show exTo ns fs (k + 1) = exTo ns fs k + ns.getD k 0 * fs.getD k 0 from rfl)
      generalize ns.getD k 0 = n at *
      generalize fs.getD k 0 = l at *
      generalize exTo ns fs k = s at *
      have w2 : IntKind.i64.wrap (n * l) = n * l := IntWalk.i64_in _ (by omega)
      have w3 : IntKind.i64.wrap (s + n * l) = s + n * l := IntWalk.i64_in _ (by omega)
      clear hs hp hbw
      go_wp2_with fail
      go_roundw
      case rel => exact ⟨k + 1, by omega, by go_num, by rw [HE.out], HB2.out⟩
      case measure => simp [intOf]; omega
    · obtain rfl : k = 4 := by omega
      clear hbw
      rw [HV.out]
      go_wp2_with fail
      go_ret
      exact ⟨rfl, HBW.out⟩

set_option maxHeartbeats 1000000 in
/-- isFulfilledBy of a valid thrust. -/
theorem rowFulfilled (h v m d a b c e : Int) (w : World) (ht : okT h v m d = true) :
    Calls Try.prog 43 #[.agg #[.int .i64 a, .int .i64 b, .int .i64 c, .int .i64 e], .agg #[.int .i64 h, .int .i64 v, .int .i64 m, .int .i64 d]] w fun e1 w' => e1 = .returned (.bool (cdF h v m d a b c e)) ∧ Below w.heap.size w w' := by
  have hb0 := ((Below.refl w.heap.size w).alloc (Nat.le_refl _) (.cells #[.int .i64 a, .int .i64 b, .int .i64 c, .int .i64 e] 25)).alloc (by simp) (.cells #[.int .i64 h, .int .i64 v, .int .i64 m, .int .i64 d] 29)
  have HB0 := Lib.hid hb0
  clear hb0
  cases hr : cdOk a b c e
  · have HV := Lib.hid (show cdF h v m d a b c e = false by unfold cdF; rw [hr]; rfl)
    clear ht
    go_enter Try.func43, Try.ntmps43
    go_wp2_with fail
    refine (rowValid _ _ _ _ _).mono ?_
    rintro e1 w1 ⟨rfl, hb1⟩
    rw [hr]
    go_wp2_with fail
    go_ret
    exact ⟨ret_bool HV.out.symm, HB0.out.trans (hb1.mono HB0.out.size)⟩
  · have HV := Lib.hid (show cdF h v m d a b c e = decide (cdX h v m d a b c e ≤ 0) by unfold cdF; rw [hr, Bool.true_and, cdH_X])
    have hd := (okT_iff.1 ht).1
    have HC := Lib.hid (fun w => rowExcess h v m d a b c e w (cd_bd ht hr) (by omega))
    clear ht hd
    generalize cdX h v m d a b c e = X at *
    go_enter Try.func43, Try.ntmps43
    go_wp2_with fail
    refine (rowValid _ _ _ _ _).mono ?_
    rintro e1 w1 ⟨rfl, hb1⟩
    rw [hr]
    have HB1 := Lib.hid (HB0.out.trans (hb1.mono HB0.out.size))
    have a0 : w1.cell? ⟨w.heap.size, 0, none⟩ = some (.int .i64 a) := tcell (by go_simp) hb1
    have a1 : w1.cell? ⟨w.heap.size, 1, none⟩ = some (.int .i64 b) := tcell (by go_simp) hb1
    have a2 : w1.cell? ⟨w.heap.size, 2, none⟩ = some (.int .i64 c) := tcell (by go_simp) hb1
    have a3 : w1.cell? ⟨w.heap.size, 3, none⟩ = some (.int .i64 e) := tcell (by go_simp) hb1
    have b0 : w1.cell? ⟨w.heap.size + 1, 0, none⟩ = some (.int .i64 h) := tcell (by go_simp) hb1
    have b1 : w1.cell? ⟨w.heap.size + 1, 1, none⟩ = some (.int .i64 v) := tcell (by go_simp) hb1
    have b2 : w1.cell? ⟨w.heap.size + 1, 2, none⟩ = some (.int .i64 m) := tcell (by go_simp) hb1
    have b3 : w1.cell? ⟨w.heap.size + 1, 3, none⟩ = some (.int .i64 d) := tcell (by go_simp) hb1
    clear hb1 HB0
    go_wp2_with fail
    refine (HC.out _).mono ?_
    rintro e1 w2 ⟨rfl, hb2⟩
    go_wp2_with fail
    go_ret
    exact ⟨ret_bool HV.out.symm, HB1.out.trans (hb2.mono HB1.out.size)⟩

theorem implRowOk (a b c d : Int) (w : World) :
    Calls Try.prog 10 #[.agg #[.int .i64 a, .int .i64 b, .int .i64 c, .int .i64 d]] w fun e w' => e = .returned (.bool (cdOk a b c d)) ∧ Below w.heap.size w w' := by
  have hb0 := (Below.refl w.heap.size w).alloc (Nat.le_refl _) (.cells #[.int .i64 a, .int .i64 b, .int .i64 c, .int .i64 d] 25)
  have HB0 := Lib.hid hb0
  clear hb0
  go_enter Try.func10, Try.ntmps10
  go_wp2_with fail
  refine (rowValid _ _ _ _ _).mono ?_
  rintro e w1 ⟨rfl, hb1⟩
  go_wp2_with fail
  go_ret
  exact ⟨rfl, HB0.out.trans (hb1.mono HB0.out.size)⟩

set_option maxHeartbeats 1000000 in
theorem implFulfills (h v m d a b c e : Int) (w : World) :
    Calls Try.prog 13 #[.agg #[.int .i64 h, .int .i64 v, .int .i64 m, .int .i64 d], .agg #[.int .i64 a, .int .i64 b, .int .i64 c, .int .i64 e]] w fun e1 w' => e1 = .returned (.bool (fulV h v m d a b c e)) ∧ Below w.heap.size w w' := by
  have hb0 := ((Below.refl w.heap.size w).alloc (Nat.le_refl _) (.cells #[.int .i64 h, .int .i64 v, .int .i64 m, .int .i64 d] 29)).alloc (by simp) (.cells #[.int .i64 a, .int .i64 b, .int .i64 c, .int .i64 e] 25)
  have HB0 := Lib.hid hb0
  clear hb0
  cases ht : okT h v m d
  · have HV := Lib.hid (show fulV h v m d a b c e = false by unfold fulV; rw [ht]; rfl)
    go_enter Try.func13, Try.ntmps13
    go_wp2_with fail
    refine (isValidT _ _ _ _ _).mono ?_
    rintro e1 w1 ⟨rfl, hb1⟩
    rw [ht]
    go_wp2_with fail
    go_ret
    exact ⟨ret_bool HV.out.symm, HB0.out.trans (hb1.mono HB0.out.size)⟩
  · have HV := Lib.hid (show fulV h v m d a b c e = cdF h v m d a b c e by unfold fulV; rw [ht]; rfl)
    have HC := Lib.hid (fun w => rowFulfilled h v m d a b c e w ht)
    go_enter Try.func13, Try.ntmps13
    go_wp2_with fail
    refine (isValidT _ _ _ _ _).mono ?_
    rintro e1 w1 ⟨rfl, hb1⟩
    rw [ht]
    have HB1 := Lib.hid (HB0.out.trans (hb1.mono HB0.out.size))
    have b0 : w1.cell? ⟨w.heap.size, 0, none⟩ = some (.int .i64 h) := tcell (by go_simp) hb1
    have b1 : w1.cell? ⟨w.heap.size, 1, none⟩ = some (.int .i64 v) := tcell (by go_simp) hb1
    have b2 : w1.cell? ⟨w.heap.size, 2, none⟩ = some (.int .i64 m) := tcell (by go_simp) hb1
    have b3 : w1.cell? ⟨w.heap.size, 3, none⟩ = some (.int .i64 d) := tcell (by go_simp) hb1
    have a0 : w1.cell? ⟨w.heap.size + 1, 0, none⟩ = some (.int .i64 a) := tcell (by go_simp) hb1
    have a1 : w1.cell? ⟨w.heap.size + 1, 1, none⟩ = some (.int .i64 b) := tcell (by go_simp) hb1
    have a2 : w1.cell? ⟨w.heap.size + 1, 2, none⟩ = some (.int .i64 c) := tcell (by go_simp) hb1
    have a3 : w1.cell? ⟨w.heap.size + 1, 3, none⟩ = some (.int .i64 e) := tcell (by go_simp) hb1
    clear hb1 HB0
    go_wp2_with fail
    refine (HC.out _).mono ?_
    rintro e1 w2 ⟨rfl, hb2⟩
    go_wp2_with fail
    go_ret
    exact ⟨ret_bool HV.out.symm, HB1.out.trans (hb2.mono HB1.out.size)⟩

theorem l01In_lever (n : Int) (w : World) : Calls Try.prog 52 #[.int .i64 n, .int .i64 (-100), .int .i64 100] w fun e w' => e = .returned (.bool (inR n (-100) 100)) ∧ w = w' := l01InR n _ _ w
theorem l01In_sign (n : Int) (w : World) : Calls Try.prog 52 #[.int .i64 n, .int .i64 (-1), .int .i64 1] w fun e w' => e = .returned (.bool (inR n (-1) 1)) ∧ w = w' := l01InR n _ _ w
theorem l01In_bound (n : Int) (w : World) : Calls Try.prog 52 #[.int .i64 n, .int .i64 (-1000000000), .int .i64 1000000000] w fun e w' => e = .returned (.bool (inR n (-1000000000) 1000000000)) ∧ w = w' := l01InR n _ _ w

set_option maxHeartbeats 1000000 in
theorem specRowOk (a b c d : Int) (w : World) :
    Calls Try.prog 47 #[.agg #[.int .i64 a, .int .i64 b, .int .i64 c, .int .i64 d]] w fun e w' => e = .returned (.bool (cdOk a b c d)) ∧ Below w.heap.size w w' := by
  have hb0 := (Below.refl w.heap.size w).alloc (Nat.le_refl _) (.cells #[.int .i64 a, .int .i64 b, .int .i64 c, .int .i64 d] 25)
  have HB0 := Lib.hid hb0
  clear hb0
  cases ha : inR a (-100) 100
  · go_enter Try.func47, Try.ntmps47
    go_wp2_with fail
    refine (l01In_lever _ _).mono ?_
    rintro e w1 ⟨rfl, rfl⟩
    rw [ha]
    go_wp2_with fail
    go_ret
    exact ⟨ret_bool (cdOk_a ha).symm, HB0.out⟩
  cases hb : inR b (-100) 100
  · go_enter Try.func47, Try.ntmps47
    go_wp2_with fail
    refine (l01In_lever _ _).mono ?_
    rintro e w1 ⟨rfl, rfl⟩
    rw [ha]
    go_wp2_with fail
    refine (l01In_lever _ _).mono ?_
    rintro e w1 ⟨rfl, rfl⟩
    rw [hb]
    go_wp2_with fail
    go_ret
    exact ⟨ret_bool (cdOk_b hb).symm, HB0.out⟩
  cases hc : inR c (-1) 1
  · go_enter Try.func47, Try.ntmps47
    go_wp2_with fail
    refine (l01In_lever _ _).mono ?_
    rintro e w1 ⟨rfl, rfl⟩
    rw [ha]
    go_wp2_with fail
    refine (l01In_lever _ _).mono ?_
    rintro e w1 ⟨rfl, rfl⟩
    rw [hb]
    go_wp2_with fail
    refine (l01In_sign _ _).mono ?_
    rintro e w1 ⟨rfl, rfl⟩
    rw [hc]
    go_wp2_with fail
    go_ret
    exact ⟨ret_bool (cdOk_c hc).symm, HB0.out⟩
  · have HV := Lib.hid (cdOk_yes (d := d) ha hb hc)
    go_enter Try.func47, Try.ntmps47
    go_wp2_with fail
    refine (l01In_lever _ _).mono ?_
    rintro e w1 ⟨rfl, rfl⟩
    rw [ha]
    go_wp2_with fail
    refine (l01In_lever _ _).mono ?_
    rintro e w1 ⟨rfl, rfl⟩
    rw [hb]
    go_wp2_with fail
    refine (l01In_sign _ _).mono ?_
    rintro e w1 ⟨rfl, rfl⟩
    rw [hc]
    go_wp2_with fail
    refine (l01In_bound _ _).mono ?_
    rintro e w1 ⟨rfl, rfl⟩
    go_wp2_with fail
    go_ret
    exact ⟨ret_bool HV.out.symm, HB0.out⟩

set_option maxHeartbeats 1000000 in
theorem specHolds (h v m d a b c e : Int) (w : World) (hx : CdBd h v m d a b c e) :
    Calls Try.prog 55 #[.agg #[.int .i64 h, .int .i64 v, .int .i64 m, .int .i64 d], .agg #[.int .i64 a, .int .i64 b, .int .i64 c, .int .i64 e]] w fun e1 w' => e1 = .returned (.bool (cdH h v m d a b c e)) ∧ Below w.heap.size w w' := by
  have hb0 := ((Below.refl w.heap.size w).alloc (Nat.le_refl _) (.cells #[.int .i64 h, .int .i64 v, .int .i64 m, .int .i64 d] 29)).alloc (by simp) (.cells #[.int .i64 a, .int .i64 b, .int .i64 c, .int .i64 e] 25)
  have HB0 := Lib.hid hb0
  have HV : RowKit.Hid (cdH h v m d a b c e = decide (a * h + b * v + c * m ≤ e * d)) := Lib.hid rfl
  obtain ⟨h1, h2, h3, h4⟩ := hx
  have w1 : IntKind.i64.wrap (a * h) = a * h := IntWalk.i64_in _ (by omega)
  have w2 : IntKind.i64.wrap (b * v) = b * v := IntWalk.i64_in _ (by omega)
  have w3 : IntKind.i64.wrap (c * m) = c * m := IntWalk.i64_in _ (by omega)
  have w4 : IntKind.i64.wrap (e * d) = e * d := IntWalk.i64_in _ (by omega)
  have w5 : IntKind.i64.wrap (a * h + b * v) = a * h + b * v := IntWalk.i64_in _ (by omega)
  have w6 : IntKind.i64.wrap (a * h + b * v + c * m) = a * h + b * v + c * m := IntWalk.i64_in _ (by omega)
  clear hb0 h1 h2 h3 h4
  go_enter Try.func55, Try.ntmps55
  go_wp2_with fail
  go_ret
  exact ⟨ret_bool HV.out.symm, HB0.out⟩

set_option maxHeartbeats 2000000 in
theorem specFulfills (h v m d a b c e : Int) (w : World) :
    Calls Try.prog 83 #[.agg #[.int .i64 h, .int .i64 v, .int .i64 m, .int .i64 d], .agg #[.int .i64 a, .int .i64 b, .int .i64 c, .int .i64 e]] w fun e1 w' => e1 = .returned (.bool (fulV h v m d a b c e)) ∧ Below w.heap.size w w' := by
  have hb0 := ((Below.refl w.heap.size w).alloc (Nat.le_refl _) (.cells #[.int .i64 h, .int .i64 v, .int .i64 m, .int .i64 d] 29)).alloc (by simp) (.cells #[.int .i64 a, .int .i64 b, .int .i64 c, .int .i64 e] 25)
  have HB0 := Lib.hid hb0
  clear hb0
  cases ht : okT h v m d
  · have HV := Lib.hid (show fulV h v m d a b c e = false by unfold fulV; rw [ht]; rfl)
    go_enter Try.func83, Try.ntmps83
    go_wp2_with fail
    refine (specThrustOk _ _ _ _ _).mono ?_
    rintro e1 w1 ⟨rfl, hb1⟩
    rw [ht]
    go_wp2_with fail
    go_ret
    exact ⟨ret_bool HV.out.symm, HB0.out.trans (hb1.mono HB0.out.size)⟩
  cases hr : cdOk a b c e
  · have HV := Lib.hid (show fulV h v m d a b c e = false by unfold fulV cdF; rw [hr]; simp)
    go_enter Try.func83, Try.ntmps83
    go_wp2_with fail
    refine (specThrustOk _ _ _ _ _).mono ?_
    rintro e1 w1 ⟨rfl, hb1⟩
    rw [ht]
    have HB1 := Lib.hid (HB0.out.trans (hb1.mono HB0.out.size))
    have a0 : w1.cell? ⟨w.heap.size + 1, 0, none⟩ = some (.int .i64 a) := tcell (by go_simp) hb1
    have a1 : w1.cell? ⟨w.heap.size + 1, 1, none⟩ = some (.int .i64 b) := tcell (by go_simp) hb1
    have a2 : w1.cell? ⟨w.heap.size + 1, 2, none⟩ = some (.int .i64 c) := tcell (by go_simp) hb1
    have a3 : w1.cell? ⟨w.heap.size + 1, 3, none⟩ = some (.int .i64 e) := tcell (by go_simp) hb1
    clear hb1 HB0
    go_wp2_with fail
    refine (specRowOk _ _ _ _ _).mono ?_
    rintro e1 w2 ⟨rfl, hb2⟩
    rw [hr]
    go_wp2_with fail
    go_ret
    exact ⟨ret_bool HV.out.symm, HB1.out.trans (hb2.mono HB1.out.size)⟩
  · have HV := Lib.hid (show fulV h v m d a b c e = cdH h v m d a b c e by unfold fulV cdF; rw [ht, hr]; rfl)
    have HC := Lib.hid (fun w => specHolds h v m d a b c e w (cd_bd ht hr))
    go_enter Try.func83, Try.ntmps83
    go_wp2_with fail
    refine (specThrustOk _ _ _ _ _).mono ?_
    rintro e1 w1 ⟨rfl, hb1⟩
    rw [ht]
    have HB1 := Lib.hid (HB0.out.trans (hb1.mono HB0.out.size))
    have a0 : w1.cell? ⟨w.heap.size + 1, 0, none⟩ = some (.int .i64 a) := tcell (by go_simp) hb1
    have a1 : w1.cell? ⟨w.heap.size + 1, 1, none⟩ = some (.int .i64 b) := tcell (by go_simp) hb1
    have a2 : w1.cell? ⟨w.heap.size + 1, 2, none⟩ = some (.int .i64 c) := tcell (by go_simp) hb1
    have a3 : w1.cell? ⟨w.heap.size + 1, 3, none⟩ = some (.int .i64 e) := tcell (by go_simp) hb1
    have b0 : w1.cell? ⟨w.heap.size, 0, none⟩ = some (.int .i64 h) := tcell (by go_simp) hb1
    have b1 : w1.cell? ⟨w.heap.size, 1, none⟩ = some (.int .i64 v) := tcell (by go_simp) hb1
    have b2 : w1.cell? ⟨w.heap.size, 2, none⟩ = some (.int .i64 m) := tcell (by go_simp) hb1
    have b3 : w1.cell? ⟨w.heap.size, 3, none⟩ = some (.int .i64 d) := tcell (by go_simp) hb1
    clear hb1 HB0
    go_wp2_with fail
    refine (specRowOk _ _ _ _ _).mono ?_
    rintro e1 w2 ⟨rfl, hb2⟩
    rw [hr]
    have HB2 := Lib.hid (HB1.out.trans (hb2.mono HB1.out.size))
    have a0 := tcell a0 hb2
    have a1 := tcell a1 hb2
    have a2 := tcell a2 hb2
    have a3 := tcell a3 hb2
    have b0 := tcell b0 hb2
    have b1 := tcell b1 hb2
    have b2 := tcell b2 hb2
    have b3 := tcell b3 hb2
    clear hb2 HB1
    go_wp2_with fail
    refine (HC.out _).mono ?_
    rintro e1 w3 ⟨rfl, hb3⟩
    go_wp2_with fail
    go_ret
    exact ⟨ret_bool HV.out.symm, HB2.out.trans (hb3.mono HB2.out.size)⟩
end Go.Proofs.Ytibcalpkmjjilaa

/- Lists of conditions: FulfillsAll and CountBroken of the program and of the model; whether all are valid. -/
namespace Go.Proofs.Ytibcalpkmjjilaa
set_option maxRecDepth 100000
open Go.ChangeShapes Go.WideShapes Go.ChangeAt Go.RowKit

/-- A thrust in its box. -/
def TBox (W : World) (H : Nat) (h v m d : Int) : Prop :=
  W.cell? ⟨H, 0, none⟩ = some (.int .i64 h) ∧ W.cell? ⟨H, 1, none⟩ = some (.int .i64 v) ∧ W.cell? ⟨H, 2, none⟩ = some (.int .i64 m) ∧ W.cell? ⟨H, 3, none⟩ = some (.int .i64 d)
theorem TBox.below {w w' : World} {H : Nat} {h v m d : Int} (x : TBox w H h v m d) (hb : Below w.heap.size w w') : TBox w' H h v m d :=
  ⟨tcell x.1 hb, tcell x.2.1 hb, tcell x.2.2.1 hb, tcell x.2.2.2 hb⟩
theorem tbox_alloc (w : World) (h v m d : Int) : TBox (w.alloc (.cells #[.int .i64 h, .int .i64 v, .int .i64 m, .int .i64 d] 29)) w.heap.size h v m d := by
  refine ⟨?_, ?_, ?_, ?_⟩ <;> go_simp
theorem cd_al (w : World) (o : Obj) : Below w.heap.size w (w.alloc o) := (Below.refl w.heap.size w).alloc (Nat.le_refl _) o
def cdOkAt (rs : List Cd) (i : Nat) : Bool := cdOk (cd rs i).1 (cd rs i).2.1 (cd rs i).2.2.1 (cd rs i).2.2.2
def cdsOk (rs : List Cd) : Bool := allV rs.length (cdOkAt rs)

/-- Conditions in the cells of a slice, whoever made its block. -/
structure CdCells (w : World) (a : Option Addr) (n cap : Nat) (rs : List Cd) : Prop where
  cap : n ≤ cap ∧ cap ≤ maxLen
  len : rs.length = n
  each : ∀ i, i < n → ∃ g, a = some ⟨g, 0, Option.none⟩ ∧ True ∧ w.cell? ⟨g, i * 4, Option.none⟩ = some (.int .i64 (cd rs i).1) ∧ w.cell? ⟨g, i * 4 + 1, Option.none⟩ = some (.int .i64 (cd rs i).2.1) ∧ w.cell? ⟨g, i * 4 + 2, Option.none⟩ = some (.int .i64 (cd rs i).2.2.1) ∧ w.cell? ⟨g, i * 4 + 3, Option.none⟩ = some (.int .i64 (cd rs i).2.2.2)
theorem CdCells.below {w w' : World} {n cap : Nat} {a : Option Addr} {rs : List Cd} (h : CdCells w a n cap rs) (hb : Below w.heap.size w w') : CdCells w' a n cap rs :=
  ⟨h.cap, h.len, fun i hi => by obtain ⟨g, e, t, h0, h1, h2, h3⟩ := h.each i hi; exact ⟨g, e, t, tcell h0 hb, tcell h1 hb, tcell h2 hb, tcell h3 hb⟩⟩
theorem Cds.cells {w : World} {B n cap : Nat} {a : Option Addr} {rs : List Cd} (h : Cds w B a n cap rs) : CdCells w a n cap rs :=
  ⟨h.cap, h.2, fun i hi => by obtain ⟨g, e, -, h0, h1, h2, h3⟩ := h.at i hi; exact ⟨g, e, trivial, h0, h1, h2, h3⟩⟩

set_option maxHeartbeats 2000000 in
theorem implFulfillsAll (w : World) (B : Nat) (a : Option Addr) (n cap : Nat) (h v m d : Int) (rs : List Cd) (hr : Cds w B a n cap rs) :
    Calls Try.prog 17 #[.agg #[.int .i64 h, .int .i64 v, .int .i64 m, .int .i64 d], .slice a n cap] w fun e w' => e = .returned (.bool (fulAll h v m d rs)) ∧ Below w.heap.size w w' := by
  obtain ⟨hnc, hcm⟩ := hr.cap
  unfold maxLen at hcm
  have hln := hr.2
  have HB0 := Lib.hid (cd_al w (.cells #[.int .i64 h, .int .i64 v, .int .i64 m, .int .i64 d] 29))
  have HT0 := Lib.hid (tbox_alloc w h v m d)
  have HR := Lib.hid hr
  have HC := Lib.hid (fun w => isBetweenR (n : Int) 1 40 w (by omega))
  clear hr
  cases hn : inR (n : Int) 1 40
  · have HV := Lib.hid (fulAll_n (h := h) (v := v) (m := m) (d := d) (rs := rs) (by rw [hln]; exact hn))
    clear hln
    go_enter Try.func17, Try.ntmps17
    go_wp2_with fail
    refine (HC.out _).mono ?_
    rintro e w1 ⟨rfl, rfl⟩
    rw [hn]
    go_wp2_with fail
    go_ret
    exact ⟨ret_bool HV.out.symm, HB0.out⟩
  cases ht : okT h v m d
  · have HV := Lib.hid (fulAll_t (rs := rs) ht)
    clear hln
    go_enter Try.func17, Try.ntmps17
    go_wp2_with fail
    refine (HC.out _).mono ?_
    rintro e w1 ⟨rfl, rfl⟩
    rw [hn]
    go_wp2_with fail
    refine (isValidT _ _ _ _ _).mono ?_
    rintro e w1 ⟨rfl, hb1⟩
    rw [ht]
    go_wp2_with fail
    go_ret
    exact ⟨ret_bool HV.out.symm, HB0.out.trans (hb1.mono HB0.out.size)⟩
  · have HV := Lib.hid (show fulAll h v m d rs = allFrom n 0 (cdFAt h v m d rs) by rw [fulAll_yes (by rw [hln]; exact hn) ht, hln]; rfl)
    have HF := Lib.hid (fun a b c e w => rowFulfilled h v m d a b c e w ht)
    clear hln
    go_enter Try.func17, Try.ntmps17
    go_wp2_with fail
    refine (HC.out _).mono ?_
    rintro e w1 ⟨rfl, rfl⟩
    rw [hn]
    go_wp2_with fail
    refine (isValidT _ _ _ _ _).mono ?_
    rintro e w1 ⟨rfl, hb1⟩
    rw [ht]
    have HB1 := Lib.hid (HB0.out.trans (hb1.mono HB0.out.size))
    have HT1 := Lib.hid (HT0.out.below hb1)
    clear hb1 HB0 HT0
    go_wp2_with fail
    go_loopw [18] (fun t wr => ∃ k : Nat, k ≤ n ∧ t = .int .i64 k ∧ allFrom n k (cdFAt h v m d rs) = allFrom n 0 (cdFAt h v m d rs) ∧ Below w.heap.size w wr ∧ TBox wr w.heap.size h v m d)
      (fun t _ => n - (intOf t).toNat)
    case atStart => exact ⟨0, Nat.zero_le _, rfl, rfl, HB1.out, HT1.out⟩
    case round =>
      clear HB1 HT1
      obtain ⟨k, hk, rfl, hall, hbw, htb⟩ := hrel
      have HB := Lib.hid hbw
      have HA := Lib.hid hall
      have HT := Lib.hid htb
      clear hall
      by_cases hlt : k < n
      · obtain ⟨g, rfl, -, a0, a1, a2, a3⟩ := (HR.out.below hbw).at k hlt
        have HP := Lib.hid (show cdFAt h v m d rs k = cdF h v m d (cd rs k).1 (cd rs k).2.1 (cd rs k).2.2.1 (cd rs k).2.2.2 from rfl)
        generalize (cd rs k).1 = x at *
        generalize (cd rs k).2.1 = y at *
        generalize (cd rs k).2.2.1 = z at *
        generalize (cd rs k).2.2.2 = u at *
        have hal := cd_al wr (.cells #[.int .i64 x, .int .i64 y, .int .i64 z, .int .i64 u] 25)
        have HT2 := Lib.hid (htb.below hal)
        have HB2 := Lib.hid (hbw.trans (hal.mono hbw.size))
        obtain ⟨t0, t1, t2, t3⟩ := htb
        have hwl : w.heap.size < wr.heap.size := cell_block_lt t0
        have hwn := Nat.ne_of_lt hwl
        clear hbw hal
        cases hf : cdF h v m d x y z u
        · have HX := Lib.hid (show fulAll h v m d rs = false by rw [HV.out, ← HA.out]; exact allFrom_no hlt (HP.out.trans hf))
          go_wp2_with fail
          refine (HF.out _ _ _ _ _).mono ?_
          rintro e w2 ⟨rfl, hb2⟩
          rw [hf]
          go_wp2_with fail
          go_ret
          exact ⟨ret_bool HX.out.symm, HB2.out.trans (hb2.mono HB2.out.size)⟩
        · have HX := Lib.hid (show allFrom n (k + 1) (cdFAt h v m d rs) = allFrom n 0 (cdFAt h v m d rs) by rw [← HA.out]; exact allFrom_yes hlt (HP.out.trans hf))
          go_wp2_with fail
          refine (HF.out _ _ _ _ _).mono ?_
          rintro e w2 ⟨rfl, hb2⟩
          rw [hf]
          have HB3 := Lib.hid (HB2.out.trans (hb2.mono HB2.out.size))
          have HT3 := Lib.hid (HT2.out.below hb2)
          clear hb2
          go_wp2_with fail
          go_roundw
          case rel => exact ⟨k + 1, by omega, by go_num, HX.out, HB3.out, HT3.out⟩
          case measure => simp [intOf]; omega
      · obtain rfl : k = n := by omega
        clear hbw htb
        go_wp2_with fail
        go_ret
        exact ⟨ret_bool (by rw [HV.out, ← HA.out, allFrom_end]), HB.out⟩

set_option maxHeartbeats 2000000 in
theorem areValidCells (w : World) (a : Option Addr) (n cap : Nat) (rs : List Cd) (hr : CdCells w a n cap rs) :
    Calls Try.prog 49 #[.slice a n cap] w fun e w' => e = .returned (.bool (cdsOk rs)) ∧ Below w.heap.size w w' := by
  obtain ⟨hnc, hcm⟩ := hr.cap
  unfold maxLen at hcm
  have HV := Lib.hid (show cdsOk rs = allFrom n 0 (cdOkAt rs) by unfold cdsOk; rw [hr.len]; rfl)
  have HR := Lib.hid hr
  clear hr
  go_enter Try.func49, Try.ntmps49
  go_wp2_with fail
  go_loopw [7] (fun t wr => ∃ k : Nat, k ≤ n ∧ t = .int .i64 k ∧ allFrom n k (cdOkAt rs) = allFrom n 0 (cdOkAt rs) ∧ Below w.heap.size w wr)
    (fun t _ => n - (intOf t).toNat)
  case atStart => exact ⟨0, Nat.zero_le _, rfl, rfl, Below.refl _ _⟩
  case round =>
    obtain ⟨k, hk, rfl, hall, hbw⟩ := hrel
    have HB := Lib.hid hbw
    have HA := Lib.hid hall
    clear hall
    by_cases hlt : k < n
    · obtain ⟨g, rfl, -, a0, a1, a2, a3⟩ := (HR.out.below hbw).each k hlt
      have HP := Lib.hid (show cdOkAt rs k = cdOk (cd rs k).1 (cd rs k).2.1 (cd rs k).2.2.1 (cd rs k).2.2.2 from rfl)
      generalize (cd rs k).1 = x at *
      generalize (cd rs k).2.1 = y at *
      generalize (cd rs k).2.2.1 = z at *
      generalize (cd rs k).2.2.2 = u at *
      have hal := cd_al wr (.cells #[.int .i64 x, .int .i64 y, .int .i64 z, .int .i64 u] 25)
      have HB2 := Lib.hid (hbw.trans (hal.mono hbw.size))
      clear hbw hal
      cases hf : cdOk x y z u
      · have HX := Lib.hid (show cdsOk rs = false by rw [HV.out, ← HA.out]; exact allFrom_no hlt (HP.out.trans hf))
        go_wp2_with fail
        refine (rowValid _ _ _ _ _).mono ?_
        rintro e w2 ⟨rfl, hb2⟩
        rw [hf]
        go_wp2_with fail
        go_ret
        exact ⟨ret_bool HX.out.symm, HB2.out.trans (hb2.mono HB2.out.size)⟩
      · have HX := Lib.hid (show allFrom n (k + 1) (cdOkAt rs) = allFrom n 0 (cdOkAt rs) by rw [← HA.out]; exact allFrom_yes hlt (HP.out.trans hf))
        go_wp2_with fail
        refine (rowValid _ _ _ _ _).mono ?_
        rintro e w2 ⟨rfl, hb2⟩
        rw [hf]
        have HB3 := Lib.hid (HB2.out.trans (hb2.mono HB2.out.size))
        clear hb2
        go_wp2_with fail
        go_roundw
        case rel => exact ⟨k + 1, by omega, by go_num, HX.out, HB3.out⟩
        case measure => simp [intOf]; omega
    · obtain rfl : k = n := by omega
      clear hbw
      go_wp2_with fail
      go_ret
      exact ⟨ret_bool (by rw [HV.out, ← HA.out, allFrom_end]), HB.out⟩
theorem areValidRows (w : World) (B : Nat) (a : Option Addr) (n cap : Nat) (rs : List Cd) (hr : Cds w B a n cap rs) :
    Calls Try.prog 49 #[.slice a n cap] w fun e w' => e = .returned (.bool (cdsOk rs)) ∧ Below w.heap.size w w' := areValidCells w a n cap rs hr.cells


set_option maxHeartbeats 4000000 in
theorem specFulfillsAll (w : World) (B : Nat) (a : Option Addr) (n cap : Nat) (h v m d : Int) (rs : List Cd) (hr : Cds w B a n cap rs) :
    Calls Try.prog 60 #[.agg #[.int .i64 h, .int .i64 v, .int .i64 m, .int .i64 d], .slice a n cap] w fun e w' => e = .returned (.bool (fulAll h v m d rs)) ∧ Below w.heap.size w w' := by
  obtain ⟨hnc, hcm⟩ := hr.cap
  unfold maxLen at hcm
  have HV := Lib.hid (show fulAll h v m d rs = (allFrom n 0 (fulAt h v m d rs) && inR (n : Int) 1 40) by unfold fulAll; rw [hr.2]; rfl)
  have HB0 := Lib.hid (cd_al w (.cells #[.int .i64 h, .int .i64 v, .int .i64 m, .int .i64 d] 29))
  have HT0 := Lib.hid (tbox_alloc w h v m d)
  have HR := Lib.hid hr
  clear hr
  go_enter Try.func60, Try.ntmps60
  go_wp2_with fail
  go_loopw [5] (fun t wr => ∃ k : Nat, k ≤ n ∧ t = .int .i64 k ∧ allFrom n k (fulAt h v m d rs) = allFrom n 0 (fulAt h v m d rs) ∧ Below w.heap.size w wr ∧ TBox wr w.heap.size h v m d)
    (fun t _ => n - (intOf t).toNat)
  case atStart => exact ⟨0, Nat.zero_le _, rfl, rfl, HB0.out, HT0.out⟩
  case round =>
    clear HB0 HT0
    obtain ⟨k, hk, rfl, hall, hbw, htb⟩ := hrel
    have HB := Lib.hid hbw
    have HA := Lib.hid hall
    have HT := Lib.hid htb
    clear hall
    by_cases hlt : k < n
    · obtain ⟨g, rfl, -, a0, a1, a2, a3⟩ := (HR.out.below hbw).at k hlt
      have HP := Lib.hid (show fulAt h v m d rs k = fulV h v m d (cd rs k).1 (cd rs k).2.1 (cd rs k).2.2.1 (cd rs k).2.2.2 from rfl)
      generalize (cd rs k).1 = x at *
      generalize (cd rs k).2.1 = y at *
      generalize (cd rs k).2.2.1 = z at *
      generalize (cd rs k).2.2.2 = u at *
      obtain ⟨t0, t1, t2, t3⟩ := htb
      have hn1 := Since.nonempty wr
      have sa0 := fun (x : Since wr) => (x.cell g (k * 4) (cell_block_lt a0)).trans a0
      have sa1 := fun (x : Since wr) => (x.cell g (k * 4 + 1) (cell_block_lt a1)).trans a1
      have sa2 := fun (x : Since wr) => (x.cell g (k * 4 + 2) (cell_block_lt a2)).trans a2
      have sa3 := fun (x : Since wr) => (x.cell g (k * 4 + 3) (cell_block_lt a3)).trans a3
      have st0 := fun (x : Since wr) => (x.cell w.heap.size 0 (cell_block_lt t0)).trans t0
      have st1 := fun (x : Since wr) => (x.cell w.heap.size 1 (cell_block_lt t1)).trans t1
      have st2 := fun (x : Since wr) => (x.cell w.heap.size 2 (cell_block_lt t2)).trans t2
      have st3 := fun (x : Since wr) => (x.cell w.heap.size 3 (cell_block_lt t3)).trans t3
      have HC := Lib.hid (fun w => specFulfills h v m d x y z u w)
      clear hbw
      cases hf : fulV h v m d x y z u
      · have HX := Lib.hid (show fulAll h v m d rs = false by rw [HV.out, ← HA.out, allFrom_no hlt (HP.out.trans hf)]; rfl)
        go_wp2_with fail
        refine wp_region_since (by kernel_rfl) (by kernel_rfl) ?_
        repeat (go_big_quiet_step (first
          | (go_at_call 83; exact Since.call (HC.out _))))
        refine wpQuiet_nil ?_
        rintro w2 ⟨⟨_, hb2⟩, rfl⟩
        rw [hf]
        have HB3 := Lib.hid (HB.out.trans (hb2.mono HB.out.size))
        clear hb2 sa0 sa1 sa2 sa3 st0 st1 st2 st3
        go_wp2_with fail
        go_ret
        exact ⟨ret_bool HX.out.symm, HB3.out⟩
      · have HX := Lib.hid (show allFrom n (k + 1) (fulAt h v m d rs) = allFrom n 0 (fulAt h v m d rs) by rw [← HA.out]; exact allFrom_yes hlt (HP.out.trans hf))
        go_wp2_with fail
        refine wp_region_since (by kernel_rfl) (by kernel_rfl) ?_
        repeat (go_big_quiet_step (first
          | (go_at_call 83; exact Since.call (HC.out _))))
        refine wpQuiet_nil ?_
        rintro w2 ⟨⟨w2, hb2⟩, rfl⟩
        rw [hf]
        have HB3 := Lib.hid (HB.out.trans (hb2.mono HB.out.size))
        have HT3 := Lib.hid (HT.out.below hb2)
        clear hb2 sa0 sa1 sa2 sa3 st0 st1 st2 st3
        go_wp2_with fail
        go_roundw
        case rel => exact ⟨k + 1, by omega, by go_num, HX.out, HB3.out, HT3.out⟩
        case measure => simp [intOf]; omega
    · obtain rfl : k = n := by omega
      have HC := Lib.hid (fun w => l01InR (k : Int) 1 40 w)
      clear hbw htb
      go_wp2_with fail
      refine (HC.out _).mono ?_
      rintro e w1 ⟨rfl, rfl⟩
      go_wp2_with fail
      go_ret
      exact ⟨ret_bool (by rw [HV.out, ← HA.out, allFrom_end, Bool.true_and]), HB.out⟩

end Go.Proofs.Ytibcalpkmjjilaa

/- Steps of a walk: what holds in a world that has only grown since, behind an append; a row that grows by one or two structs of four ints. -/
namespace Go.Proofs.Ytibcalpkmjjilaa
set_option maxRecDepth 100000
open Go.ChangeShapes Go.WideShapes Go.ChangeAt Go.RowKit

theorem far_low {X w' : World} {B n size b o : Nat} {e : TypeId} {v u : Value} {xs : List Value} (hr : X.ownsRow B e size v n xs) (hg : X.grownBy w' v.ownBlock) (hb : b < B) (hc : X.cell? ⟨b, o, none⟩ = some u) : w'.cell? ⟨b, o, none⟩ = some u :=
  (World.grownBy.cell_far hg ⟨b, o, none⟩ (cell_block_lt hc) (fun he => by have := (World.ownsRow.lt hr b he.symm).1; omega)).trans hc
theorem far_high {w0 X w' : World} {B n size b o : Nat} {e : TypeId} {v u : Value} {xs : List Value} (hr : w0.ownsRow B e size v n xs) (hg : X.grownBy w' v.ownBlock) (hb : w0.heap.size ≤ b) (hc : X.cell? ⟨b, o, none⟩ = some u) : w'.cell? ⟨b, o, none⟩ = some u :=
  (World.grownBy.cell_far hg ⟨b, o, none⟩ (cell_block_lt hc) (fun he => by have := (World.ownsRow.lt hr b he.symm).2; omega)).trans hc
theorem own_cap {w : World} {B s n cap N : Nat} {e : TypeId} {a : Option Addr} {xs : List Value} (h : w.ownsRow B e s (.slice a n cap) N xs) : N ≤ cap ∧ cap ≤ maxLen := by
  rcases h.2 with ⟨h1, h2⟩ | ⟨g, c, cur, h1, -, -, h2, h3, -⟩
  · simp at h1; omega
  · simp at h1; obtain ⟨-, -, rfl⟩ := h1; exact ⟨h2, h3⟩
theorem cstep {Z a b : World} (h : RowKit.Hid (Below Z.heap.size Z a)) (k : Below a.heap.size a b) : Below Z.heap.size Z b := h.out.trans (k.mono h.out.size)
theorem cstepD {Z a b : World} {n : Nat} (h : RowKit.Hid (Below Z.heap.size Z a)) (k : Below (a.drewN n).heap.size (a.drewN n) b) : Below Z.heap.size Z b := (below_drewN h.out n).trans (k.mono h.out.size)
theorem cstepA {Z a b : World} {o : Obj} (h : RowKit.Hid (Below Z.heap.size Z a)) (k : Below (a.alloc o).heap.size (a.alloc o) b) : Below Z.heap.size Z b := by
  have := h.out.alloc h.out.size o
  exact this.trans (k.mono this.size)
theorem cstepDA {Z a b : World} {n : Nat} {o : Obj} (h : RowKit.Hid (Below Z.heap.size Z a)) (k : Below ((a.drewN n).alloc o).heap.size ((a.drewN n).alloc o) b) : Below Z.heap.size Z b := by
  have := (below_drewN h.out n).alloc (below_drewN h.out n).size o
  exact this.trans (k.mono this.size)
theorem cal {Z a : World} (h : Below Z.heap.size Z a) (o : Obj) : Below Z.heap.size Z (a.alloc o) := h.alloc h.size o
theorem flat4_two (rs : List Cd) (a b c d a' b' c' d' : Int) : flat4 (rs ++ [(a, b, c, d), (a', b', c', d')]) = flat4 rs ++ [.int .i64 a, .int .i64 b, .int .i64 c, .int .i64 d, .int .i64 a', .int .i64 b', .int .i64 c', .int .i64 d'] := by rw [flat4_append]; rfl
theorem flat4_one (rs : List Cd) (a b c d : Int) : flat4 (rs ++ [(a, b, c, d)]) = flat4 rs ++ [.int .i64 a, .int .i64 b, .int .i64 c, .int .i64 d] := by rw [flat4_append]; rfl
end Go.Proofs.Ytibcalpkmjjilaa
