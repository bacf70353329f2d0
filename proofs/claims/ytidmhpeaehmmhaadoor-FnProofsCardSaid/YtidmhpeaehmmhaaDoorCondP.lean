/- Conditions, plainly: valid, fulfilled by a thrust, all of them, how many are broken, as functions of the list of rows. -/
import Derived.Test.YtidmhpeaehmmhaaDoorStoneP
import Derived.Test.YtidmhpeaehmmhaaDoorFourP
import Derived.Test.YtidmhpeaehmmhaaDoorThrustP
namespace Go.Proofs.YtidmhpeaehmmhaaDoor
set_option maxRecDepth 100000

/-- What RowOk answers. -/
def cdOk (a b c d : Int) : Bool := inR a (-100) 100 && (inR b (-100) 100 && (inR c (-1) 1 && inR d (-1000000000) 1000000000))
theorem cdOk_iff {a b c d : Int} : cdOk a b c d = true ↔ (-100 ≤ a ∧ a ≤ 100) ∧ (-100 ≤ b ∧ b ≤ 100) ∧ (-1 ≤ c ∧ c ≤ 1) ∧ (-1000000000 ≤ d ∧ d ≤ 1000000000) := by
  unfold cdOk; simp only [Bool.and_eq_true, inR_iff]
theorem cdOk_a {a b c d : Int} (h : inR a (-100) 100 = false) : cdOk a b c d = false := by unfold cdOk; rw [h]; rfl
theorem cdOk_b {a b c d : Int} (h : inR b (-100) 100 = false) : cdOk a b c d = false := by unfold cdOk; rw [h]; simp
theorem cdOk_c {a b c d : Int} (h : inR c (-1) 1 = false) : cdOk a b c d = false := by unfold cdOk; rw [h]; simp
theorem cdOk_d {a b c d : Int} (h : inR d (-1000000000) 1000000000 = false) : cdOk a b c d = false := by unfold cdOk; rw [h]; simp
theorem cdOk_yes {a b c d : Int} (ha : inR a (-100) 100 = true) (hb : inR b (-100) 100 = true) (hc : inR c (-1) 1 = true) : cdOk a b c d = inR d (-1000000000) 1000000000 := by unfold cdOk; rw [ha, hb, hc]; rfl

/-- By how much a thrust exceeds a condition. -/
def cdX (h v m d a b c e : Int) : Int := a * h + b * v + c * m - e * d
/-- A valid thrust fulfills a valid condition. -/
def cdH (h v m d a b c e : Int) : Bool := decide (a * h + b * v + c * m ≤ e * d)
theorem cdH_iff {h v m d a b c e : Int} : cdH h v m d a b c e = true ↔ a * h + b * v + c * m ≤ e * d := by unfold cdH; simp
theorem cdH_X {h v m d a b c e : Int} : cdH h v m d a b c e = decide (cdX h v m d a b c e ≤ 0) := by
  unfold cdH cdX; rw [Bool.eq_iff_iff, decide_eq_true_iff, decide_eq_true_iff]; omega
theorem cdH_not {h v m d a b c e : Int} : decide (0 < cdX h v m d a b c e) = !cdH h v m d a b c e := by
  unfold cdH cdX; rw [Bool.eq_iff_iff, decide_eq_true_iff, Bool.not_eq_true', decide_eq_false_iff_not]; omega
/-- The products are small. -/
structure CdBd (h v m d a b c e : Int) : Prop where
  ah : -100000000000000 ≤ a * h ∧ a * h ≤ 100000000000000
  bv : -1000000000000000 ≤ b * v ∧ b * v ≤ 1000000000000000
  cm : -10000000000000 ≤ c * m ∧ c * m ≤ 10000000000000
  ed : -1000000000000000 ≤ e * d ∧ e * d ≤ 1000000000000000
theorem cd_bd {h v m d a b c e : Int} (ht : okT h v m d = true) (hr : cdOk a b c e = true) : CdBd h v m d a b c e := by
  obtain ⟨h1, h2, h3, h4, -⟩ := okT_iff.1 ht
  obtain ⟨k1, k2, k3, k4⟩ := cdOk_iff.1 hr
  have p := mulT_bd (x := a) (y := h) 100 1000000000000 (by omega) (by omega)
  have q := mulT_bd (x := b) (y := v) 100 10000000000000 (by omega) (by omega)
  have r := mulT_bd (x := c) (y := m) 1 10000000000000 (by omega) (by omega)
  have s := mulT_bd (x := e) (y := d) 1000000000 1000000 (by omega) (by omega)
  exact ⟨by omega, by omega, by omega, by omega⟩

/-- A valid condition that is fulfilled; what Fulfills answers. -/
def cdF (h v m d a b c e : Int) : Bool := cdOk a b c e && cdH h v m d a b c e
def fulV (h v m d a b c e : Int) : Bool := okT h v m d && cdF h v m d a b c e
/-- The same of the condition at an index. -/
def cdFAt (h v m d : Int) (rs : List Cd) (i : Nat) : Bool := cdF h v m d (cd rs i).1 (cd rs i).2.1 (cd rs i).2.2.1 (cd rs i).2.2.2
def fulAt (h v m d : Int) (rs : List Cd) (i : Nat) : Bool := fulV h v m d (cd rs i).1 (cd rs i).2.1 (cd rs i).2.2.1 (cd rs i).2.2.2
theorem fulAt_eq {h v m d : Int} {rs : List Cd} {i : Nat} (ht : okT h v m d = true) : fulAt h v m d rs i = cdFAt h v m d rs i := by unfold fulAt fulV; rw [ht]; rfl
theorem fulAt_no {h v m d : Int} {rs : List Cd} {i : Nat} (ht : okT h v m d = false) : fulAt h v m d rs i = false := by unfold fulAt fulV; rw [ht]; rfl
/-- What FulfillsAll answers. -/
def fulAll (h v m d : Int) (rs : List Cd) : Bool := allV rs.length (fulAt h v m d rs) && inR rs.length 1 40
theorem fulAll_n {h v m d : Int} {rs : List Cd} (hn : inR rs.length 1 40 = false) : fulAll h v m d rs = false := by unfold fulAll; rw [hn, Bool.and_false]
theorem fulAll_t {h v m d : Int} {rs : List Cd} (ht : okT h v m d = false) : fulAll h v m d rs = false := by
  cases hn : inR (rs.length : Int) 1 40
  · exact fulAll_n hn
  · have hp := inR_iff.1 hn
    have : allV rs.length (fulAt h v m d rs) = false := by
      rw [← Bool.not_eq_true, allV_iff]
      exact fun hh => by have := hh 0 (by omega); rw [fulAt_no ht] at this; cases this
    unfold fulAll
    rw [this]
    rfl
theorem fulAll_yes {h v m d : Int} {rs : List Cd} (hn : inR rs.length 1 40 = true) (ht : okT h v m d = true) : fulAll h v m d rs = allV rs.length (cdFAt h v m d rs) := by
  unfold fulAll; rw [hn, Bool.and_true]; exact allV_congr fun i _ => fulAt_eq ht

/-- The condition at an index is valid and broken; how many of the first k are; what CountBroken answers. -/
def brkAt (h v m d : Int) (rs : List Cd) (i : Nat) : Bool := cdOk (cd rs i).1 (cd rs i).2.1 (cd rs i).2.2.1 (cd rs i).2.2.2 && !cdH h v m d (cd rs i).1 (cd rs i).2.1 (cd rs i).2.2.1 (cd rs i).2.2.2
def brkTo (h v m d : Int) (rs : List Cd) : Nat → Nat
  | 0 => 0
  | k + 1 => brkTo h v m d rs k + if brkAt h v m d rs k then 1 else 0
theorem brkTo_le (h v m d : Int) (rs : List Cd) (k : Nat) : brkTo h v m d rs k ≤ k := by
  induction k with
  | zero => exact Nat.le_refl _
  | succ k ih => unfold brkTo; split <;> omega
theorem brkTo_yes {h v m d : Int} {rs : List Cd} {k : Nat} (hb : brkAt h v m d rs k = true) : brkTo h v m d rs (k + 1) = brkTo h v m d rs k + 1 := by
  show _ + (if _ then _ else _) = _; rw [hb]; rfl
theorem brkTo_no {h v m d : Int} {rs : List Cd} {k : Nat} (hb : brkAt h v m d rs k = false) : brkTo h v m d rs (k + 1) = brkTo h v m d rs k := by
  show _ + (if _ then _ else _) = _; rw [hb]; rfl
def brkV (h v m d : Int) (rs : List Cd) : Int := if okT h v m d then ((brkTo h v m d rs rs.length : Nat) : Int) else -1
theorem brkV_no {h v m d : Int} {rs : List Cd} (ht : okT h v m d = false) : brkV h v m d rs = -1 := by unfold brkV; rw [ht]; rfl
theorem brkV_yes {h v m d : Int} {rs : List Cd} (ht : okT h v m d = true) : brkV h v m d rs = ((brkTo h v m d rs rs.length : Nat) : Int) := by unfold brkV; rw [ht]; rfl
end Go.Proofs.YtidmhpeaehmmhaaDoor
