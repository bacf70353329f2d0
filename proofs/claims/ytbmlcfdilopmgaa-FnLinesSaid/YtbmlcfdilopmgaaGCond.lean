/- Conditions, plainly: valid, fulfilled by a thrust, all of them, how many are broken, as functions of the list of rows; Conditions, one by one: the contracts of RowOk and Fulfills of the program and of the model, and of what they call; Lists of conditions: FulfillsAll and CountBroken of the program and of the model; whether all are valid; Steps of a walk: what holds in a world that has only grown since, behind an append; a row that grows by one or two structs of four ints. -/
import Derived.Test.YtbmlcfdilopmgaaGPlain
import Derived.Test.YtbmlcfdilopmgaaGFour
import Derived.Test.YtbmlcfdilopmgaaGThrust
import Derived.Deep.RegionWith
import Derived.Deep.AppendLies

/- Conditions, plainly: valid, fulfilled by a thrust, all of them, how many are broken, as functions of the list of rows. -/
namespace Go.Proofs.Ytbmlcfdilopmgaa
set_option maxRecDepth 100000

/-- What RowOk answers. -/
def cdOk (a b c d : Int) : Bool := inR a (-100) 100 && (inR b (-100) 100 && (inR c (-1) 1 && inR d (-1000000000) 1000000000))
theorem cdOk_iff {a b c d : Int} : cdOk a b c d = true ↔ (-100 ≤ a ∧ a ≤ 100) ∧ (-100 ≤ b ∧ b ≤ 100) ∧ (-1 ≤ c ∧ c ≤ 1) ∧ (-1000000000 ≤ d ∧ d ≤ 1000000000) := by
  unfold cdOk; simp only [Bool.and_eq_true, inR_iff]
theorem cdOk_a {a b c d : Int} (h : inR a (-100) 100 = false) : cdOk a b c d = false := by unfold cdOk; rw [h]; rfl
theorem cdOk_b {a b c d : Int} (h : inR b (-100) 100 = false) : cdOk a b c d = false := by unfold cdOk; rw [h]; simp
theorem cdOk_c {a b c d : Int} (h : inR c (-1) 1 = false) : cdOk a b c d = false := by unfold cdOk; rw [h]; simp
theorem cdOk_d {a b c d : Int} (h : inR d (-1000000000) 1000000000 = false) : cdOk a b c d = false := by unfold cdOk; rw [h]; simp
theorem cdOk_yes {a b c d : Int} (ha : inR a (-100) 100 = true) (hb : inR b (-100) 100 = true) (hc : inR c (-1) 1 = true) : cdOk a b c d = inR d (-1000000000) 1000000000 := by unfold cdOk; rw [ha, hb, hc]; rfl

/-- By how much a thrust exceeds a condition. -/
def cdX (h v m d a b c e : Int) : Int := a * h + b * v + c * m - e * d
/-- A valid thrust fulfills a valid condition. -/
def cdH (h v m d a b c e : Int) : Bool := decide (a * h + b * v + c * m ≤ e * d)
theorem cdH_iff {h v m d a b c e : Int} : cdH h v m d a b c e = true ↔ a * h + b * v + c * m ≤ e * d := by unfold cdH; simp
theorem cdH_X {h v m d a b c e : Int} : cdH h v m d a b c e = decide (cdX h v m d a b c e ≤ 0) := by
  unfold cdH cdX; rw [Bool.eq_iff_iff, decide_eq_true_iff, decide_eq_true_iff]; omega
theorem cdH_not {h v m d a b c e : Int} : decide (0 < cdX h v m d a b c e) = !cdH h v m d a b c e := by
  unfold cdH cdX; rw [Bool.eq_iff_iff, decide_eq_true_iff, Bool.not_eq_true', decide_eq_false_iff_not]; omega
/-- The products are small. -/
structure CdBd (h v m d a b c e : Int) : Prop where
  ah : -100000000000000 ≤ a * h ∧ a * h ≤ 100000000000000
  bv : -1000000000000000 ≤ b * v ∧ b * v ≤ 1000000000000000
  cm : -10000000000000 ≤ c * m ∧ c * m ≤ 10000000000000
  ed : -1000000000000000 ≤ e * d ∧ e * d ≤ 1000000000000000
theorem cd_bd {h v m d a b c e : Int} (ht : okT h v m d = true) (hr : cdOk a b c e = true) : CdBd h v m d a b c e := by
  obtain ⟨h1, h2, h3, h4, -⟩ := okT_iff.1 ht
  obtain ⟨k1, k2, k3, k4⟩ := cdOk_iff.1 hr
  have p := mulT_bd (x := a) (y := h) 100 1000000000000 (by omega) (by omega)
  have q := mulT_bd (x := b) (y := v) 100 10000000000000 (by omega) (by omega)
  have r := mulT_bd (x := c) (y := m) 1 10000000000000 (by omega) (by omega)
  have s := mulT_bd (x := e) (y := d) 1000000000 1000000 (by omega) (by omega)
  exact ⟨by omega, by omega, by omega, by omega⟩

/-- A valid condition that is fulfilled; what Fulfills answers. -/
def cdF (h v m d a b c e : Int) : Bool := cdOk a b c e && cdH h v m d a b c e
def fulV (h v m d a b c e : Int) : Bool := okT h v m d && cdF h v m d a b c e
/-- The same of the condition at an index. -/
def cdFAt (h v m d : Int) (rs : List Cd) (i : Nat) : Bool := cdF h v m d (cd rs i).1 (cd rs i).2.1 (cd rs i).2.2.1 (cd rs i).2.2.2
def fulAt (h v m d : Int) (rs : List Cd) (i : Nat) : Bool := fulV h v m d (cd rs i).1 (cd rs i).2.1 (cd rs i).2.2.1 (cd rs i).2.2.2
theorem fulAt_eq {h v m d : Int} {rs : List Cd} {i : Nat} (ht : okT h v m d = true) : fulAt h v m d rs i = cdFAt h v m d rs i := by unfold fulAt fulV; rw [ht]; rfl
theorem fulAt_no {h v m d : Int} {rs : List Cd} {i : Nat} (ht : okT h v m d = false) : fulAt h v m d rs i = false := by unfold fulAt fulV; rw [ht]; rfl
/-- What FulfillsAll answers. -/
def fulAll (h v m d : Int) (rs : List Cd) : Bool := allV rs.length (fulAt h v m d rs) && inR rs.length 1 40
theorem fulAll_n {h v m d : Int} {rs : List Cd} (hn : inR rs.length 1 40 = false) : fulAll h v m d rs = false := by unfold fulAll; rw [hn, Bool.and_false]
theorem fulAll_t {h v m d : Int} {rs : List Cd} (ht : okT h v m d = false) : fulAll h v m d rs = false := by
  cases hn : inR (rs.length : Int) 1 40
  · exact fulAll_n hn
  · have hp := inR_iff.1 hn
    have : allV rs.length (fulAt h v m d rs) = false := by
      rw [← Bool.not_eq_true, allV_iff]
      exact fun hh => by have := hh 0 (by omega); rw [fulAt_no ht] at this; cases this
    unfold fulAll
    rw [this]
    rfl
theorem fulAll_yes {h v m d : Int} {rs : List Cd} (hn : inR rs.length 1 40 = true) (ht : okT h v m d = true) : fulAll h v m d rs = allV rs.length (cdFAt h v m d rs) := by
  unfold fulAll; rw [hn, Bool.and_true]; exact allV_congr fun i _ => fulAt_eq ht

/-- The condition at an index is valid and broken; how many of the first k are; what CountBroken answers. -/
def brkAt (h v m d : Int) (rs : List Cd) (i : Nat) : Bool := cdOk (cd rs i).1 (cd rs i).2.1 (cd rs i).2.2.1 (cd rs i).2.2.2 && !cdH h v m d (cd rs i).1 (cd rs i).2.1 (cd rs i).2.2.1 (cd rs i).2.2.2
def brkTo (h v m d : Int) (rs : List Cd) : Nat → Nat
  | 0 => 0
  | k + 1 => brkTo h v m d rs k + if brkAt h v m d rs k then 1 else 0
theorem brkTo_le (h v m d : Int) (rs : List Cd) (k : Nat) : brkTo h v m d rs k ≤ k := by
  induction k with
  | zero => exact Nat.le_refl _
  | succ k ih => unfold brkTo; split <;> omega
theorem brkTo_yes {h v m d : Int} {rs : List Cd} {k : Nat} (hb : brkAt h v m d rs k = true) : brkTo h v m d rs (k + 1) = brkTo h v m d rs k + 1 := by
  show _ + (if _ then _ else _) = _; rw [hb]; rfl
theorem brkTo_no {h v m d : Int} {rs : List Cd} {k : Nat} (hb : brkAt h v m d rs k = false) : brkTo h v m d rs (k + 1) = brkTo h v m d rs k := by
  show _ + (if _ then _ else _) = _; rw [hb]; rfl
def brkV (h v m d : Int) (rs : List Cd) : Int := if okT h v m d then ((brkTo h v m d rs rs.length : Nat) : Int) else -1
theorem brkV_no {h v m d : Int} {rs : List Cd} (ht : okT h v m d = false) : brkV h v m d rs = -1 := by unfold brkV; rw [ht]; rfl
theorem brkV_yes {h v m d : Int} {rs : List Cd} (ht : okT h v m d = true) : brkV h v m d rs = ((brkTo h v m d rs rs.length : Nat) : Int) := by unfold brkV; rw [ht]; rfl
end Go.Proofs.Ytbmlcfdilopmgaa

/- Conditions, one by one: the contracts of RowOk and Fulfills of the program and of the model, and of what they call. -/
namespace Go.Proofs.Ytbmlcfdilopmgaa
set_option maxRecDepth 100000
open Go.ChangeShapes Go.WideShapes Go.ChangeAt Go.RowKit

/-- A condition's numbers by number; the limits of their range. -/
def cdL (a b c d : Int) : List Int := [a, b, c, d]
def cdM : List Int := [100, 100, 1, 1000000000]
theorem cdL_all {a b c d : Int} (h : ∀ j, j < 4 → inR ((cdL a b c d).getD j 0) (-(cdM.getD j 0)) (cdM.getD j 0) = true) : cdOk a b c d = true := by
  have h0 := h 0 (by omega)
  have h1 := h 1 (by omega)
  have h2 := h 2 (by omega)
  have h3 := h 3 (by omega)
  simp [cdL, cdM] at h0 h1 h2 h3
  unfold cdOk; rw [h0, h1, h2, h3]; rfl
theorem cdL_not {a b c d : Int} {j : Nat} (hj : j < 4) (h : inR ((cdL a b c d).getD j 0) (-(cdM.getD j 0)) (cdM.getD j 0) = false) : cdOk a b c d = false := by
  match j, hj with
  | 0, _ => simp [cdL, cdM] at h; exact cdOk_a h
  | 1, _ => simp [cdL, cdM] at h; exact cdOk_b h
  | 2, _ => simp [cdL, cdM] at h; exact cdOk_c h
  | 3, _ => simp [cdL, cdM] at h; exact cdOk_d h
theorem cdM_bd (j : Nat) : 0 ≤ cdM.getD j 0 ∧ cdM.getD j 0 ≤ 1000000000 := by
  match j with
  | 0 => decide
  | 1 => decide
  | 2 => decide
  | 3 => decide
  | n + 4 => simp [cdM]

/-- The first k products of a condition's numbers with a thrust's. -/
def exTo (ns fs : List Int) : Nat → Int
  | 0 => 0
  | k + 1 => exTo ns fs k + ns.getD k 0 * fs.getD k 0
theorem exTo_four (h v m d a b c e : Int) : exTo (cdL a b c e) [h, v, m, -d] 4 = cdX h v m d a b c e := by
  have hn : e * -d = -(e * d) := Int.mul_neg e d
  simp [exTo, cdL, cdX]
  omega
structure ExBd (h v m d a b c e : Int) (k : Nat) : Prop where
  p : -1000000000000000 ≤ (cdL a b c e).getD k 0 * ([h, v, m, -d] : List Int).getD k 0 ∧ (cdL a b c e).getD k 0 * ([h, v, m, -d] : List Int).getD k 0 ≤ 1000000000000000
  s : -4000000000000000 ≤ exTo (cdL a b c e) [h, v, m, -d] k ∧ exTo (cdL a b c e) [h, v, m, -d] k ≤ 4000000000000000
theorem ex_bd {h v m d a b c e : Int} (x : CdBd h v m d a b c e) (k : Nat) (hk : k < 4) : ExBd h v m d a b c e k := by
  obtain ⟨h1, h2, h3, h4⟩ := x
  match k, hk with
  | 0, _ => exact ⟨by simp [cdL]; omega, by simp [exTo]⟩
  | 1, _ => exact ⟨by simp [cdL]; omega, by simp [exTo, cdL]; omega⟩
  | 2, _ => exact ⟨by simp [cdL]; omega, by simp [exTo, cdL]; omega⟩
  | 3, _ =>
    have hn : e * -d = -(e * d) := Int.mul_neg e d
    exact ⟨by simp [cdL]; omega, by simp [exTo, cdL]; omega⟩

theorem l01In_lever (n : Int) (w : World) : Calls Try.prog 73 #[.int .i64 n, .int .i64 (-100), .int .i64 100] w fun e w' => e = .returned (.bool (inR n (-100) 100)) ∧ w = w' := l01InR n _ _ w
theorem l01In_sign (n : Int) (w : World) : Calls Try.prog 73 #[.int .i64 n, .int .i64 (-1), .int .i64 1] w fun e w' => e = .returned (.bool (inR n (-1) 1)) ∧ w = w' := l01InR n _ _ w
theorem l01In_bound (n : Int) (w : World) : Calls Try.prog 73 #[.int .i64 n, .int .i64 (-1000000000), .int .i64 1000000000] w fun e w' => e = .returned (.bool (inR n (-1000000000) 1000000000)) ∧ w = w' := l01InR n _ _ w

set_option maxHeartbeats 1000000 in
theorem specRowOk (a b c d : Int) (w : World) :
    Calls Try.prog 55 #[.agg #[.int .i64 a, .int .i64 b, .int .i64 c, .int .i64 d]] w fun e w' => e = .returned (.bool (cdOk a b c d)) ∧ Below w.heap.size w w' := by
  have hb0 := (Below.refl w.heap.size w).alloc (Nat.le_refl _) (.cells #[.int .i64 a, .int .i64 b, .int .i64 c, .int .i64 d] 104)
  have HB0 := Lib.hid hb0
  clear hb0
  cases ha : inR a (-100) 100
  · go_enter Try.func55, Try.ntmps55
    go_wp2_with fail
    refine (l01In_lever _ _).mono ?_
    rintro e w1 ⟨rfl, rfl⟩
    rw [ha]
    go_wp2_with fail
    go_ret
    exact ⟨ret_bool (cdOk_a ha).symm, HB0.out⟩
  cases hb : inR b (-100) 100
  · go_enter Try.func55, Try.ntmps55
    go_wp2_with fail
    refine (l01In_lever _ _).mono ?_
    rintro e w1 ⟨rfl, rfl⟩
    rw [ha]
    go_wp2_with fail
    refine (l01In_lever _ _).mono ?_
    rintro e w1 ⟨rfl, rfl⟩
    rw [hb]
    go_wp2_with fail
    go_ret
    exact ⟨ret_bool (cdOk_b hb).symm, HB0.out⟩
  cases hc : inR c (-1) 1
  · go_enter Try.func55, Try.ntmps55
    go_wp2_with fail
    refine (l01In_lever _ _).mono ?_
    rintro e w1 ⟨rfl, rfl⟩
    rw [ha]
    go_wp2_with fail
    refine (l01In_lever _ _).mono ?_
    rintro e w1 ⟨rfl, rfl⟩
    rw [hb]
    go_wp2_with fail
    refine (l01In_sign _ _).mono ?_
    rintro e w1 ⟨rfl, rfl⟩
    rw [hc]
    go_wp2_with fail
    go_ret
    exact ⟨ret_bool (cdOk_c hc).symm, HB0.out⟩
  · have HV := Lib.hid (cdOk_yes (d := d) ha hb hc)
    go_enter Try.func55, Try.ntmps55
    go_wp2_with fail
    refine (l01In_lever _ _).mono ?_
    rintro e w1 ⟨rfl, rfl⟩
    rw [ha]
    go_wp2_with fail
    refine (l01In_lever _ _).mono ?_
    rintro e w1 ⟨rfl, rfl⟩
    rw [hb]
    go_wp2_with fail
    refine (l01In_sign _ _).mono ?_
    rintro e w1 ⟨rfl, rfl⟩
    rw [hc]
    go_wp2_with fail
    refine (l01In_bound _ _).mono ?_
    rintro e w1 ⟨rfl, rfl⟩
    go_wp2_with fail
    go_ret
    exact ⟨ret_bool HV.out.symm, HB0.out⟩

set_option maxHeartbeats 1000000 in
theorem specHolds (h v m d a b c e : Int) (w : World) (hx : CdBd h v m d a b c e) :
    Calls Try.prog 76 #[.agg #[.int .i64 h, .int .i64 v, .int .i64 m, .int .i64 d], .agg #[.int .i64 a, .int .i64 b, .int .i64 c, .int .i64 e]] w fun e1 w' => e1 = .returned (.bool (cdH h v m d a b c e)) ∧ Below w.heap.size w w' := by
  have hb0 := ((Below.refl w.heap.size w).alloc (Nat.le_refl _) (.cells #[.int .i64 h, .int .i64 v, .int .i64 m, .int .i64 d] 31)).alloc (by simp) (.cells #[.int .i64 a, .int .i64 b, .int .i64 c, .int .i64 e] 104)
  have HB0 := Lib.hid hb0
  have HV : RowKit.Hid (cdH h v m d a b c e = decide (a * h + b * v + c * m ≤ e * d)) := Lib.hid rfl
  obtain ⟨h1, h2, h3, h4⟩ := hx
  have w1 : IntKind.i64.wrap (a * h) = a * h := IntWalk.i64_in _ (by omega)
  have w2 : IntKind.i64.wrap (b * v) = b * v := IntWalk.i64_in _ (by omega)
  have w3 : IntKind.i64.wrap (c * m) = c * m := IntWalk.i64_in _ (by omega)
  have w4 : IntKind.i64.wrap (e * d) = e * d := IntWalk.i64_in _ (by omega)
  have w5 : IntKind.i64.wrap (a * h + b * v) = a * h + b * v := IntWalk.i64_in _ (by omega)
  have w6 : IntKind.i64.wrap (a * h + b * v + c * m) = a * h + b * v + c * m := IntWalk.i64_in _ (by omega)
  clear hb0 h1 h2 h3 h4
  go_enter Try.func76, Try.ntmps76
  go_wp2_with fail
  go_ret
  exact ⟨ret_bool HV.out.symm, HB0.out⟩

end Go.Proofs.Ytbmlcfdilopmgaa

/- Lists of conditions: FulfillsAll and CountBroken of the program and of the model; whether all are valid. -/
namespace Go.Proofs.Ytbmlcfdilopmgaa
set_option maxRecDepth 100000
open Go.ChangeShapes Go.WideShapes Go.ChangeAt Go.RowKit

/-- A thrust in its box. -/
def TBox (W : World) (H : Nat) (h v m d : Int) : Prop :=
  W.cell? ⟨H, 0, none⟩ = some (.int .i64 h) ∧ W.cell? ⟨H, 1, none⟩ = some (.int .i64 v) ∧ W.cell? ⟨H, 2, none⟩ = some (.int .i64 m) ∧ W.cell? ⟨H, 3, none⟩ = some (.int .i64 d)
theorem TBox.below {w w' : World} {H : Nat} {h v m d : Int} (x : TBox w H h v m d) (hb : Below w.heap.size w w') : TBox w' H h v m d :=
  ⟨tcell x.1 hb, tcell x.2.1 hb, tcell x.2.2.1 hb, tcell x.2.2.2 hb⟩
theorem tbox_alloc (w : World) (h v m d : Int) : TBox (w.alloc (.cells #[.int .i64 h, .int .i64 v, .int .i64 m, .int .i64 d] 31)) w.heap.size h v m d := by
  refine ⟨?_, ?_, ?_, ?_⟩ <;> go_simp
theorem cd_al (w : World) (o : Obj) : Below w.heap.size w (w.alloc o) := (Below.refl w.heap.size w).alloc (Nat.le_refl _) o
def cdOkAt (rs : List Cd) (i : Nat) : Bool := cdOk (cd rs i).1 (cd rs i).2.1 (cd rs i).2.2.1 (cd rs i).2.2.2
def cdsOk (rs : List Cd) : Bool := allV rs.length (cdOkAt rs)

/-- Conditions in the cells of a slice, whoever made its block. -/
structure CdCells (w : World) (a : Option Addr) (n cap : Nat) (rs : List Cd) : Prop where
  cap : n ≤ cap ∧ cap ≤ maxLen
  len : rs.length = n
  each : ∀ i, i < n → ∃ g, a = some ⟨g, 0, Option.none⟩ ∧ True ∧ w.cell? ⟨g, i * 4, Option.none⟩ = some (.int .i64 (cd rs i).1) ∧ w.cell? ⟨g, i * 4 + 1, Option.none⟩ = some (.int .i64 (cd rs i).2.1) ∧ w.cell? ⟨g, i * 4 + 2, Option.none⟩ = some (.int .i64 (cd rs i).2.2.1) ∧ w.cell? ⟨g, i * 4 + 3, Option.none⟩ = some (.int .i64 (cd rs i).2.2.2)
theorem CdCells.below {w w' : World} {n cap : Nat} {a : Option Addr} {rs : List Cd} (h : CdCells w a n cap rs) (hb : Below w.heap.size w w') : CdCells w' a n cap rs :=
  ⟨h.cap, h.len, fun i hi => by obtain ⟨g, e, t, h0, h1, h2, h3⟩ := h.each i hi; exact ⟨g, e, t, tcell h0 hb, tcell h1 hb, tcell h2 hb, tcell h3 hb⟩⟩
theorem Cds.cells {w : World} {B n cap : Nat} {a : Option Addr} {rs : List Cd} (h : Cds w B a n cap rs) : CdCells w a n cap rs :=
  ⟨h.cap, h.2, fun i hi => by obtain ⟨g, e, -, h0, h1, h2, h3⟩ := h.at i hi; exact ⟨g, e, trivial, h0, h1, h2, h3⟩⟩

end Go.Proofs.Ytbmlcfdilopmgaa

/- Steps of a walk: what holds in a world that has only grown since, behind an append; a row that grows by one or two structs of four ints. -/
namespace Go.Proofs.Ytbmlcfdilopmgaa
set_option maxRecDepth 100000
open Go.ChangeShapes Go.WideShapes Go.ChangeAt Go.RowKit

theorem far_low {X w' : World} {B n size b o : Nat} {e : TypeId} {v u : Value} {xs : List Value} (hr : X.ownsRow B e size v n xs) (hg : X.grownBy w' v.ownBlock) (hb : b < B) (hc : X.cell? ⟨b, o, none⟩ = some u) : w'.cell? ⟨b, o, none⟩ = some u :=
  (World.grownBy.cell_far hg ⟨b, o, none⟩ (cell_block_lt hc) (fun he => by have := (World.ownsRow.lt hr b he.symm).1; omega)).trans hc
theorem far_high {w0 X w' : World} {B n size b o : Nat} {e : TypeId} {v u : Value} {xs : List Value} (hr : w0.ownsRow B e size v n xs) (hg : X.grownBy w' v.ownBlock) (hb : w0.heap.size ≤ b) (hc : X.cell? ⟨b, o, none⟩ = some u) : w'.cell? ⟨b, o, none⟩ = some u :=
  (World.grownBy.cell_far hg ⟨b, o, none⟩ (cell_block_lt hc) (fun he => by have := (World.ownsRow.lt hr b he.symm).2; omega)).trans hc
theorem own_cap {w : World} {B s n cap N : Nat} {e : TypeId} {a : Option Addr} {xs : List Value} (h : w.ownsRow B e s (.slice a n cap) N xs) : N ≤ cap ∧ cap ≤ maxLen := by
  rcases h.2 with ⟨h1, h2⟩ | ⟨g, c, cur, h1, -, -, h2, h3, -⟩
  · simp at h1; omega
  · simp at h1; obtain ⟨-, -, rfl⟩ := h1; exact ⟨h2, h3⟩
theorem cstep {Z a b : World} (h : RowKit.Hid (Below Z.heap.size Z a)) (k : Below a.heap.size a b) : Below Z.heap.size Z b := h.out.trans (k.mono h.out.size)
theorem cstepD {Z a b : World} {n : Nat} (h : RowKit.Hid (Below Z.heap.size Z a)) (k : Below (a.drewN n).heap.size (a.drewN n) b) : Below Z.heap.size Z b := (below_drewN h.out n).trans (k.mono h.out.size)
theorem cstepA {Z a b : World} {o : Obj} (h : RowKit.Hid (Below Z.heap.size Z a)) (k : Below (a.alloc o).heap.size (a.alloc o) b) : Below Z.heap.size Z b := by
  have := h.out.alloc h.out.size o
  exact this.trans (k.mono this.size)
theorem cstepDA {Z a b : World} {n : Nat} {o : Obj} (h : RowKit.Hid (Below Z.heap.size Z a)) (k : Below ((a.drewN n).alloc o).heap.size ((a.drewN n).alloc o) b) : Below Z.heap.size Z b := by
  have := (below_drewN h.out n).alloc (below_drewN h.out n).size o
  exact this.trans (k.mono this.size)
theorem cal {Z a : World} (h : Below Z.heap.size Z a) (o : Obj) : Below Z.heap.size Z (a.alloc o) := h.alloc h.size o
theorem flat4_two (rs : List Cd) (a b c d a' b' c' d' : Int) : flat4 (rs ++ [(a, b, c, d), (a', b', c', d')]) = flat4 rs ++ [.int .i64 a, .int .i64 b, .int .i64 c, .int .i64 d, .int .i64 a', .int .i64 b', .int .i64 c', .int .i64 d'] := by rw [flat4_append]; rfl
theorem flat4_one (rs : List Cd) (a b c d : Int) : flat4 (rs ++ [(a, b, c, d)]) = flat4 rs ++ [.int .i64 a, .int .i64 b, .int .i64 c, .int .i64 d] := by rw [flat4_append]; rfl
end Go.Proofs.Ytbmlcfdilopmgaa
