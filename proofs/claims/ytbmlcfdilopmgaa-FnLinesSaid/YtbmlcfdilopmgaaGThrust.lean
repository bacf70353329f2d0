/- Thrusts, plainly: the greatest common divisor of four numbers, what the functions on thrusts answer; a thrust has one form, and what is halfway lies between; Ranges and the greatest common divisor: the contracts of isBetween and commonDivisor of the program, of l01In and l08Gcd of the model; Thrusts: the struct as it comes in; ThrustOk of the program and of the model; The program's functions on thrusts: isMixable, MakeThrust, CompareThrusts, MixThrusts; The model's functions on thrusts: MakeThrust, CompareThrusts, MixThrusts. -/
import Derived.Test.YtbmlcfdilopmgaaGBase
import Derived.Deep.RegionWith

/- Thrusts, plainly: the greatest common divisor of four numbers, what the functions on thrusts answer; a thrust has one form, and what is halfway lies between. -/
namespace Go.Proofs.Ytbmlcfdilopmgaa
set_option maxRecDepth 100000

def inR (n a b : Int) : Bool := decide (a ≤ n ∧ n ≤ b)
theorem inR_iff {n a b : Int} : inR n a b = true ↔ a ≤ n ∧ n ≤ b := by unfold inR; simp

/-- The greatest common divisor of four numbers. -/
def gcd4 (h v m d : Int) : Nat := Nat.gcd (Nat.gcd h.natAbs v.natAbs) (Nat.gcd m.natAbs d.natAbs)
theorem gcd4_row (h v m d : Int) : Nat.gcd (Nat.gcd (Nat.gcd (Nat.gcd 0 h.natAbs) v.natAbs) m.natAbs) d.natAbs = gcd4 h v m d := by
  unfold gcd4; rw [Nat.gcd_zero_left, Nat.gcd_assoc]
theorem gcd4_mul (k h v m d : Int) : gcd4 (k * h) (k * v) (k * m) (k * d) = k.natAbs * gcd4 h v m d := by
  unfold gcd4
  rw [Int.natAbs_mul, Int.natAbs_mul, Int.natAbs_mul, Int.natAbs_mul, Nat.gcd_mul_left, Nat.gcd_mul_left, Nat.gcd_mul_left]
theorem gcd4_dvd (h v m d : Int) : gcd4 h v m d ∣ h.natAbs ∧ gcd4 h v m d ∣ v.natAbs ∧ gcd4 h v m d ∣ m.natAbs ∧ gcd4 h v m d ∣ d.natAbs :=
  ⟨Nat.dvd_trans (Nat.gcd_dvd_left _ _) (Nat.gcd_dvd_left _ _), Nat.dvd_trans (Nat.gcd_dvd_left _ _) (Nat.gcd_dvd_right _ _),
   Nat.dvd_trans (Nat.gcd_dvd_right _ _) (Nat.gcd_dvd_left _ _), Nat.dvd_trans (Nat.gcd_dvd_right _ _) (Nat.gcd_dvd_right _ _)⟩
theorem gcd4_pos {h v m d : Int} (hd : d ≠ 0) : 0 < gcd4 h v m d := Nat.pos_of_dvd_of_pos (gcd4_dvd h v m d).2.2.2 (by omega)
theorem gcd4_le {h v m d : Int} (hd : d ≠ 0) : gcd4 h v m d ≤ d.natAbs := Nat.le_of_dvd (by omega) (gcd4_dvd h v m d).2.2.2

/-- A valid thrust. -/
def okT (h v m d : Int) : Bool := inR d 1 1000000 && (inR h 0 1000000000000 && (inR v (-10000000000000) 10000000000000 && (inR m (-10000000000000) 10000000000000 && decide (gcd4 h v m d = 1))))
theorem okT_iff {h v m d : Int} : okT h v m d = true ↔ (1 ≤ d ∧ d ≤ 1000000) ∧ (0 ≤ h ∧ h ≤ 1000000000000) ∧ (-10000000000000 ≤ v ∧ v ≤ 10000000000000) ∧ (-10000000000000 ≤ m ∧ m ≤ 10000000000000) ∧ gcd4 h v m d = 1 := by
  unfold okT; simp only [Bool.and_eq_true, inR_iff, decide_eq_true_eq]

/-- The divisor with Den's sign. -/
def sgn (h v m d : Int) : Int := if d < 0 then -(gcd4 h v m d : Int) else (gcd4 h v m d : Int)
theorem sgn_ne {h v m d : Int} (hd : d ≠ 0) : sgn h v m d ≠ 0 := by
  have := gcd4_pos (h := h) (v := v) (m := m) hd
  unfold sgn; split <;> omega
theorem sgn_dvd (h v m d : Int) : sgn h v m d ∣ h ∧ sgn h v m d ∣ v ∧ sgn h v m d ∣ m ∧ sgn h v m d ∣ d := by
  obtain ⟨a, b, c, e⟩ := gcd4_dvd h v m d
  unfold sgn
  split
  · refine ⟨Int.neg_dvd.2 ?_, Int.neg_dvd.2 ?_, Int.neg_dvd.2 ?_, Int.neg_dvd.2 ?_⟩ <;> (apply Int.ofNat_dvd_left.2; assumption)
  · refine ⟨?_, ?_, ?_, ?_⟩ <;> (apply Int.ofNat_dvd_left.2; assumption)

def inF (n : Int) : Bool := inR n (-4000000000000000000) 4000000000000000000
def mkIn (h v m d : Int) : Bool := inF h && (inF v && (inF m && inF d))
/-- Whether MakeThrust answers a thrust. -/
def mkB (h v m d : Int) : Bool := !decide (d = 0) && (mkIn h v m d && okT (h.tdiv (sgn h v m d)) (v.tdiv (sgn h v m d)) (m.tdiv (sgn h v m d)) (d.tdiv (sgn h v m d)))
/-- A number of what it answers. -/
def mkN (x h v m d : Int) : Int := if mkB h v m d then x.tdiv (sgn h v m d) else 0

theorem tdiv_bd (x s : Int) (h : inF x = true) : -4000000000000000000 ≤ x.tdiv s ∧ x.tdiv s ≤ 4000000000000000000 := by
  unfold inF at h
  have h := inR_iff.1 h
  have h1 : (x.tdiv s).natAbs = x.natAbs / s.natAbs := Int.natAbs_tdiv x s
  have h2 := Nat.div_le_self x.natAbs s.natAbs
  omega

/-- The quotients are in lowest terms. -/
theorem parts {h v m d : Int} (hd : d ≠ 0) : sgn h v m d * h.tdiv (sgn h v m d) = h ∧ sgn h v m d * v.tdiv (sgn h v m d) = v ∧ sgn h v m d * m.tdiv (sgn h v m d) = m ∧ sgn h v m d * d.tdiv (sgn h v m d) = d
    ∧ gcd4 (h.tdiv (sgn h v m d)) (v.tdiv (sgn h v m d)) (m.tdiv (sgn h v m d)) (d.tdiv (sgn h v m d)) = 1 := by
  obtain ⟨a, b, c, e⟩ := sgn_dvd h v m d
  have e1 := Int.mul_tdiv_cancel' a
  have e2 := Int.mul_tdiv_cancel' b
  have e3 := Int.mul_tdiv_cancel' c
  have e4 := Int.mul_tdiv_cancel' e
  refine ⟨e1, e2, e3, e4, ?_⟩
  have hm := gcd4_mul (sgn h v m d) (h.tdiv (sgn h v m d)) (v.tdiv (sgn h v m d)) (m.tdiv (sgn h v m d)) (d.tdiv (sgn h v m d))
  rw [e1, e2, e3, e4] at hm
  have hp := gcd4_pos (h := h) (v := v) (m := m) hd
  have hs : (sgn h v m d).natAbs = gcd4 h v m d := by unfold sgn; split <;> omega
  rw [hs] at hm
  generalize gcd4 h v m d = g at hm hp
  exact Nat.eq_of_mul_eq_mul_left hp (by omega)
theorem mulT_bd {x y : Int} (a b : Nat) (hx : -(a : Int) ≤ x ∧ x ≤ a) (hy : -(b : Int) ≤ y ∧ y ≤ b) : -((a * b : Nat) : Int) ≤ x * y ∧ x * y ≤ ((a * b : Nat) : Int) := by
  have h1 : (x * y).natAbs = x.natAbs * y.natAbs := Int.natAbs_mul x y
  have h2 : x.natAbs * y.natAbs ≤ a * b := Nat.mul_le_mul (by omega) (by omega)
  omega
theorem mkB_iff {h v m d : Int} : mkB h v m d = true ↔ d ≠ 0 ∧ (inF h = true ∧ inF v = true ∧ inF m = true ∧ inF d = true) ∧ okT (h.tdiv (sgn h v m d)) (v.tdiv (sgn h v m d)) (m.tdiv (sgn h v m d)) (d.tdiv (sgn h v m d)) = true := by
  unfold mkB mkIn; simp
theorem mkN_yes {x h v m d : Int} (hb : mkB h v m d = true) : mkN x h v m d = x.tdiv (sgn h v m d) := by unfold mkN; rw [hb]; rfl
theorem mkN_no {x h v m d : Int} (hb : mkB h v m d = false) : mkN x h v m d = 0 := by unfold mkN; rw [hb]; rfl
/-- What MakeThrust answers, where it does, is valid. -/
theorem mk_ok {h v m d : Int} (hb : mkB h v m d = true) : okT (mkN h h v m d) (mkN v h v m d) (mkN m h v m d) (mkN d h v m d) = true := by
  rw [mkN_yes hb, mkN_yes hb, mkN_yes hb, mkN_yes hb]; exact (mkB_iff.1 hb).2.2

/-- A thrust has one form. -/
theorem mk_same {h v m d : Int} (ht : okT h v m d = true) (k : Int) (hk : -100 ≤ k ∧ k < 0) :
    mkB (k * h) (k * v) (k * m) (k * d) = true ∧ mkN (k * h) (k * h) (k * v) (k * m) (k * d) = h ∧ mkN (k * v) (k * h) (k * v) (k * m) (k * d) = v ∧ mkN (k * m) (k * h) (k * v) (k * m) (k * d) = m ∧ mkN (k * d) (k * h) (k * v) (k * m) (k * d) = d := by
  have hh := okT_iff.1 ht
  have hneg : k * d < 0 := Int.mul_neg_of_neg_of_pos hk.2 (by omega)
  have hs : sgn (k * h) (k * v) (k * m) (k * d) = k := by
    unfold sgn; rw [if_pos hneg, gcd4_mul, hh.2.2.2.2]; omega
  have hk0 : k ≠ 0 := by omega
  have q : ∀ x : Int, (k * x).tdiv k = x := fun x => Int.mul_tdiv_cancel_left x hk0
  have f : ∀ x : Int, (-10000000000000 ≤ x ∧ x ≤ 10000000000000) → inF (k * x) = true := fun x hx => by
    have := mulT_bd (x := k) (y := x) 100 10000000000000 (by omega) (by omega)
    exact inR_iff.2 (by omega)
  have hb : mkB (k * h) (k * v) (k * m) (k * d) = true := mkB_iff.2 ⟨by omega, ⟨f h (by omega), f v (by omega), f m (by omega), f d (by omega)⟩, by rw [hs, q, q, q, q]; exact ht⟩
  refine ⟨hb, ?_, ?_, ?_, ?_⟩ <;> (rw [mkN_yes hb, hs]; exact q _)

/-- What MakeThrust answers with small numbers. -/
theorem mk_small {h v m d : Int} (hd : 0 < d ∧ d ≤ 1000000) (hh : 0 ≤ h ∧ h ≤ 1000000000000) (hv : -10000000000000 ≤ v ∧ v ≤ 10000000000000) (hm : -10000000000000 ≤ m ∧ m ≤ 10000000000000) :
    mkB h v m d = true ∧ 0 < sgn h v m d ∧ sgn h v m d * mkN h h v m d = h ∧ sgn h v m d * mkN v h v m d = v ∧ sgn h v m d * mkN m h v m d = m ∧ sgn h v m d * mkN d h v m d = d
    ∧ (mkN h h v m d).natAbs ≤ h.natAbs ∧ (mkN v h v m d).natAbs ≤ v.natAbs ∧ (mkN m h v m d).natAbs ≤ m.natAbs ∧ (mkN d h v m d).natAbs ≤ d.natAbs := by
  have hd0 : d ≠ 0 := by omega
  obtain ⟨e1, e2, e3, e4, e5⟩ := parts (h := h) (v := v) (m := m) hd0
  have hs : 0 < sgn h v m d := by
    have := gcd4_pos (h := h) (v := v) (m := m) hd0
    unfold sgn; rw [if_neg (by omega)]; omega
  have a : ∀ x : Int, (x.tdiv (sgn h v m d)).natAbs ≤ x.natAbs := fun x => by rw [Int.natAbs_tdiv]; exact Nat.div_le_self _ _
  have p : ∀ x : Int, 0 ≤ x → 0 ≤ x.tdiv (sgn h v m d) := fun x hx => Int.tdiv_nonneg hx (by omega)
  have d1 : d.tdiv (sgn h v m d) ≠ 0 := fun h0 => by rw [h0, Int.mul_zero] at e4; omega
  have hb : mkB h v m d = true := by
    refine mkB_iff.2 ⟨hd0, ⟨inR_iff.2 (by omega), inR_iff.2 (by omega), inR_iff.2 (by omega), inR_iff.2 (by omega)⟩, okT_iff.2 ⟨?_, ?_, ?_, ?_, e5⟩⟩
    · have := a d; have := p d (by omega); omega
    · have := a h; have := p h (by omega); omega
    · have := a v; omega
    · have := a m; omega
  rw [mkN_yes hb, mkN_yes hb, mkN_yes hb, mkN_yes hb]
  exact ⟨hb, hs, e1, e2, e3, e4, a h, a v, a m, a d⟩

/-- What CompareThrusts answers of two valid thrusts. -/
def ordV (x y : Int) : Int := if x < y then -1 else if x > y then 1 else 0
def cmpV (ah av am ad bh bv bm bd : Int) : Int := if okT ah av am ad && okT bh bv bm bd then ordV (ah * bd) (bh * ad) else -2
theorem cmpV_yes {ah av am ad bh bv bm bd : Int} (ha : okT ah av am ad = true) (hb : okT bh bv bm bd = true) : cmpV ah av am ad bh bv bm bd = ordV (ah * bd) (bh * ad) := by unfold cmpV; rw [ha, hb]; rfl
theorem cmpV_a {ah av am ad bh bv bm bd : Int} (ha : okT ah av am ad = false) : cmpV ah av am ad bh bv bm bd = -2 := by unfold cmpV; rw [ha]; rfl
theorem cmpV_b {ah av am ad bh bv bm bd : Int} (hb : okT bh bv bm bd = false) : cmpV ah av am ad bh bv bm bd = -2 := by unfold cmpV; rw [hb, Bool.and_false]; rfl
theorem ord_neg (x y : Int) : ordV x y = -ordV y x := by unfold ordV; split <;> split <;> (try split) <;> omega
theorem ord_same (x : Int) : ordV x x = 0 := by unfold ordV; rw [if_neg (by omega), if_neg (by omega)]
theorem ord_scale {x y p q s : Int} (hs : 0 < s) {t : Int} (ht : 0 < t) (h : s * (x - y) = t * (p - q)) : ordV x y = ordV p q := by
  have h1 : x < y ↔ p < q := by
    constructor
    · intro hl
      have : s * (x - y) < 0 := Int.mul_neg_of_pos_of_neg hs (by omega)
      rw [h] at this
      have := Int.neg_of_mul_neg_left (a := p - q) (b := t) (by rwa [Int.mul_comm]) 
      omega
    · intro hl
      have : t * (p - q) < 0 := Int.mul_neg_of_pos_of_neg ht (by omega)
      rw [← h] at this
      have := Int.neg_of_mul_neg_left (a := x - y) (b := s) (by rwa [Int.mul_comm]) 
      omega
  have h2 : x > y ↔ p > q := by
    constructor
    · intro hl
      have : 0 < s * (x - y) := Int.mul_pos hs (by omega)
      rw [h] at this
      refine Classical.byContradiction fun hn => ?_
      have := Int.mul_nonpos_of_nonneg_of_nonpos (a := t) (b := p - q) (by omega) (by omega)
      omega
    · intro hl
      have : 0 < t * (p - q) := Int.mul_pos ht (by omega)
      rw [← h] at this
      refine Classical.byContradiction fun hn => ?_
      have := Int.mul_nonpos_of_nonneg_of_nonpos (a := s) (b := x - y) (by omega) (by omega)
      omega
  unfold ordV
  simp only [h1, h2]

/-- The mixture of two valid thrusts, as what MakeThrust gets. -/
def mxH (ah ad bh bd : Int) : Int := ah * bd + bh * ad
def mxD (ad bd : Int) : Int := 2 * ad * bd
def mxOk (ah av am ad bh bv bm bd : Int) : Bool := (okT ah av am ad && decide (ad ≤ 1000)) && (okT bh bv bm bd && decide (bd ≤ 1000))
def mxB (ah av am ad bh bv bm bd : Int) : Bool := mxOk ah av am ad bh bv bm bd && mkB (mxH ah ad bh bd) (mxH av ad bv bd) (mxH am ad bm bd) (mxD ad bd)
def mxN (x ah av am ad bh bv bm bd : Int) : Int := if mxOk ah av am ad bh bv bm bd then mkN x (mxH ah ad bh bd) (mxH av ad bv bd) (mxH am ad bm bd) (mxD ad bd) else 0

/-- Small valid thrusts, as the draws make them. -/
def smallT (h v m d : Int) : Prop := okT h v m d = true ∧ h ≤ 1000 ∧ (-1000 ≤ v ∧ v ≤ 1000) ∧ (-1000 ≤ m ∧ m ≤ 1000) ∧ d ≤ 12

/-- What is halfway lies between. -/
theorem mix_law {ah av am ad bh bv bm bd : Int} (ha : smallT ah av am ad) (hb : smallT bh bv bm bd) :
    mxOk ah av am ad bh bv bm bd = true ∧ mkB (mxH ah ad bh bd) (mxH av ad bv bd) (mxH am ad bm bd) (mxD ad bd) = true := by
  obtain ⟨a0, a1, a2, a3, a4⟩ := ha
  obtain ⟨b0, b1, b2, b3, b4⟩ := hb
  have ha := okT_iff.1 a0
  have hb := okT_iff.1 b0
  refine ⟨?_, ?_⟩
  · unfold mxOk; rw [a0, b0, decide_eq_true (show ad ≤ 1000 by omega), decide_eq_true (show bd ≤ 1000 by omega)]; rfl
  · have m1 := mulT_bd (x := ah) (y := bd) 1000 12 (by omega) (by omega)
    have m2 := mulT_bd (x := bh) (y := ad) 1000 12 (by omega) (by omega)
    have m3 := mulT_bd (x := av) (y := bd) 1000 12 (by omega) (by omega)
    have m4 := mulT_bd (x := bv) (y := ad) 1000 12 (by omega) (by omega)
    have m5 := mulT_bd (x := am) (y := bd) 1000 12 (by omega) (by omega)
    have m6 := mulT_bd (x := bm) (y := ad) 1000 12 (by omega) (by omega)
    have m7 := mulT_bd (x := ad) (y := bd) 12 12 (by omega) (by omega)
    have p1 : 0 ≤ ah * bd := Int.mul_nonneg (by omega) (by omega)
    have p2 : 0 ≤ bh * ad := Int.mul_nonneg (by omega) (by omega)
    have p3 : 0 < ad * bd := Int.mul_pos (by omega) (by omega)
    refine (mk_small (h := mxH ah ad bh bd) (v := mxH av ad bv bd) (m := mxH am ad bm bd) (d := mxD ad bd) ?_ ?_ ?_ ?_).1
    · unfold mxD; rw [Int.mul_assoc]; omega
    · unfold mxH; omega
    · unfold mxH; omega
    · unfold mxH; omega
theorem mix_ord {ah av am ad bh bv bm bd : Int} (ha : smallT ah av am ad) (hb : smallT bh bv bm bd) (mh md : Int)
    (eh : mh = mkN (mxH ah ad bh bd) (mxH ah ad bh bd) (mxH av ad bv bd) (mxH am ad bm bd) (mxD ad bd)) (ed : md = mkN (mxD ad bd) (mxH ah ad bh bd) (mxH av ad bv bd) (mxH am ad bm bd) (mxD ad bd)) :
    ordV (ah * md) (mh * ad) = ordV (ah * bd) (bh * ad) ∧ ordV (mh * bd) (bh * md) = ordV (ah * bd) (bh * ad) := by
  obtain ⟨-, hk⟩ := mix_law ha hb
  have hd0 : mxD ad bd ≠ 0 := (mkB_iff.1 hk).1
  have qa := okT_iff.1 ha.1
  have qb := okT_iff.1 hb.1
  have hpd : 0 < ad * bd := Int.mul_pos (by omega) (by omega)
  have hpos : 0 < mxD ad bd := by unfold mxD; rw [Int.mul_assoc]; omega
  obtain ⟨e1, e2, e3, e4, -⟩ := parts (h := mxH ah ad bh bd) (v := mxH av ad bv bd) (m := mxH am ad bm bd) hd0
  rw [mkN_yes hk] at eh ed
  rw [← eh] at e1
  rw [← ed] at e4
  have hs : 0 < sgn (mxH ah ad bh bd) (mxH av ad bv bd) (mxH am ad bm bd) (mxD ad bd) := by
    have := gcd4_pos (h := mxH ah ad bh bd) (v := mxH av ad bv bd) (m := mxH am ad bm bd) hd0
    unfold sgn; rw [if_neg (by omega)]; omega
  generalize sgn (mxH ah ad bh bd) (mxH av ad bv bd) (mxH am ad bm bd) (mxD ad bd) = s at *
  clear eh ed hk
  unfold mxH at e1
  unfold mxD at e4
  refine ⟨ord_scale (s := s) (t := ad) hs (by omega) ?_, ord_scale (s := s) (t := bd) hs (by omega) ?_⟩
  · have : s * (ah * md - mh * ad) = ah * (s * md) - (s * mh) * ad := by grind
    rw [this, e1, e4]; grind
  · have : s * (mh * bd - bh * md) = (s * mh) * bd - bh * (s * md) := by grind
    rw [this, e1, e4]; grind
end Go.Proofs.Ytbmlcfdilopmgaa

/- Ranges and the greatest common divisor: the contracts of isBetween and commonDivisor of the program, of l01In and l08Gcd of the model. -/
namespace Go.Proofs.Ytbmlcfdilopmgaa
set_option maxRecDepth 100000
open Go.ChangeShapes Go.WideShapes Go.ChangeAt Go.RowKit

theorem tcell {w w' : World} {b o : Nat} {v : Value} (h : w.cell? ⟨b, o, none⟩ = some v) (k : Below w.heap.size w w') : w'.cell? ⟨b, o, none⟩ = some v := (k.cell (p := ⟨b, o, none⟩) (cell_block_lt h)).trans h

theorem tcellD {w w' : World} {b o : Nat} {v : Value} (h : w.cell? ⟨b, o, none⟩ = some v) (k : Below w.drew.heap.size w.drew w') : w'.cell? ⟨b, o, none⟩ = some v := (k.cell (p := ⟨b, o, none⟩) (show b < w.heap.size from cell_block_lt h)).trans h
theorem tbelowD {B : Nat} {a w : World} (h : Below B a w) : Below B a w.drew := ⟨h.os, h.tape, h.output, h.size, h.block⟩

theorem isBetweenR (n a b : Int) (w : World) (hab : a ≤ b) :
    Calls Try.prog 37 #[.int .i64 n, .int .i64 a, .int .i64 b] w fun e w' => e = .returned (.bool (inR n a b)) ∧ w = w' := by
  go_enter Try.func37, Try.ntmps37
  go_wp2
  all_goals
    go_ret
    refine ⟨ret_bool ?_, rfl⟩
    rw [Bool.eq_iff_iff, inR_iff]
    first
      | (rw [decide_eq_true_iff]; omega)
      | (simp only [Bool.false_eq_true, false_iff]; omega)

theorem l01InR (n lo hi : Int) (w : World) :
    Calls Try.prog 73 #[.int .i64 n, .int .i64 lo, .int .i64 hi] w fun e w' => e = .returned (.bool (inR n lo hi)) ∧ w = w' := by
  have hV : inR n lo hi = decide (lo ≤ n ∧ n ≤ hi) := rfl
  rw [hV]
  clear hV
  by_cases h : n < lo
  · go_enter Try.func73, Try.ntmps73
    go_wp2
    go_ret
    exact ⟨ret_bool (by simp <;> omega), rfl⟩
  · go_enter Try.func73, Try.ntmps73
    go_wp2
    go_ret
    exact ⟨ret_bool (by simp <;> omega), rfl⟩

theorem gcd_step (p q : Int) : Nat.gcd q.natAbs (p.tmod q).natAbs = Nat.gcd p.natAbs q.natAbs := by
  rw [Int.natAbs_tmod, Nat.gcd_comm q.natAbs, ← Nat.gcd_rec, Nat.gcd_comm]
theorem tmod_lt {p q : Int} (hq : q ≠ 0) : (p.tmod q).natAbs < q.natAbs := by
  rw [Int.natAbs_tmod]; exact Nat.mod_lt _ (by omega)

set_option maxHeartbeats 400000 in
theorem specGcd (a b : Int) (w : World) (ha : a.natAbs ≤ 9223372036854775807) (hb : b.natAbs ≤ 9223372036854775807) :
    Calls Try.prog 65 #[.int .i64 a, .int .i64 b] w fun e w' => e = .returned (.int .i64 ((Nat.gcd a.natAbs b.natAbs : Nat) : Int)) ∧ Below w.heap.size w w' := by
  obtain ⟨g, hg⟩ : ∃ g, g = Nat.gcd a.natAbs b.natAbs := ⟨_, rfl⟩
  rw [← hg]
  have HG := Lib.hid hg
  have HA := Lib.hid ha
  have HB := Lib.hid hb
  clear hg ha hb
  go_enter Try.func65, Try.ntmps65
  go_wp2_with fail
  go_loopw [0, 1] (fun x y wr => ∃ p q : Int, x = .int .i64 p ∧ y = .int .i64 q ∧ p.natAbs ≤ 9223372036854775807 ∧ q.natAbs ≤ 9223372036854775807 ∧ Nat.gcd p.natAbs q.natAbs = g ∧ Below w.heap.size w wr) (fun _ y _ => (intOf y).natAbs)
  case atStart => exact ⟨a, b, rfl, rfl, HA.out, HB.out, HG.out.symm, Below.refl _ _⟩
  case round =>
    obtain ⟨p, q, rfl, rfl, hp, hq, he, hbw⟩ := hrel
    have HBW := Lib.hid hbw
    clear hbw
    have HE := Lib.hid he
    have HP := Lib.hid hp
    have HQ := Lib.hid hq
    clear he hp hq
    by_cases h0 : q = 0
    · subst h0
      have hm : max p (-p) = (g : Int) := by
        have := HE.out
        rw [show (0 : Int).natAbs = 0 from rfl, Nat.gcd_zero_right] at this
        omega
      have hn : IntKind.i64.wrap (-p) = -p := IntWalk.i64_in _ (by have := HP.out; omega)
      go_wp2_with fail
      all_goals
        go_ret
        exact ⟨ret_i64 (by omega), HBW.out⟩
    · obtain ⟨r, hr⟩ : ∃ r, p.tmod q = r := ⟨_, rfl⟩
      have HR := Lib.hid hr
      go_wp2_with fail
      go_quiet (fail)
      go_wp2_with fail
      go_round
      case rel =>
        have h1 := gcd_step p q
        have h2 := tmod_lt (p := p) h0
        rw [HR.out] at h1 h2
        have := HQ.out
        exact ⟨q, r, rfl, rfl, this, by omega, h1.trans HE.out, below_drewN HBW.out _⟩
      case measure =>
        have h2 := tmod_lt (p := p) h0
        rw [HR.out] at h2
        simp [intOf]; omega

/-- The greatest common divisor of the first k numbers. -/
def gTo (ns : List Int) : Nat → Nat
  | 0 => 0
  | k + 1 => Nat.gcd (gTo ns k) (ns.getD k 0).natAbs
theorem gTo_four (h v m d : Int) : gTo [h, v, m, d] 4 = gcd4 h v m d := gcd4_row h v m d
theorem gTo_le {ns : List Int} {M : Nat} (hM : ∀ k, k < ns.length → (ns.getD k 0).natAbs ≤ M) : ∀ k, k ≤ ns.length → gTo ns k ≤ M
  | 0, _ => Nat.zero_le _
  | k + 1, hk => by
    by_cases h0 : (ns.getD k 0).natAbs = 0
    · show Nat.gcd _ _ ≤ M
      rw [h0, Nat.gcd_zero_right]; exact gTo_le hM k (by omega)
    · exact Nat.le_trans (Nat.le_of_dvd (by omega) (Nat.gcd_dvd_right _ _)) (hM k (by omega))

/-- A slice's numbers: they lie at block b; none is the least int. -/
def NumRow (w : World) (b : Nat) (ns : List Int) : Prop := ∀ k, k < ns.length → w.cell? ⟨b, k, none⟩ = some (.int .i64 (ns.getD k 0)) ∧ (ns.getD k 0).natAbs ≤ 9223372036854775807
theorem NumRow.below {w w' : World} {b : Nat} {ns : List Int} (h : NumRow w b ns) (hb : Below w.heap.size w w') : NumRow w' b ns := fun k hk => ⟨by
  rw [hb.cell (p := ⟨b, k, none⟩) (cell_block_lt (h k hk).1)]; exact (h k hk).1, (h k hk).2⟩

set_option maxHeartbeats 1000000 in
theorem implGcd (ns : List Int) (b n cap : Nat) (w : World) (hn : n = ns.length) (hn1 : n ≤ 1048576) (hr : NumRow w b ns) :
    Calls Try.prog 82 #[.slice (some ⟨b, 0, none⟩) n cap] w fun e w' => e = .returned (.int .i64 ((gTo ns n : Nat) : Int)) ∧ Below w.heap.size w w' := by
  have HR := Lib.hid hr
  have HN := Lib.hid hn
  have HG := Lib.hid (fun k (hk : k ≤ n) => gTo_le (fun k hk => (hr k hk).2) k (by omega : k ≤ ns.length))
  clear hr hn
  go_enter Try.func82, Try.ntmps82
  go_wp2_with fail
  go_loopw [3, 8] (fun x t wr => ∃ k : Nat, k ≤ n ∧ t = .int .i64 k ∧ ∃ p : Int, x = .int .i64 p ∧ p.natAbs = gTo ns k ∧ Below w.heap.size w wr) (fun _ t _ => n - (intOf t).toNat)
  case atStart => exact ⟨0, Nat.zero_le _, rfl, 0, rfl, rfl, Below.refl _ _⟩
  case round =>
    obtain ⟨k, hk, rfl, p, rfl, hp, hbw⟩ := hrel
    have HP := Lib.hid hp
    have HB := Lib.hid hbw
    have HG1 := Lib.hid (HG.out k hk)
    clear hp hbw
    by_cases hlt : k < n
    · have hc := ((HR.out.below HB.out) k (by rw [← HN.out]; exact hlt)).1
      obtain ⟨c, hc0⟩ : ∃ c, ns.getD k 0 = c := ⟨_, rfl⟩
      rw [hc0] at hc
      have HE := Lib.hid (show Nat.gcd p.natAbs c.natAbs = gTo ns (k + 1) by rw [HP.out, ← hc0]; rfl)
      have HC := Lib.hid (show c.natAbs ≤ 9223372036854775807 by rw [← hc0]; exact (HR.out k (by rw [← HN.out]; exact hlt)).2)
      clear hc0
      go_wp2_with fail
      rename World => wo
      go_loopw [3, 5] (fun x y w2 => ∃ p q : Int, x = .int .i64 p ∧ y = .int .i64 q ∧ p.natAbs ≤ 9223372036854775807 ∧ q.natAbs ≤ 9223372036854775807 ∧ Nat.gcd p.natAbs q.natAbs = gTo ns (k + 1) ∧ Below w.heap.size w w2) (fun _ y _ => (intOf y).natAbs)
      case atStart => exact ⟨p, c, rfl, rfl, by rw [HP.out]; exact HG1.out, HC.out, HE.out, HB.out⟩
      case round =>
        clear HP HG1 HB HE HC hc
        obtain ⟨p, q, rfl, rfl, hp, hq, he, hbw⟩ := hrel
        have HBW := Lib.hid hbw
        have HE := Lib.hid he
        have HP := Lib.hid hp
        have HQ := Lib.hid hq
        clear he hp hq hbw
        by_cases h0 : q = 0
        · subst h0
          have HE2 := Lib.hid (show p.natAbs = gTo ns (k + 1) by
            have := HE.out
            rwa [show (0 : Int).natAbs = 0 from rfl, Nat.gcd_zero_right] at this)
          clear HE
          go_wp2_with fail
          go_round
          case rel => exact ⟨k + 1, by omega, by go_num, p, rfl, HE2.out, HBW.out⟩
          case measure => simp [intOf]; omega
        · obtain ⟨r, hr⟩ : ∃ r, p.tmod q = r := ⟨_, rfl⟩
          have HRR := Lib.hid hr
          go_wp2_with fail
          go_quiet (fail)
          go_wp2_with fail
          go_round
          case rel =>
            have h1 := gcd_step p q
            have h2 := tmod_lt (p := p) h0
            rw [HRR.out] at h1 h2
            have := HQ.out
            exact ⟨q, r, rfl, rfl, this, by omega, h1.trans HE.out, below_drewN HBW.out _⟩
          case measure =>
            have h2 := tmod_lt (p := p) h0
            rw [HRR.out] at h2
            simp [intOf]; omega
    · obtain rfl : k = n := by omega
      have hm : max p (-p) = (gTo ns k : Int) := by have := HP.out; omega
      have hn : IntKind.i64.wrap (-p) = -p := IntWalk.i64_in _ (by have := HP.out; have := HG1.out; omega)
      go_wp2_with fail
      all_goals
        go_ret
        exact ⟨ret_i64 (by omega), HB.out⟩
end Go.Proofs.Ytbmlcfdilopmgaa

/- Thrusts: the struct as it comes in; ThrustOk of the program and of the model. -/
namespace Go.Proofs.Ytbmlcfdilopmgaa
set_option maxRecDepth 100000
open Go.ChangeShapes Go.WideShapes Go.ChangeAt Go.RowKit

/-- A thrust, as a value. -/
abbrev tv (h v m d : Int) : Value := .agg #[.int .i64 h, .int .i64 v, .int .i64 m, .int .i64 d]
theorem array4T {α : Type} {cs : Array α} (h : cs.size = 4) : ∃ a b c d, cs = #[a, b, c, d] := by
  obtain ⟨l⟩ := cs
  match l, h with
  | [a, b, c, d], _ => exact ⟨a, b, c, d, rfl⟩

/-- A struct of four fields, field by field. -/
theorem four_fields {H : Type} {enc : TypeId × Value → H} {P : Program} {w : World} {base fuel : Nat} {spare : Nat → Bool} {held : Bool} {t : TypeId} {f0 f1 f2 f3 : Field} {cs : List Value} {x : DataW H × List MemPlace}
    (ht : P.underlying t = some (.struct #[f0, f1, f2, f3])) (h : DataW.trod enc P w base spare held fuel t cs = some x) :
    ∃ y0 y1 y2 y3 n, DataW.trod enc P w base spare held n f0.type ((cs.drop f0.offset).take (P.cellsOf f0.type)) = some y0 ∧ DataW.trod enc P w base spare held n f1.type ((cs.drop f1.offset).take (P.cellsOf f1.type)) = some y1 ∧
      DataW.trod enc P w base spare held n f2.type ((cs.drop f2.offset).take (P.cellsOf f2.type)) = some y2 ∧ DataW.trod enc P w base spare held n f3.type ((cs.drop f3.offset).take (P.cellsOf f3.type)) = some y3 := by
  obtain ⟨xs, n, -, -, -, hlen, hg⟩ := DataW.trod_struct ht h
  match xs, hlen with
  | [y0, y1, y2, y3], _ => exact ⟨y0, y1, y2, y3, n, by simpa using hg 0 f0 rfl, by simpa using hg 1 f1 rfl, by simpa using hg 2 f2 rfl, by simpa using hg 3 f3 rfl⟩

theorem cellsThrust : Try.prog.cellsOf 48 = 4 := by kernel_rfl

/-- A thrust that came in: four ints. -/
theorem open_thrust {H : Type} {enc : TypeId × Value → H} {w : World} {r : Reach} {b0 base : Nat} {spare : Nat → Bool} {held : Bool} {v : Value} {d : DataW H} {p : List MemPlace}
    (hv : Value.okWide Try.prog w r b0 48 v) (h : DataW.Trod enc Try.prog w base spare held 48 v d p) :
    ∃ x y z u : Int, v = .agg #[.int .i64 x, .int .i64 y, .int .i64 z, .int .i64 u] ∧ I64 x ∧ I64 y ∧ I64 z ∧ I64 u := by
  obtain ⟨cs, rfl, hsz⟩ := okWide_struct Try.underlying48 hv
  obtain ⟨c0, c1, c2, c3, rfl⟩ := array4T (hsz.trans cellsThrust)
  obtain ⟨fuel, hf⟩ := h
  obtain ⟨y0, y1, y2, y3, n, h0, h1, h2, h3⟩ := four_fields Try.underlying48 hf
  have ci : Try.prog.cellsOf 3 = 1 := by kernel_rfl
  simp only [Value.cells, ci, List.drop_zero, List.take_succ_cons, List.take_zero, List.drop_succ_cons] at h0 h1 h2 h3
  obtain ⟨a, e0, -, wa⟩ := DataW.trod_int Try.underlying3 h0
  obtain ⟨b, e1, -, wb⟩ := DataW.trod_int Try.underlying3 h1
  obtain ⟨c, e2, -, wc⟩ := DataW.trod_int Try.underlying3 h2
  obtain ⟨e, e3, -, we⟩ := DataW.trod_int Try.underlying3 h3
  simp at e0 e1 e2 e3
  subst e0 e1 e2 e3
  exact ⟨a, b, c, e, rfl, I64.of_wf wa, I64.of_wf wb, I64.of_wf wc, I64.of_wf we⟩

set_option maxHeartbeats 1000000 in
theorem toThrust (h v m d : Int) (w : World) :
    Calls Try.prog 20 #[.agg #[.int .i64 h, .int .i64 v, .int .i64 m, .int .i64 d]] w fun e w' => e = .returned (.agg #[.int .i64 h, .int .i64 v, .int .i64 m, .int .i64 d]) ∧ Below w.heap.size w w' := by
  go_enter Try.func20, Try.ntmps20
  go_wp2_with fail
  refine bodyPost_ret (v := .agg #[.int .i64 h, .int .i64 v, .int .i64 m, .int .i64 d]) (by simp [results, Try.results20, go_sem]) rfl ⟨rfl, ?_⟩
  repeat (first | refine Below.setCell ?_ (by simp <;> omega) _ | refine Below.alloc ?_ (by simp <;> omega) _ | exact Below.refl _ _)


theorem okT_d {h v m d : Int} (hd : inR d 1 1000000 = false) : okT h v m d = false := by unfold okT; rw [hd]; rfl
theorem okT_h {h v m d : Int} (hh : inR h 0 1000000000000 = false) : okT h v m d = false := by unfold okT; rw [hh]; simp
theorem okT_v {h v m d : Int} (hv : inR v (-10000000000000) 10000000000000 = false) : okT h v m d = false := by unfold okT; rw [hv]; simp
theorem okT_m {h v m d : Int} (hm : inR m (-10000000000000) 10000000000000 = false) : okT h v m d = false := by unfold okT; rw [hm]; simp
theorem okT_yes {h v m d : Int} (hd : inR d 1 1000000 = true) (hh : inR h 0 1000000000000 = true) (hv : inR v (-10000000000000) 10000000000000 = true) (hm : inR m (-10000000000000) 10000000000000 = true) :
    okT h v m d = decide (((gcd4 h v m d : Nat) : Int) = 1) := by
  unfold okT; rw [hd, hh, hv, hm, Bool.eq_iff_iff]; simp <;> omega

theorem isBetween_den (n : Int) (w : World) : Calls Try.prog 37 #[.int .i64 n, .int .i64 1, .int .i64 1000000] w fun e w' => e = .returned (.bool (inR n 1 1000000)) ∧ w = w' := isBetweenR n 1 1000000 w (by omega)
theorem isBetween_force (n : Int) (w : World) : Calls Try.prog 37 #[.int .i64 n, .int .i64 0, .int .i64 1000000000000] w fun e w' => e = .returned (.bool (inR n 0 1000000000000)) ∧ w = w' := isBetweenR n _ _ w (by omega)
theorem isBetween_turn (n : Int) (w : World) : Calls Try.prog 37 #[.int .i64 n, .int .i64 (-10000000000000), .int .i64 10000000000000] w fun e w' => e = .returned (.bool (inR n (-10000000000000) 10000000000000)) ∧ w = w' := isBetweenR n _ _ w (by omega)

/-- isInLowestTerms of a thrust in range. -/
theorem isLowest (h v m d : Int) (w : World) (hh : h.natAbs ≤ 9223372036854775807) (hv : v.natAbs ≤ 9223372036854775807) (hm : m.natAbs ≤ 9223372036854775807) (hd : d.natAbs ≤ 9223372036854775807) :
    Calls Try.prog 105 #[.agg #[.int .i64 h, .int .i64 v, .int .i64 m, .int .i64 d]] w fun e w' => e = .returned (.bool (decide (((gcd4 h v m d : Nat) : Int) = 1))) ∧ Below w.heap.size w w' := by
  have hb0 := (Below.refl w.heap.size w).alloc (Nat.le_refl _) (.cells #[.int .i64 h, .int .i64 v, .int .i64 m, .int .i64 d] 31)
  have HB0 := Lib.hid hb0
  have HM := Lib.hid (And.intro hh (And.intro hv (And.intro hm hd)))
  clear hb0 hh hv hm hd
  go_enter Try.func105, Try.ntmps105
  go_wp2_with fail
  refine (implGcd [h, v, m, d] _ 4 _ _ rfl (by omega) ?_).mono ?_
  · obtain ⟨hh, hv, hm, hd⟩ := HM.out
    intro k hk
    match k, hk with
    | 0, _ => exact ⟨by go_simp, hh⟩
    | 1, _ => exact ⟨by go_simp, hv⟩
    | 2, _ => exact ⟨by go_simp, hm⟩
    | 3, _ => exact ⟨by go_simp, hd⟩
  · rintro e w1 ⟨rfl, hb1⟩
    rw [gTo_four]
    go_wp2_with fail
    go_ret
    exact ⟨rfl, (HB0.out.alloc HB0.out.size _).trans (hb1.mono (by simp <;> omega))⟩

theorem gcd_bd (a b : Int) (ha : a.natAbs ≤ 9223372036854775807) (hb : b.natAbs ≤ 9223372036854775807) : Nat.gcd a.natAbs b.natAbs ≤ 9223372036854775807 := by
  by_cases h0 : b.natAbs = 0
  · rw [h0, Nat.gcd_zero_right]; exact ha
  · exact Nat.le_trans (Nat.le_of_dvd (by omega) (Nat.gcd_dvd_right _ _)) hb
theorem inR_abs {n a b : Int} (h : inR n a b = true) (ha : -9223372036854775807 ≤ a) (hb : b ≤ 9223372036854775807) : n.natAbs ≤ 9223372036854775807 := by
  have := inR_iff.1 h
  omega

set_option maxHeartbeats 1000000 in
/-- isValid: the range, number by number, and the lowest terms. -/
theorem isValidT (h v m d : Int) (w : World) :
    Calls Try.prog 100 #[.agg #[.int .i64 h, .int .i64 v, .int .i64 m, .int .i64 d]] w fun e w' => e = .returned (.bool (okT h v m d)) ∧ Below w.heap.size w w' := by
  have hb0 := (Below.refl w.heap.size w).alloc (Nat.le_refl _) (.cells #[.int .i64 h, .int .i64 v, .int .i64 m, .int .i64 d] 31)
  have HB0 := Lib.hid hb0
  clear hb0
  cases hd : inR d 1 1000000
  · go_enter Try.func100, Try.ntmps100
    go_wp2_with fail
    refine (isBetween_den _ _).mono ?_
    rintro e w1 ⟨rfl, rfl⟩
    rw [hd]
    go_wp2_with fail
    go_ret
    exact ⟨ret_bool (okT_d hd).symm, HB0.out⟩
  cases hh : inR h 0 1000000000000
  · go_enter Try.func100, Try.ntmps100
    go_wp2_with fail
    refine (isBetween_den _ _).mono ?_
    rintro e w1 ⟨rfl, rfl⟩
    rw [hd]
    go_wp2_with fail
    refine (isBetween_force _ _).mono ?_
    rintro e w1 ⟨rfl, rfl⟩
    rw [hh]
    go_wp2_with fail
    go_ret
    exact ⟨ret_bool (okT_h hh).symm, HB0.out⟩
  cases hv : inR v (-10000000000000) 10000000000000
  · go_enter Try.func100, Try.ntmps100
    go_wp2_with fail
    refine (isBetween_den _ _).mono ?_
    rintro e w1 ⟨rfl, rfl⟩
    rw [hd]
    go_wp2_with fail
    refine (isBetween_force _ _).mono ?_
    rintro e w1 ⟨rfl, rfl⟩
    rw [hh]
    go_wp2_with fail
    refine (isBetween_turn _ _).mono ?_
    rintro e w1 ⟨rfl, rfl⟩
    rw [hv]
    go_wp2_with fail
    go_ret
    exact ⟨ret_bool (okT_v hv).symm, HB0.out⟩
  cases hm : inR m (-10000000000000) 10000000000000
  · go_enter Try.func100, Try.ntmps100
    go_wp2_with fail
    refine (isBetween_den _ _).mono ?_
    rintro e w1 ⟨rfl, rfl⟩
    rw [hd]
    go_wp2_with fail
    refine (isBetween_force _ _).mono ?_
    rintro e w1 ⟨rfl, rfl⟩
    rw [hh]
    go_wp2_with fail
    refine (isBetween_turn _ _).mono ?_
    rintro e w1 ⟨rfl, rfl⟩
    rw [hv]
    go_wp2_with fail
    refine (isBetween_turn _ _).mono ?_
    rintro e w1 ⟨rfl, rfl⟩
    rw [hm]
    go_wp2_with fail
    go_ret
    exact ⟨ret_bool (okT_m hm).symm, HB0.out⟩
  · have HV := Lib.hid (okT_yes hd hh hv hm)
    have HL := Lib.hid (fun w => isLowest h v m d w (inR_abs hh (by omega) (by omega)) (inR_abs hv (by omega) (by omega)) (inR_abs hm (by omega) (by omega)) (inR_abs hd (by omega) (by omega)))
    go_enter Try.func100, Try.ntmps100
    go_wp2_with fail
    refine (isBetween_den _ _).mono ?_
    rintro e w1 ⟨rfl, rfl⟩
    rw [hd]
    go_wp2_with fail
    refine (isBetween_force _ _).mono ?_
    rintro e w1 ⟨rfl, rfl⟩
    rw [hh]
    go_wp2_with fail
    refine (isBetween_turn _ _).mono ?_
    rintro e w1 ⟨rfl, rfl⟩
    rw [hv]
    go_wp2_with fail
    refine (isBetween_turn _ _).mono ?_
    rintro e w1 ⟨rfl, rfl⟩
    rw [hm]
    go_wp2_with fail
    refine (HL.out _).mono ?_
    rintro e w1 ⟨rfl, hb1⟩
    go_wp2_with fail
    go_ret
    exact ⟨ret_bool HV.out.symm, HB0.out.trans (hb1.mono HB0.out.size)⟩


theorem l01In_den (n : Int) (w : World) : Calls Try.prog 73 #[.int .i64 n, .int .i64 1, .int .i64 1000000] w fun e w' => e = .returned (.bool (inR n 1 1000000)) ∧ w = w' := l01InR n _ _ w
theorem l01In_force (n : Int) (w : World) : Calls Try.prog 73 #[.int .i64 n, .int .i64 0, .int .i64 1000000000000] w fun e w' => e = .returned (.bool (inR n 0 1000000000000)) ∧ w = w' := l01InR n _ _ w
theorem l01In_turn (n : Int) (w : World) : Calls Try.prog 73 #[.int .i64 n, .int .i64 (-10000000000000), .int .i64 10000000000000] w fun e w' => e = .returned (.bool (inR n (-10000000000000) 10000000000000)) ∧ w = w' := l01InR n _ _ w

set_option maxHeartbeats 1000000 in
theorem specThrustOk (h v m d : Int) (w : World) :
    Calls Try.prog 56 #[.agg #[.int .i64 h, .int .i64 v, .int .i64 m, .int .i64 d]] w fun e w' => e = .returned (.bool (okT h v m d)) ∧ Below w.heap.size w w' := by
  have hb0 := (Below.refl w.heap.size w).alloc (Nat.le_refl _) (.cells #[.int .i64 h, .int .i64 v, .int .i64 m, .int .i64 d] 31)
  have HB0 := Lib.hid hb0
  clear hb0
  cases hd : inR d 1 1000000
  · go_enter Try.func56, Try.ntmps56
    go_wp2_with fail
    refine (l01In_den _ _).mono ?_
    rintro e w1 ⟨rfl, rfl⟩
    rw [hd]
    go_wp2_with fail
    go_ret
    exact ⟨ret_bool (okT_d hd).symm, HB0.out⟩
  cases hh : inR h 0 1000000000000
  · go_enter Try.func56, Try.ntmps56
    go_wp2_with fail
    refine (l01In_den _ _).mono ?_
    rintro e w1 ⟨rfl, rfl⟩
    rw [hd]
    go_wp2_with fail
    refine (l01In_force _ _).mono ?_
    rintro e w1 ⟨rfl, rfl⟩
    rw [hh]
    go_wp2_with fail
    go_ret
    exact ⟨ret_bool (okT_h hh).symm, HB0.out⟩
  cases hv : inR v (-10000000000000) 10000000000000
  · go_enter Try.func56, Try.ntmps56
    go_wp2_with fail
    refine (l01In_den _ _).mono ?_
    rintro e w1 ⟨rfl, rfl⟩
    rw [hd]
    go_wp2_with fail
    refine (l01In_force _ _).mono ?_
    rintro e w1 ⟨rfl, rfl⟩
    rw [hh]
    go_wp2_with fail
    refine (l01In_turn _ _).mono ?_
    rintro e w1 ⟨rfl, rfl⟩
    rw [hv]
    go_wp2_with fail
    go_ret
    exact ⟨ret_bool (okT_v hv).symm, HB0.out⟩
  cases hm : inR m (-10000000000000) 10000000000000
  · go_enter Try.func56, Try.ntmps56
    go_wp2_with fail
    refine (l01In_den _ _).mono ?_
    rintro e w1 ⟨rfl, rfl⟩
    rw [hd]
    go_wp2_with fail
    refine (l01In_force _ _).mono ?_
    rintro e w1 ⟨rfl, rfl⟩
    rw [hh]
    go_wp2_with fail
    refine (l01In_turn _ _).mono ?_
    rintro e w1 ⟨rfl, rfl⟩
    rw [hv]
    go_wp2_with fail
    refine (l01In_turn _ _).mono ?_
    rintro e w1 ⟨rfl, rfl⟩
    rw [hm]
    go_wp2_with fail
    go_ret
    exact ⟨ret_bool (okT_m hm).symm, HB0.out⟩
  · have HV := Lib.hid (okT_yes hd hh hv hm)
    obtain ⟨a, ha, HA⟩ : ∃ a : Int, a.natAbs ≤ 9223372036854775807 ∧ RowKit.Hid (a.natAbs = Nat.gcd h.natAbs v.natAbs ∧ ∀ w, Calls Try.prog 65 #[.int .i64 h, .int .i64 v] w fun e w' => e = .returned (.int .i64 a) ∧ Below w.heap.size w w') :=
      ⟨_, (by have := gcd_bd h v (inR_abs hh (by omega) (by omega)) (inR_abs hv (by omega) (by omega)); omega), Lib.hid ⟨by omega, fun w => specGcd h v w (inR_abs hh (by omega) (by omega)) (inR_abs hv (by omega) (by omega))⟩⟩
    obtain ⟨b, hb, HB⟩ : ∃ a : Int, a.natAbs ≤ 9223372036854775807 ∧ RowKit.Hid (a.natAbs = Nat.gcd m.natAbs d.natAbs ∧ ∀ w, Calls Try.prog 65 #[.int .i64 m, .int .i64 d] w fun e w' => e = .returned (.int .i64 a) ∧ Below w.heap.size w w') :=
      ⟨_, (by have := gcd_bd m d (inR_abs hm (by omega) (by omega)) (inR_abs hd (by omega) (by omega)); omega), Lib.hid ⟨by omega, fun w => specGcd m d w (inR_abs hm (by omega) (by omega)) (inR_abs hd (by omega) (by omega))⟩⟩
    obtain ⟨c, hc, HC⟩ : ∃ c : Int, RowKit.Hid (c = ((gcd4 h v m d : Nat) : Int)) ∧ RowKit.Hid (∀ w, Calls Try.prog 65 #[.int .i64 a, .int .i64 b] w fun e w' => e = .returned (.int .i64 c) ∧ Below w.heap.size w w') :=
      ⟨_, Lib.hid (by rw [HA.out.1, HB.out.1]; rfl), Lib.hid (fun w => specGcd a b w ha hb)⟩
    clear ha hb
    go_enter Try.func56, Try.ntmps56
    go_wp2_with fail
    refine (l01In_den _ _).mono ?_
    rintro e w1 ⟨rfl, rfl⟩
    rw [hd]
    go_wp2_with fail
    refine (l01In_force _ _).mono ?_
    rintro e w1 ⟨rfl, rfl⟩
    rw [hh]
    go_wp2_with fail
    refine (l01In_turn _ _).mono ?_
    rintro e w1 ⟨rfl, rfl⟩
    rw [hv]
    go_wp2_with fail
    refine (l01In_turn _ _).mono ?_
    rintro e w1 ⟨rfl, rfl⟩
    rw [hm]
    clear hd hh hv hm
    go_wp2_with fail
    generalize hW : w.alloc (.cells #[.int .i64 h, .int .i64 v, .int .i64 m, .int .i64 d] 31) = W at *
    have hn1 := Since.nonempty W
    have hw1 : w.heap.size < W.heap.size := by subst hW; simp
    have s0 := fun (x : Since W) => (x.cell w.heap.size 0 hw1).trans (show _ = some (.int .i64 h) by subst hW; go_simp)
    have s1 := fun (x : Since W) => (x.cell w.heap.size 1 hw1).trans (show _ = some (.int .i64 v) by subst hW; go_simp)
    have s2 := fun (x : Since W) => (x.cell w.heap.size 2 hw1).trans (show _ = some (.int .i64 m) by subst hW; go_simp)
    have s3 := fun (x : Since W) => (x.cell w.heap.size 3 hw1).trans (show _ = some (.int .i64 d) by subst hW; go_simp)
    clear hW
    refine wp_region_since (by kernel_rfl) (by kernel_rfl) ?_
    repeat (go_big_quiet_step (first
      | (go_at_call_of 65 (Value.int .i64 h); exact Since.call (HA.out.2 _))
      | (go_at_call_of 65 (Value.int .i64 m); exact Since.call (HB.out.2 _))
      | (go_at_call_of 65 (Value.int .i64 a); exact Since.call (HC.out _))))
    refine wpQuiet_nil ?_
    rintro w2 ⟨⟨_, hb2⟩, rfl⟩
    go_wp2_with fail
    go_ret
    exact ⟨ret_bool (by rw [HV.out, ← hc.out]; rfl), HB0.out.trans (hb2.mono HB0.out.size)⟩
end Go.Proofs.Ytbmlcfdilopmgaa

/- The program's functions on thrusts: isMixable, MakeThrust, CompareThrusts, MixThrusts. -/
namespace Go.Proofs.Ytbmlcfdilopmgaa
set_option maxRecDepth 100000
open Go.ChangeShapes Go.WideShapes Go.ChangeAt Go.RowKit

/-- What isMixable answers. -/
def mixT (h v m d : Int) : Bool := okT h v m d && decide (d ≤ 1000)


theorem isBetween_given (n : Int) (w : World) : Calls Try.prog 37 #[.int .i64 n, .int .i64 (-4000000000000000000), .int .i64 4000000000000000000] w fun e w' => e = .returned (.bool (inF n)) ∧ w = w' := isBetweenR n _ _ w (by omega)

/-- The four given numbers, by number. -/
def four (h v m d : Int) : List Int := [h, v, m, d]
theorem inF_all {h v m d : Int} (hk : ∀ j, j < 4 → inF ((four h v m d).getD j 0) = true) : mkIn h v m d = true := by
  have h0 := hk 0 (by omega)
  have h1 := hk 1 (by omega)
  have h2 := hk 2 (by omega)
  have h3 := hk 3 (by omega)
  simp [four] at h0 h1 h2 h3
  unfold mkIn; rw [h0, h1, h2, h3]; rfl
theorem inF_not {h v m d : Int} {j : Nat} (hj : j < 4) (hk : inF ((four h v m d).getD j 0) = false) : mkIn h v m d = false := by
  unfold mkIn
  match j, hj with
  | 0, _ => simp [four] at hk; rw [hk]; rfl
  | 1, _ => simp [four] at hk; rw [hk]; simp
  | 2, _ => simp [four] at hk; rw [hk]; simp
  | 3, _ => simp [four] at hk; rw [hk]; simp
theorem mkB_zero {h v m : Int} : mkB h v m 0 = false := rfl
theorem mkB_out {h v m d : Int} (hi : mkIn h v m d = false) : mkB h v m d = false := by unfold mkB; rw [hi]; simp
theorem mkB_in {h v m d : Int} (hd : d ≠ 0) (hi : mkIn h v m d = true) : mkB h v m d = okT (h.tdiv (sgn h v m d)) (v.tdiv (sgn h v m d)) (m.tdiv (sgn h v m d)) (d.tdiv (sgn h v m d)) := by
  unfold mkB; rw [hi, decide_eq_false hd]; rfl
theorem inF_abs {n : Int} (h : inF n = true) : n.natAbs ≤ 4000000000000000000 := by
  have := inR_iff.1 h
  omega

/-- What MakeThrust answers, as a value. -/
def mkV (h v m d : Int) : Value := .tuple #[.agg #[.int .i64 (mkN h h v m d), .int .i64 (mkN v h v m d), .int .i64 (mkN m h v m d), .int .i64 (mkN d h v m d)], .bool (mkB h v m d)]
theorem mkV_no {h v m d : Int} (hb : mkB h v m d = false) : mkV h v m d = .tuple #[.agg #[.int .i64 0, .int .i64 0, .int .i64 0, .int .i64 0], .bool false] := by
  unfold mkV; rw [mkN_no hb, mkN_no hb, mkN_no hb, mkN_no hb, hb]
theorem mkV_yes {h v m d a b c e s : Int} (hb : mkB h v m d = true) (hs : sgn h v m d = s) (ha : h.tdiv s = a) (hb' : v.tdiv s = b) (hc : m.tdiv s = c) (he : d.tdiv s = e) : mkV h v m d = .tuple #[.agg #[.int .i64 a, .int .i64 b, .int .i64 c, .int .i64 e], .bool true] := by
  unfold mkV; rw [mkN_yes hb, mkN_yes hb, mkN_yes hb, mkN_yes hb, hb, hs, ha, hb', hc, he]


theorem cmp_prod {h v m d h' v' m' d' : Int} (ha : okT h v m d = true) (hb : okT h' v' m' d' = true) : -1000000000000000000 ≤ h * d' ∧ h * d' ≤ 1000000000000000000 := by
  have a := okT_iff.1 ha
  have b := okT_iff.1 hb
  have := mulT_bd (x := h) (y := d') 1000000000000 1000000 (by omega) (by omega)
  omega
theorem mixT_yes {h v m d : Int} (ht : mixT h v m d = true) : okT h v m d = true ∧ d ≤ 1000 := by
  unfold mixT at ht; simp at ht; exact ht
theorem mixT_both {ah av am ad bh bv bm bd : Int} (ha : mixT ah av am ad = true) (hb : mixT bh bv bm bd = true) : mxOk ah av am ad bh bv bm bd = true := by
  unfold mxOk; rw [show (okT ah av am ad && decide (ad ≤ 1000)) = true from ha, show (okT bh bv bm bd && decide (bd ≤ 1000)) = true from hb]; rfl
theorem mixT_a {ah av am ad bh bv bm bd : Int} (ha : mixT ah av am ad = false) : mxOk ah av am ad bh bv bm bd = false := by
  unfold mxOk; rw [show (okT ah av am ad && decide (ad ≤ 1000)) = false from ha]; rfl
theorem mixT_b {ah av am ad bh bv bm bd : Int} (hb : mixT bh bv bm bd = false) : mxOk ah av am ad bh bv bm bd = false := by
  unfold mxOk; rw [show (okT bh bv bm bd && decide (bd ≤ 1000)) = false from hb]; simp
/-- What MixThrusts answers, as a value. -/
def mxV (ah av am ad bh bv bm bd : Int) : Value := if mxOk ah av am ad bh bv bm bd then mkV (mxH ah ad bh bd) (mxH av ad bv bd) (mxH am ad bm bd) (mxD ad bd) else .tuple #[.agg #[.int .i64 0, .int .i64 0, .int .i64 0, .int .i64 0], .bool false]
theorem mxV_no {ah av am ad bh bv bm bd : Int} (h : mxOk ah av am ad bh bv bm bd = false) : mxV ah av am ad bh bv bm bd = .tuple #[.agg #[.int .i64 0, .int .i64 0, .int .i64 0, .int .i64 0], .bool false] := by unfold mxV; rw [h]; rfl
theorem mxV_yes {ah av am ad bh bv bm bd : Int} (h : mxOk ah av am ad bh bv bm bd = true) : mxV ah av am ad bh bv bm bd = mkV (mxH ah ad bh bd) (mxH av ad bv bd) (mxH am ad bm bd) (mxD ad bd) := by unfold mxV; rw [h]; rfl
theorem mkV_any (h v m d : Int) : ∃ (a b c e : Int) (t : Bool), mkV h v m d = .tuple #[.agg #[.int .i64 a, .int .i64 b, .int .i64 c, .int .i64 e], .bool t] := ⟨_, _, _, _, _, rfl⟩
theorem mxV_any (ah av am ad bh bv bm bd : Int) : ∃ (a b c e : Int) (t : Bool), mxV ah av am ad bh bv bm bd = .tuple #[.agg #[.int .i64 a, .int .i64 b, .int .i64 c, .int .i64 e], .bool t] := by
  cases h : mxOk ah av am ad bh bv bm bd
  · exact ⟨_, _, _, _, _, mxV_no h⟩
  · exact ⟨_, _, _, _, _, mxV_yes h⟩
/-- Two products of a mixture and their sum. -/
theorem mix_prod {x y p q : Int} (hx : -10000000000000 ≤ x ∧ x ≤ 10000000000000) (hy : -10000000000000 ≤ y ∧ y ≤ 10000000000000) (hp : 1 ≤ p ∧ p ≤ 1000) (hq : 1 ≤ q ∧ q ≤ 1000) :
    (-10000000000000000 ≤ x * q ∧ x * q ≤ 10000000000000000) ∧ (-10000000000000000 ≤ y * p ∧ y * p ≤ 10000000000000000) := by
  have := mulT_bd (x := x) (y := q) 10000000000000 1000 (by omega) (by omega)
  have := mulT_bd (x := y) (y := p) 10000000000000 1000 (by omega) (by omega)
  omega


end Go.Proofs.Ytbmlcfdilopmgaa

/- The model's functions on thrusts: MakeThrust, CompareThrusts, MixThrusts. -/
namespace Go.Proofs.Ytbmlcfdilopmgaa
set_option maxRecDepth 100000
open Go.ChangeShapes Go.WideShapes Go.ChangeAt Go.RowKit

theorem mkIn_1 {h v m d : Int} (hi : inF h = false) : mkIn h v m d = false := by unfold mkIn; rw [hi]; rfl
theorem mkIn_2 {h v m d : Int} (hi : inF v = false) : mkIn h v m d = false := by unfold mkIn; rw [hi]; simp
theorem mkIn_3 {h v m d : Int} (hi : inF m = false) : mkIn h v m d = false := by unfold mkIn; rw [hi]; simp
theorem mkIn_4 {h v m d : Int} (hi : inF d = false) : mkIn h v m d = false := by unfold mkIn; rw [hi]; simp
theorem mkIn_yes {h v m d : Int} (h0 : inF h = true) (h1 : inF v = true) (h2 : inF m = true) (h3 : inF d = true) : mkIn h v m d = true := by unfold mkIn; rw [h0, h1, h2, h3]; rfl
theorem l01In_given (n : Int) (w : World) : Calls Try.prog 73 #[.int .i64 n, .int .i64 (-4000000000000000000), .int .i64 4000000000000000000] w fun e w' => e = .returned (.bool (inF n)) ∧ w = w' := l01InR n _ _ w

set_option maxHeartbeats 2000000 in
theorem specMake (h v m d : Int) (w : World) :
    Calls Try.prog 57 #[.int .i64 h, .int .i64 v, .int .i64 m, .int .i64 d] w fun e w' => e = .returned (mkV h v m d) ∧ Below w.heap.size w w' := by
  have hb0 := (Below.refl w.heap.size w).alloc (Nat.le_refl _) (.cells #[.int .i64 0, .int .i64 0, .int .i64 0, .int .i64 0] 31)
  have HB0 := Lib.hid hb0
  clear hb0
  by_cases hd0 : d = 0
  · subst hd0
    have HV := Lib.hid (mkV_no (mkB_zero (h := h) (v := v) (m := m)))
    go_enter Try.func57, Try.ntmps57
    go_wp2_with fail
    refine bodyPost_ret (v := .tuple #[.agg #[.int .i64 0, .int .i64 0, .int .i64 0, .int .i64 0], .bool false]) (by simp [results, Try.results57, go_sem]) rfl ⟨by rw [HV.out], HB0.out⟩
  have hd1 : (d == 0) = false := by simpa using hd0
  have HD := Lib.hid hd0
  clear hd0
  cases h1 : inF h
  · have HV := Lib.hid (mkV_no (mkB_out (mkIn_1 (h := h) (v := v) (m := m) (d := d) h1)))
    go_enter Try.func57, Try.ntmps57
    go_wp2_with fail
    refine (l01In_given _ _).mono ?_
    rintro e w1 ⟨rfl, rfl⟩
    rw [h1]
    go_wp2_with fail
    refine bodyPost_ret (v := .tuple #[.agg #[.int .i64 0, .int .i64 0, .int .i64 0, .int .i64 0], .bool false]) (by simp [results, Try.results57, go_sem]) rfl ⟨by rw [HV.out], HB0.out⟩
  cases h2 : inF v
  · have HV := Lib.hid (mkV_no (mkB_out (mkIn_2 (h := h) (v := v) (m := m) (d := d) h2)))
    go_enter Try.func57, Try.ntmps57
    go_wp2_with fail
    refine (l01In_given _ _).mono ?_
    rintro e w1 ⟨rfl, rfl⟩
    rw [h1]
    go_wp2_with fail
    refine (l01In_given _ _).mono ?_
    rintro e w1 ⟨rfl, rfl⟩
    rw [h2]
    go_wp2_with fail
    refine bodyPost_ret (v := .tuple #[.agg #[.int .i64 0, .int .i64 0, .int .i64 0, .int .i64 0], .bool false]) (by simp [results, Try.results57, go_sem]) rfl ⟨by rw [HV.out], HB0.out⟩
  cases h3 : inF m
  · have HV := Lib.hid (mkV_no (mkB_out (mkIn_3 (h := h) (v := v) (m := m) (d := d) h3)))
    go_enter Try.func57, Try.ntmps57
    go_wp2_with fail
    refine (l01In_given _ _).mono ?_
    rintro e w1 ⟨rfl, rfl⟩
    rw [h1]
    go_wp2_with fail
    refine (l01In_given _ _).mono ?_
    rintro e w1 ⟨rfl, rfl⟩
    rw [h2]
    go_wp2_with fail
    refine (l01In_given _ _).mono ?_
    rintro e w1 ⟨rfl, rfl⟩
    rw [h3]
    go_wp2_with fail
    refine bodyPost_ret (v := .tuple #[.agg #[.int .i64 0, .int .i64 0, .int .i64 0, .int .i64 0], .bool false]) (by simp [results, Try.results57, go_sem]) rfl ⟨by rw [HV.out], HB0.out⟩
  cases h4 : inF d
  · have HV := Lib.hid (mkV_no (mkB_out (mkIn_4 (h := h) (v := v) (m := m) (d := d) h4)))
    go_enter Try.func57, Try.ntmps57
    go_wp2_with fail
    refine (l01In_given _ _).mono ?_
    rintro e w1 ⟨rfl, rfl⟩
    rw [h1]
    go_wp2_with fail
    refine (l01In_given _ _).mono ?_
    rintro e w1 ⟨rfl, rfl⟩
    rw [h2]
    go_wp2_with fail
    refine (l01In_given _ _).mono ?_
    rintro e w1 ⟨rfl, rfl⟩
    rw [h3]
    go_wp2_with fail
    refine (l01In_given _ _).mono ?_
    rintro e w1 ⟨rfl, rfl⟩
    rw [h4]
    go_wp2_with fail
    refine bodyPost_ret (v := .tuple #[.agg #[.int .i64 0, .int .i64 0, .int .i64 0, .int .i64 0], .bool false]) (by simp [results, Try.results57, go_sem]) rfl ⟨by rw [HV.out], HB0.out⟩
  · have hd0 := HD.out
    have HM := Lib.hid (mkB_in hd0 (mkIn_yes h1 h2 h3 h4))
    have hg : gcd4 h v m d ≤ 4000000000000000000 := Nat.le_trans (gcd4_le hd0) (inF_abs h4)
    have q0 := inF_abs h1
    have q1 := inF_abs h2
    have q2 := inF_abs h3
    have q3 := inF_abs h4
    have ta := tdiv_bd h (sgn h v m d) h1
    have tb := tdiv_bd v (sgn h v m d) h2
    have tc := tdiv_bd m (sgn h v m d) h3
    have te := tdiv_bd d (sgn h v m d) h4
    have hs0 : ¬ sgn h v m d = 0 := sgn_ne hd0
    have HS : RowKit.Hid (sgn h v m d = if d < 0 then -((gcd4 h v m d : Nat) : Int) else ((gcd4 h v m d : Nat) : Int)) := Lib.hid rfl
    obtain ⟨s, hs⟩ : ∃ s, sgn h v m d = s := ⟨_, rfl⟩
    rw [hs] at ta tb tc te hs0 HS HM
    have HSS := Lib.hid hs
    obtain ⟨a, ha⟩ : ∃ a, h.tdiv s = a := ⟨_, rfl⟩
    obtain ⟨b, hb⟩ : ∃ a, v.tdiv s = a := ⟨_, rfl⟩
    obtain ⟨c, hc⟩ : ∃ a, m.tdiv s = a := ⟨_, rfl⟩
    obtain ⟨f, hf⟩ : ∃ a, d.tdiv s = a := ⟨_, rfl⟩
    rw [ha, hb, hc, hf] at HM
    rw [ha] at ta
    rw [hb] at tb
    rw [hc] at tc
    rw [hf] at te
    have wa : IntKind.i64.wrap a = a := IntWalk.i64_in _ (by omega)
    have wb : IntKind.i64.wrap b = b := IntWalk.i64_in _ (by omega)
    have wc : IntKind.i64.wrap c = c := IntWalk.i64_in _ (by omega)
    have wf : IntKind.i64.wrap f = f := IntWalk.i64_in _ (by omega)
    have HAA := Lib.hid (And.intro ha (And.intro hb (And.intro hc hf)))
    obtain ⟨x, hx, HA⟩ : ∃ a : Int, a.natAbs ≤ 9223372036854775807 ∧ RowKit.Hid (a.natAbs = Nat.gcd h.natAbs v.natAbs ∧ ∀ w, Calls Try.prog 65 #[.int .i64 h, .int .i64 v] w fun e w' => e = .returned (.int .i64 a) ∧ Below w.heap.size w w') :=
      ⟨_, (by have := gcd_bd h v (by omega) (by omega); omega), Lib.hid ⟨by omega, fun w => specGcd h v w (by omega) (by omega)⟩⟩
    obtain ⟨y, hy, HB⟩ : ∃ a : Int, a.natAbs ≤ 9223372036854775807 ∧ RowKit.Hid (a.natAbs = Nat.gcd m.natAbs d.natAbs ∧ ∀ w, Calls Try.prog 65 #[.int .i64 m, .int .i64 d] w fun e w' => e = .returned (.int .i64 a) ∧ Below w.heap.size w w') :=
      ⟨_, (by have := gcd_bd m d (by omega) (by omega); omega), Lib.hid ⟨by omega, fun w => specGcd m d w (by omega) (by omega)⟩⟩
    have HC : RowKit.Hid (∀ w, Calls Try.prog 65 #[.int .i64 x, .int .i64 y] w fun e w' => e = .returned (.int .i64 ((gcd4 h v m d : Nat) : Int)) ∧ Below w.heap.size w w') :=
      Lib.hid (fun w => by
        have hh := specGcd x y w hx hy
        rw [HA.out.1, HB.out.1] at hh
        exact hh)
    clear ta tb tc te q0 q1 q2 q3 hs hd0 hx hy
    generalize gcd4 h v m d = g at *
    go_enter Try.func57, Try.ntmps57
    go_wp2_with fail
    refine (l01In_given _ _).mono ?_
    rintro e w1 ⟨rfl, rfl⟩
    rw [h1]
    go_wp2_with fail
    refine (l01In_given _ _).mono ?_
    rintro e w1 ⟨rfl, rfl⟩
    rw [h2]
    go_wp2_with fail
    refine (l01In_given _ _).mono ?_
    rintro e w1 ⟨rfl, rfl⟩
    rw [h3]
    go_wp2_with fail
    refine (l01In_given _ _).mono ?_
    rintro e w1 ⟨rfl, rfl⟩
    rw [h4]
    go_wp2_with fail
    clear h1 h2 h3 h4
    refine (HA.out.2 _).mono ?_
    rintro e wa1 ⟨rfl, ka1⟩
    go_wp2_with fail
    refine (HB.out.2 _).mono ?_
    rintro e wa2 ⟨rfl, ka2⟩
    have ka12 := ka1.trans (ka2.mono ka1.size)
    clear ka1 ka2
    go_wp2_with fail
    refine (HC.out _).mono ?_
    rintro e w1 ⟨rfl, ka3⟩
    have hb1 := ka12.trans (ka3.mono ka12.size)
    clear ka12 ka3
    have HB1 := Lib.hid (HB0.out.trans (hb1.mono HB0.out.size))
    have c0' : w1.cell? ⟨w.heap.size, 0, none⟩ = some (.int .i64 0) := tcell (by go_simp) hb1
    have c1' : w1.cell? ⟨w.heap.size, 1, none⟩ = some (.int .i64 0) := tcell (by go_simp) hb1
    have c2' : w1.cell? ⟨w.heap.size, 2, none⟩ = some (.int .i64 0) := tcell (by go_simp) hb1
    have c3' : w1.cell? ⟨w.heap.size, 3, none⟩ = some (.int .i64 0) := tcell (by go_simp) hb1
    have fz : ∀ o, w1.frozen? ⟨w.heap.size, o, none⟩ = false := fun o => ((hb1.frozen (p := ⟨w.heap.size, o, none⟩) (by simp <;> omega)).trans (by go_simp))
    clear hb1 HA HB HC
    by_cases hneg : d < 0
    · have hsn : IntKind.i64.wrap (-(g : Int)) = s := by rw [HS.out, if_pos hneg]; exact IntWalk.i64_in _ (by omega)
      clear HS
      go_wp2_with fail
      go_region
      have HBZ := Lib.hid (HB1.out.alloc HB1.out.size (.cells #[.int .i64 a, .int .i64 b, .int .i64 c, .int .i64 f] 31))
      go_wp2_with fail
      refine (specThrustOk _ _ _ _ _).mono ?_
      rintro e w2 ⟨rfl, hb2⟩
      have c0 : w2.cell? ⟨w.heap.size, 0, none⟩ = some (.int .i64 0) := tcellD (tcell c0' ((Below.refl _ _).alloc (Nat.le_refl _) _)) hb2
      have c1 : w2.cell? ⟨w.heap.size, 1, none⟩ = some (.int .i64 0) := tcellD (tcell c1' ((Below.refl _ _).alloc (Nat.le_refl _) _)) hb2
      have c2 : w2.cell? ⟨w.heap.size, 2, none⟩ = some (.int .i64 0) := tcellD (tcell c2' ((Below.refl _ _).alloc (Nat.le_refl _) _)) hb2
      have c3 : w2.cell? ⟨w.heap.size, 3, none⟩ = some (.int .i64 0) := tcellD (tcell c3' ((Below.refl _ _).alloc (Nat.le_refl _) _)) hb2
      have e0 : w2.cell? ⟨w1.heap.size, 0, none⟩ = some (.int .i64 a) := tcellD (by go_simp) hb2
      have e1 : w2.cell? ⟨w1.heap.size, 1, none⟩ = some (.int .i64 b) := tcellD (by go_simp) hb2
      have e2 : w2.cell? ⟨w1.heap.size, 2, none⟩ = some (.int .i64 c) := tcellD (by go_simp) hb2
      have e3 : w2.cell? ⟨w1.heap.size, 3, none⟩ = some (.int .i64 f) := tcellD (by go_simp) hb2
      have fz2 : ∀ o, w2.frozen? ⟨w.heap.size, o, none⟩ = false := fun o => (hb2.frozen (p := ⟨w.heap.size, o, none⟩) (show w.heap.size < (w1.alloc _).heap.size by have := cell_block_lt c0'; simp; simp at this; omega)).trans ((((Below.refl w1.heap.size w1).alloc (Nat.le_refl _) _).frozen (p := ⟨w.heap.size, o, none⟩) (show w.heap.size < w1.heap.size from cell_block_lt c0')).trans (fz o))
      have HB2 := Lib.hid ((tbelowD HBZ.out).trans (hb2.mono (tbelowD HBZ.out).size))
      clear hb2 fz c0' c1' c2' c3'
      cases hok : okT a b c f
      · have HV := Lib.hid (mkV_no (HM.out.trans hok))
        go_wp2_with fail
        refine World.any (p := fun W => bodyPost _ _ _ _ _ W) (fun Z hW => ?_)
        have z0 : Z.cell? ⟨w.heap.size, 0, none⟩ = some (.int .i64 0) := by subst hW; go_simp
        have z1 : Z.cell? ⟨w.heap.size, 1, none⟩ = some (.int .i64 0) := by subst hW; go_simp
        have z2 : Z.cell? ⟨w.heap.size, 2, none⟩ = some (.int .i64 0) := by subst hW; go_simp
        have z3 : Z.cell? ⟨w.heap.size, 3, none⟩ = some (.int .i64 0) := by subst hW; go_simp
        have HBW : Below w.heap.size w Z := by
          subst hW
          repeat refine Below.setCell ?_ (by simp) _
          exact HB2.out
        refine bodyPost_ret (v := .tuple #[.agg #[.int .i64 0, .int .i64 0, .int .i64 0, .int .i64 0], .bool false]) (by simp [results, Try.results57, go_sem, z0, z1, z2, z3]) rfl ⟨by rw [HV.out], HBW⟩
      · have HV := Lib.hid (mkV_yes (HM.out.trans hok) HSS.out HAA.out.1 HAA.out.2.1 HAA.out.2.2.1 HAA.out.2.2.2)
        go_wp2_with fail
        refine World.any (p := fun W => bodyPost _ _ _ _ _ W) (fun Z hW => ?_)
        have z0 : Z.cell? ⟨w.heap.size, 0, none⟩ = some (.int .i64 a) := by subst hW; go_simp
        have z1 : Z.cell? ⟨w.heap.size, 1, none⟩ = some (.int .i64 b) := by subst hW; go_simp
        have z2 : Z.cell? ⟨w.heap.size, 2, none⟩ = some (.int .i64 c) := by subst hW; go_simp
        have z3 : Z.cell? ⟨w.heap.size, 3, none⟩ = some (.int .i64 f) := by subst hW; go_simp
        have HBW : Below w.heap.size w Z := by
          subst hW
          repeat refine Below.setCell ?_ (by simp) _
          exact HB2.out
        refine bodyPost_ret (v := .tuple #[.agg #[.int .i64 a, .int .i64 b, .int .i64 c, .int .i64 f], .bool true]) (by simp [results, Try.results57, go_sem, z0, z1, z2, z3]) rfl ⟨by rw [HV.out], HBW⟩
    · have hsn : (g : Int) = s := by rw [HS.out, if_neg hneg]
      rw [hsn]
      clear HS
      go_wp2_with fail
      go_region
      have HBZ := Lib.hid (HB1.out.alloc HB1.out.size (.cells #[.int .i64 a, .int .i64 b, .int .i64 c, .int .i64 f] 31))
      go_wp2_with fail
      refine (specThrustOk _ _ _ _ _).mono ?_
      rintro e w2 ⟨rfl, hb2⟩
      have c0 : w2.cell? ⟨w.heap.size, 0, none⟩ = some (.int .i64 0) := tcellD (tcell c0' ((Below.refl _ _).alloc (Nat.le_refl _) _)) hb2
      have c1 : w2.cell? ⟨w.heap.size, 1, none⟩ = some (.int .i64 0) := tcellD (tcell c1' ((Below.refl _ _).alloc (Nat.le_refl _) _)) hb2
      have c2 : w2.cell? ⟨w.heap.size, 2, none⟩ = some (.int .i64 0) := tcellD (tcell c2' ((Below.refl _ _).alloc (Nat.le_refl _) _)) hb2
      have c3 : w2.cell? ⟨w.heap.size, 3, none⟩ = some (.int .i64 0) := tcellD (tcell c3' ((Below.refl _ _).alloc (Nat.le_refl _) _)) hb2
      have e0 : w2.cell? ⟨w1.heap.size, 0, none⟩ = some (.int .i64 a) := tcellD (by go_simp) hb2
      have e1 : w2.cell? ⟨w1.heap.size, 1, none⟩ = some (.int .i64 b) := tcellD (by go_simp) hb2
      have e2 : w2.cell? ⟨w1.heap.size, 2, none⟩ = some (.int .i64 c) := tcellD (by go_simp) hb2
      have e3 : w2.cell? ⟨w1.heap.size, 3, none⟩ = some (.int .i64 f) := tcellD (by go_simp) hb2
      have fz2 : ∀ o, w2.frozen? ⟨w.heap.size, o, none⟩ = false := fun o => (hb2.frozen (p := ⟨w.heap.size, o, none⟩) (show w.heap.size < (w1.alloc _).heap.size by have := cell_block_lt c0'; simp; simp at this; omega)).trans ((((Below.refl w1.heap.size w1).alloc (Nat.le_refl _) _).frozen (p := ⟨w.heap.size, o, none⟩) (show w.heap.size < w1.heap.size from cell_block_lt c0')).trans (fz o))
      have HB2 := Lib.hid ((tbelowD HBZ.out).trans (hb2.mono (tbelowD HBZ.out).size))
      clear hb2 fz c0' c1' c2' c3'
      cases hok : okT a b c f
      · have HV := Lib.hid (mkV_no (HM.out.trans hok))
        go_wp2_with fail
        refine World.any (p := fun W => bodyPost _ _ _ _ _ W) (fun Z hW => ?_)
        have z0 : Z.cell? ⟨w.heap.size, 0, none⟩ = some (.int .i64 0) := by subst hW; go_simp
        have z1 : Z.cell? ⟨w.heap.size, 1, none⟩ = some (.int .i64 0) := by subst hW; go_simp
        have z2 : Z.cell? ⟨w.heap.size, 2, none⟩ = some (.int .i64 0) := by subst hW; go_simp
        have z3 : Z.cell? ⟨w.heap.size, 3, none⟩ = some (.int .i64 0) := by subst hW; go_simp
        have HBW : Below w.heap.size w Z := by
          subst hW
          repeat refine Below.setCell ?_ (by simp) _
          exact HB2.out
        refine bodyPost_ret (v := .tuple #[.agg #[.int .i64 0, .int .i64 0, .int .i64 0, .int .i64 0], .bool false]) (by simp [results, Try.results57, go_sem, z0, z1, z2, z3]) rfl ⟨by rw [HV.out], HBW⟩
      · have HV := Lib.hid (mkV_yes (HM.out.trans hok) HSS.out HAA.out.1 HAA.out.2.1 HAA.out.2.2.1 HAA.out.2.2.2)
        go_wp2_with fail
        refine World.any (p := fun W => bodyPost _ _ _ _ _ W) (fun Z hW => ?_)
        have z0 : Z.cell? ⟨w.heap.size, 0, none⟩ = some (.int .i64 a) := by subst hW; go_simp
        have z1 : Z.cell? ⟨w.heap.size, 1, none⟩ = some (.int .i64 b) := by subst hW; go_simp
        have z2 : Z.cell? ⟨w.heap.size, 2, none⟩ = some (.int .i64 c) := by subst hW; go_simp
        have z3 : Z.cell? ⟨w.heap.size, 3, none⟩ = some (.int .i64 f) := by subst hW; go_simp
        have HBW : Below w.heap.size w Z := by
          subst hW
          repeat refine Below.setCell ?_ (by simp) _
          exact HB2.out
        refine bodyPost_ret (v := .tuple #[.agg #[.int .i64 a, .int .i64 b, .int .i64 c, .int .i64 f], .bool true]) (by simp [results, Try.results57, go_sem, z0, z1, z2, z3]) rfl ⟨by rw [HV.out], HBW⟩

theorem mxOk_a {ah av am ad bh bv bm bd : Int} (ha : okT ah av am ad = false) : mxOk ah av am ad bh bv bm bd = false := by unfold mxOk; rw [ha]; rfl
theorem mxOk_b {ah av am ad bh bv bm bd : Int} (hb : okT bh bv bm bd = false) : mxOk ah av am ad bh bv bm bd = false := by unfold mxOk; rw [hb]; simp
theorem mxOk_da {ah av am ad bh bv bm bd : Int} (hd : ad > 1000) : mxOk ah av am ad bh bv bm bd = false := by unfold mxOk; rw [decide_eq_false (show ¬ ad ≤ 1000 by omega)]; simp
theorem mxOk_db {ah av am ad bh bv bm bd : Int} (hd : bd > 1000) : mxOk ah av am ad bh bv bm bd = false := by unfold mxOk; rw [decide_eq_false (show ¬ bd ≤ 1000 by omega)]; simp
theorem mxOk_yes {ah av am ad bh bv bm bd : Int} (ha : okT ah av am ad = true) (hb : okT bh bv bm bd = true) (hda : ¬ ad > 1000) (hdb : ¬ bd > 1000) : mxOk ah av am ad bh bv bm bd = true := by
  unfold mxOk; rw [ha, hb, decide_eq_true (show ad ≤ 1000 by omega), decide_eq_true (show bd ≤ 1000 by omega)]; rfl


set_option maxHeartbeats 2000000 in
theorem specMix (ah av am ad bh bv bm bd : Int) (w : World) :
    Calls Try.prog 32 #[.agg #[.int .i64 ah, .int .i64 av, .int .i64 am, .int .i64 ad], .agg #[.int .i64 bh, .int .i64 bv, .int .i64 bm, .int .i64 bd]] w fun e w' => e = .returned (mxV ah av am ad bh bv bm bd) ∧ Below w.heap.size w w' := by
  have hb0 := (((Below.refl w.heap.size w).alloc (Nat.le_refl _) (.cells #[.int .i64 ah, .int .i64 av, .int .i64 am, .int .i64 ad] 31)).alloc (by simp) (.cells #[.int .i64 bh, .int .i64 bv, .int .i64 bm, .int .i64 bd] 31)).alloc (by simp <;> omega) (.cells #[.int .i64 0, .int .i64 0, .int .i64 0, .int .i64 0] 31)
  have HB0 := Lib.hid hb0
  clear hb0
  cases ha : okT ah av am ad
  · have HV := Lib.hid (mxV_no (mxOk_a (bh := bh) (bv := bv) (bm := bm) (bd := bd) ha))
    go_enter Try.func32, Try.ntmps32
    go_wp2_with fail
    refine (specThrustOk _ _ _ _ _).mono ?_
    rintro e w1 ⟨rfl, hb1⟩
    rw [ha]
    have HB1 := Lib.hid (HB0.out.trans (hb1.mono HB0.out.size))
    obtain ⟨hc1, hf1⟩ := bcell hb1
    clear hb1
    go_wp2_with fail
    refine World.any (p := fun W => bodyPost _ _ _ _ _ W) (fun Z hW => ?_)
    have z0 : Z.cell? ⟨w.heap.size + 1 + 1, 0, none⟩ = some (.int .i64 0) := by subst hW; go_simp
    have z1 : Z.cell? ⟨w.heap.size + 1 + 1, 1, none⟩ = some (.int .i64 0) := by subst hW; go_simp
    have z2 : Z.cell? ⟨w.heap.size + 1 + 1, 2, none⟩ = some (.int .i64 0) := by subst hW; go_simp
    have z3 : Z.cell? ⟨w.heap.size + 1 + 1, 3, none⟩ = some (.int .i64 0) := by subst hW; go_simp
    have HBW : Below w.heap.size w Z := by
      subst hW
      repeat refine Below.setCell ?_ (by simp <;> omega) _
      exact HB1.out
    refine bodyPost_ret (v := .tuple #[.agg #[.int .i64 0, .int .i64 0, .int .i64 0, .int .i64 0], .bool false]) (by simp [results, Try.results32, go_sem, z0, z1, z2, z3]) rfl ⟨by rw [HV.out], HBW⟩
  cases hb : okT bh bv bm bd
  · have HV := Lib.hid (mxV_no (mxOk_b (ah := ah) (av := av) (am := am) (ad := ad) hb))
    go_enter Try.func32, Try.ntmps32
    go_wp2_with fail
    refine (specThrustOk _ _ _ _ _).mono ?_
    rintro e w1 ⟨rfl, hb1⟩
    rw [ha]
    have HB1 := Lib.hid (HB0.out.trans (hb1.mono HB0.out.size))
    obtain ⟨hc1, hf1⟩ := bcell hb1
    have hb1' := Lib.hid hb1
    clear hb1
    go_wp2_with fail
    refine (specThrustOk _ _ _ _ _).mono ?_
    rintro e w2 ⟨rfl, hb2⟩
    rw [hb]
    have HB2 := Lib.hid (HB1.out.trans (hb2.mono HB1.out.size))
    have hb12 := hb1'.out.trans (hb2.mono hb1'.out.size)
    clear hb2 hb1' hc1 hf1
    obtain ⟨hc1, hf1⟩ := bcell hb12
    have hb12' := Lib.hid hb12
    clear hb12
    go_wp2_with fail
    refine World.any (p := fun W => bodyPost _ _ _ _ _ W) (fun Z hW => ?_)
    have z0 : Z.cell? ⟨w.heap.size + 1 + 1, 0, none⟩ = some (.int .i64 0) := by subst hW; go_simp
    have z1 : Z.cell? ⟨w.heap.size + 1 + 1, 1, none⟩ = some (.int .i64 0) := by subst hW; go_simp
    have z2 : Z.cell? ⟨w.heap.size + 1 + 1, 2, none⟩ = some (.int .i64 0) := by subst hW; go_simp
    have z3 : Z.cell? ⟨w.heap.size + 1 + 1, 3, none⟩ = some (.int .i64 0) := by subst hW; go_simp
    have HBW : Below w.heap.size w Z := by
      subst hW
      repeat refine Below.setCell ?_ (by simp <;> omega) _
      exact HB2.out
    refine bodyPost_ret (v := .tuple #[.agg #[.int .i64 0, .int .i64 0, .int .i64 0, .int .i64 0], .bool false]) (by simp [results, Try.results32, go_sem, z0, z1, z2, z3]) rfl ⟨by rw [HV.out], HBW⟩
  by_cases hda : ad > 1000
  · have HV := Lib.hid (mxV_no (mxOk_da (ah := ah) (av := av) (am := am) (bh := bh) (bv := bv) (bm := bm) (bd := bd) hda))
    go_enter Try.func32, Try.ntmps32
    go_wp2_with fail
    refine (specThrustOk _ _ _ _ _).mono ?_
    rintro e w1 ⟨rfl, hb1⟩
    rw [ha]
    have HB1 := Lib.hid (HB0.out.trans (hb1.mono HB0.out.size))
    obtain ⟨hc1, hf1⟩ := bcell hb1
    have hb1' := Lib.hid hb1
    clear hb1
    go_wp2_with fail
    refine (specThrustOk _ _ _ _ _).mono ?_
    rintro e w2 ⟨rfl, hb2⟩
    rw [hb]
    have HB2 := Lib.hid (HB1.out.trans (hb2.mono HB1.out.size))
    have hb12 := hb1'.out.trans (hb2.mono hb1'.out.size)
    clear hb2 hb1' hc1 hf1
    obtain ⟨hc1, hf1⟩ := bcell hb12
    have hb12' := Lib.hid hb12
    clear hb12
    go_wp2_with fail
    refine World.any (p := fun W => bodyPost _ _ _ _ _ W) (fun Z hW => ?_)
    have z0 : Z.cell? ⟨w.heap.size + 1 + 1, 0, none⟩ = some (.int .i64 0) := by subst hW; go_simp
    have z1 : Z.cell? ⟨w.heap.size + 1 + 1, 1, none⟩ = some (.int .i64 0) := by subst hW; go_simp
    have z2 : Z.cell? ⟨w.heap.size + 1 + 1, 2, none⟩ = some (.int .i64 0) := by subst hW; go_simp
    have z3 : Z.cell? ⟨w.heap.size + 1 + 1, 3, none⟩ = some (.int .i64 0) := by subst hW; go_simp
    have HBW : Below w.heap.size w Z := by
      subst hW
      repeat refine Below.setCell ?_ (by simp <;> omega) _
      exact HB2.out
    refine bodyPost_ret (v := .tuple #[.agg #[.int .i64 0, .int .i64 0, .int .i64 0, .int .i64 0], .bool false]) (by simp [results, Try.results32, go_sem, z0, z1, z2, z3]) rfl ⟨by rw [HV.out], HBW⟩
  by_cases hdb : bd > 1000
  · have HV := Lib.hid (mxV_no (mxOk_db (ah := ah) (av := av) (am := am) (ad := ad) (bh := bh) (bv := bv) (bm := bm) hdb))
    go_enter Try.func32, Try.ntmps32
    go_wp2_with fail
    refine (specThrustOk _ _ _ _ _).mono ?_
    rintro e w1 ⟨rfl, hb1⟩
    rw [ha]
    have HB1 := Lib.hid (HB0.out.trans (hb1.mono HB0.out.size))
    obtain ⟨hc1, hf1⟩ := bcell hb1
    have hb1' := Lib.hid hb1
    clear hb1
    go_wp2_with fail
    refine (specThrustOk _ _ _ _ _).mono ?_
    rintro e w2 ⟨rfl, hb2⟩
    rw [hb]
    have HB2 := Lib.hid (HB1.out.trans (hb2.mono HB1.out.size))
    have hb12 := hb1'.out.trans (hb2.mono hb1'.out.size)
    clear hb2 hb1' hc1 hf1
    obtain ⟨hc1, hf1⟩ := bcell hb12
    have hb12' := Lib.hid hb12
    clear hb12
    go_wp2_with fail
    refine World.any (p := fun W => bodyPost _ _ _ _ _ W) (fun Z hW => ?_)
    have z0 : Z.cell? ⟨w.heap.size + 1 + 1, 0, none⟩ = some (.int .i64 0) := by subst hW; go_simp
    have z1 : Z.cell? ⟨w.heap.size + 1 + 1, 1, none⟩ = some (.int .i64 0) := by subst hW; go_simp
    have z2 : Z.cell? ⟨w.heap.size + 1 + 1, 2, none⟩ = some (.int .i64 0) := by subst hW; go_simp
    have z3 : Z.cell? ⟨w.heap.size + 1 + 1, 3, none⟩ = some (.int .i64 0) := by subst hW; go_simp
    have HBW : Below w.heap.size w Z := by
      subst hW
      repeat refine Below.setCell ?_ (by simp <;> omega) _
      exact HB2.out
    refine bodyPost_ret (v := .tuple #[.agg #[.int .i64 0, .int .i64 0, .int .i64 0, .int .i64 0], .bool false]) (by simp [results, Try.results32, go_sem, z0, z1, z2, z3]) rfl ⟨by rw [HV.out], HBW⟩
  · have HV := Lib.hid (mxV_yes (mxOk_yes ha hb hda hdb))
    have ra := okT_iff.1 ha
    have rb := okT_iff.1 hb
    have p1 := mix_prod (x := ah) (y := bh) (p := ad) (q := bd) (by omega) (by omega) (by omega) (by omega)
    have p2 := mix_prod (x := av) (y := bv) (p := ad) (q := bd) (by omega) (by omega) (by omega) (by omega)
    have p3 := mix_prod (x := am) (y := bm) (p := ad) (q := bd) (by omega) (by omega) (by omega) (by omega)
    have p4 := mulT_bd (x := 2 * ad) (y := bd) 2000 1000 (by omega) (by omega)
    have w0 : IntKind.i64.wrap (2 * ad) = 2 * ad := IntWalk.i64_in _ (by omega)
    have e1 : mxH ah ad bh bd = ah * bd + bh * ad := rfl
    have e2 : mxH av ad bv bd = av * bd + bv * ad := rfl
    have e3 : mxH am ad bm bd = am * bd + bm * ad := rfl
    have e4 : mxD ad bd = 2 * ad * bd := rfl
    generalize mxH ah ad bh bd = H at *
    generalize mxH av ad bv bd = V at *
    generalize mxH am ad bm bd = M at *
    generalize mxD ad bd = D at *
    obtain ⟨h1, eh1⟩ : ∃ x, ah * bd = x := ⟨_, rfl⟩
    obtain ⟨h2, eh2⟩ : ∃ x, bh * ad = x := ⟨_, rfl⟩
    obtain ⟨v1, ev1⟩ : ∃ x, av * bd = x := ⟨_, rfl⟩
    obtain ⟨v2, ev2⟩ : ∃ x, bv * ad = x := ⟨_, rfl⟩
    obtain ⟨m1, em1⟩ : ∃ x, am * bd = x := ⟨_, rfl⟩
    obtain ⟨m2, em2⟩ : ∃ x, bm * ad = x := ⟨_, rfl⟩
    rw [eh1, eh2] at p1 e1
    rw [ev1, ev2] at p2 e2
    rw [em1, em2] at p3 e3
    have f1 : IntKind.i64.wrap (ah * bd) = h1 := by rw [eh1]; exact IntWalk.i64_in _ (by omega)
    have f2 : IntKind.i64.wrap (bh * ad) = h2 := by rw [eh2]; exact IntWalk.i64_in _ (by omega)
    have f3 : IntKind.i64.wrap (av * bd) = v1 := by rw [ev1]; exact IntWalk.i64_in _ (by omega)
    have f4 : IntKind.i64.wrap (bv * ad) = v2 := by rw [ev2]; exact IntWalk.i64_in _ (by omega)
    have f5 : IntKind.i64.wrap (am * bd) = m1 := by rw [em1]; exact IntWalk.i64_in _ (by omega)
    have f6 : IntKind.i64.wrap (bm * ad) = m2 := by rw [em2]; exact IntWalk.i64_in _ (by omega)
    have f7 : IntKind.i64.wrap (h1 + h2) = H := by rw [← e1]; exact IntWalk.i64_in _ (by omega)
    have f8 : IntKind.i64.wrap (v1 + v2) = V := by rw [← e2]; exact IntWalk.i64_in _ (by omega)
    have f9 : IntKind.i64.wrap (m1 + m2) = M := by rw [← e3]; exact IntWalk.i64_in _ (by omega)
    have fd : IntKind.i64.wrap (2 * ad * bd) = D := by rw [← e4]; exact IntWalk.i64_in _ (by omega)
    clear p1 p2 p3 p4 e1 e2 e3 e4 eh1 eh2 ev1 ev2 em1 em2 ra rb
    obtain ⟨ra, rb, rc, re, rt, hr⟩ := mkV_any H V M D
    have HK := Lib.hid (fun w => specMake H V M D w)
    rw [hr] at HK HV
    clear hr
    go_enter Try.func32, Try.ntmps32
    go_wp2_with fail
    refine (specThrustOk _ _ _ _ _).mono ?_
    rintro e w1 ⟨rfl, hb1⟩
    rw [ha]
    have HB1 := Lib.hid (HB0.out.trans (hb1.mono HB0.out.size))
    obtain ⟨hc1, hf1⟩ := bcell hb1
    have hb1' := Lib.hid hb1
    clear hb1
    go_wp2_with fail
    refine (specThrustOk _ _ _ _ _).mono ?_
    rintro e w2 ⟨rfl, hb2⟩
    rw [hb]
    have HB2 := Lib.hid (HB1.out.trans (hb2.mono HB1.out.size))
    have hb12 := hb1'.out.trans (hb2.mono hb1'.out.size)
    clear hb2 hb1' hc1 hf1
    obtain ⟨hc1, hf1⟩ := bcell hb12
    have hb12' := Lib.hid hb12
    clear hb12
    go_wp2_with fail
    refine (HK.out _).mono ?_
    rintro e w3 ⟨rfl, hb3⟩
    have hb13 := hb12'.out.trans (hb3.mono hb12'.out.size)
    have HB3 := Lib.hid (HB2.out.trans (hb3.mono HB2.out.size))
    clear hb3 hb12' hc1 hf1
    obtain ⟨hc1, hf1⟩ := bcell hb13
    clear hb13
    go_wp2_with fail
    refine World.any (p := fun W => bodyPost _ _ _ _ _ W) (fun Z hW => ?_)
    have z0 : Z.cell? ⟨w.heap.size + 1 + 1, 0, none⟩ = some (.int .i64 ra) := by subst hW; go_simp
    have z1 : Z.cell? ⟨w.heap.size + 1 + 1, 1, none⟩ = some (.int .i64 rb) := by subst hW; go_simp
    have z2 : Z.cell? ⟨w.heap.size + 1 + 1, 2, none⟩ = some (.int .i64 rc) := by subst hW; go_simp
    have z3 : Z.cell? ⟨w.heap.size + 1 + 1, 3, none⟩ = some (.int .i64 re) := by subst hW; go_simp
    have HBW : Below w.heap.size w Z := by
      subst hW
      repeat refine Below.setCell ?_ (by simp <;> omega) _
      exact HB3.out
    refine bodyPost_ret (v := .tuple #[.agg #[.int .i64 ra, .int .i64 rb, .int .i64 rc, .int .i64 re], .bool rt]) (by simp [results, Try.results32, go_sem, z0, z1, z2, z3]) rfl ⟨by rw [HV.out], HBW⟩
end Go.Proofs.Ytbmlcfdilopmgaa
