/- Thrusts, plainly: the greatest common divisor of four numbers, what the functions on thrusts answer; a thrust has one form, and what is halfway lies between. -/
import Derived.Test.YtidmhpeaehmmhaaDoorBaseC
namespace Go.Proofs.YtidmhpeaehmmhaaDoor
set_option maxRecDepth 100000

def inR (n a b : Int) : Bool := decide (a ≤ n ∧ n ≤ b)
theorem inR_iff {n a b : Int} : inR n a b = true ↔ a ≤ n ∧ n ≤ b := by unfold inR; simp

/-- The greatest common divisor of four numbers. -/
def gcd4 (h v m d : Int) : Nat := Nat.gcd (Nat.gcd h.natAbs v.natAbs) (Nat.gcd m.natAbs d.natAbs)
theorem gcd4_row (h v m d : Int) : Nat.gcd (Nat.gcd (Nat.gcd (Nat.gcd 0 h.natAbs) v.natAbs) m.natAbs) d.natAbs = gcd4 h v m d := by
  unfold gcd4; rw [Nat.gcd_zero_left, Nat.gcd_assoc]
theorem gcd4_mul (k h v m d : Int) : gcd4 (k * h) (k * v) (k * m) (k * d) = k.natAbs * gcd4 h v m d := by
  unfold gcd4
  rw [Int.natAbs_mul, Int.natAbs_mul, Int.natAbs_mul, Int.natAbs_mul, Nat.gcd_mul_left, Nat.gcd_mul_left, Nat.gcd_mul_left]
theorem gcd4_dvd (h v m d : Int) : gcd4 h v m d ∣ h.natAbs ∧ gcd4 h v m d ∣ v.natAbs ∧ gcd4 h v m d ∣ m.natAbs ∧ gcd4 h v m d ∣ d.natAbs :=
  ⟨Nat.dvd_trans (Nat.gcd_dvd_left _ _) (Nat.gcd_dvd_left _ _), Nat.dvd_trans (Nat.gcd_dvd_left _ _) (Nat.gcd_dvd_right _ _),
   Nat.dvd_trans (Nat.gcd_dvd_right _ _) (Nat.gcd_dvd_left _ _), Nat.dvd_trans (Nat.gcd_dvd_right _ _) (Nat.gcd_dvd_right _ _)⟩
theorem gcd4_pos {h v m d : Int} (hd : d ≠ 0) : 0 < gcd4 h v m d := Nat.pos_of_dvd_of_pos (gcd4_dvd h v m d).2.2.2 (by omega)
theorem gcd4_le {h v m d : Int} (hd : d ≠ 0) : gcd4 h v m d ≤ d.natAbs := Nat.le_of_dvd (by omega) (gcd4_dvd h v m d).2.2.2

/-- A valid thrust. -/
def okT (h v m d : Int) : Bool := inR d 1 1000000 && (inR h 0 1000000000000 && (inR v (-10000000000000) 10000000000000 && (inR m (-10000000000000) 10000000000000 && decide (gcd4 h v m d = 1))))
theorem okT_iff {h v m d : Int} : okT h v m d = true ↔ (1 ≤ d ∧ d ≤ 1000000) ∧ (0 ≤ h ∧ h ≤ 1000000000000) ∧ (-10000000000000 ≤ v ∧ v ≤ 10000000000000) ∧ (-10000000000000 ≤ m ∧ m ≤ 10000000000000) ∧ gcd4 h v m d = 1 := by
  unfold okT; simp only [Bool.and_eq_true, inR_iff, decide_eq_true_eq]

/-- The divisor with Den's sign. -/
def sgn (h v m d : Int) : Int := if d < 0 then -(gcd4 h v m d : Int) else (gcd4 h v m d : Int)
theorem sgn_ne {h v m d : Int} (hd : d ≠ 0) : sgn h v m d ≠ 0 := by
  have := gcd4_pos (h := h) (v := v) (m := m) hd
  unfold sgn; split <;> omega
theorem sgn_dvd (h v m d : Int) : sgn h v m d ∣ h ∧ sgn h v m d ∣ v ∧ sgn h v m d ∣ m ∧ sgn h v m d ∣ d := by
  obtain ⟨a, b, c, e⟩ := gcd4_dvd h v m d
  unfold sgn
  split
  · refine ⟨Int.neg_dvd.2 ?_, Int.neg_dvd.2 ?_, Int.neg_dvd.2 ?_, Int.neg_dvd.2 ?_⟩ <;> (apply Int.ofNat_dvd_left.2; assumption)
  · refine ⟨?_, ?_, ?_, ?_⟩ <;> (apply Int.ofNat_dvd_left.2; assumption)

def inF (n : Int) : Bool := inR n (-4000000000000000000) 4000000000000000000
def mkIn (h v m d : Int) : Bool := inF h && (inF v && (inF m && inF d))
/-- Whether MakeThrust answers a thrust. -/
def mkB (h v m d : Int) : Bool := !decide (d = 0) && (mkIn h v m d && okT (h.tdiv (sgn h v m d)) (v.tdiv (sgn h v m d)) (m.tdiv (sgn h v m d)) (d.tdiv (sgn h v m d)))
/-- A number of what it answers. -/
def mkN (x h v m d : Int) : Int := if mkB h v m d then x.tdiv (sgn h v m d) else 0

theorem tdiv_bd (x s : Int) (h : inF x = true) : -4000000000000000000 ≤ x.tdiv s ∧ x.tdiv s ≤ 4000000000000000000 := by
  unfold inF at h
  have h := inR_iff.1 h
  have h1 : (x.tdiv s).natAbs = x.natAbs / s.natAbs := Int.natAbs_tdiv x s
  have h2 := Nat.div_le_self x.natAbs s.natAbs
  omega

/-- The quotients are in lowest terms. -/
theorem parts {h v m d : Int} (hd : d ≠ 0) : sgn h v m d * h.tdiv (sgn h v m d) = h ∧ sgn h v m d * v.tdiv (sgn h v m d) = v ∧ sgn h v m d * m.tdiv (sgn h v m d) = m ∧ sgn h v m d * d.tdiv (sgn h v m d) = d
    ∧ gcd4 (h.tdiv (sgn h v m d)) (v.tdiv (sgn h v m d)) (m.tdiv (sgn h v m d)) (d.tdiv (sgn h v m d)) = 1 := by
  obtain ⟨a, b, c, e⟩ := sgn_dvd h v m d
  have e1 := Int.mul_tdiv_cancel' a
  have e2 := Int.mul_tdiv_cancel' b
  have e3 := Int.mul_tdiv_cancel' c
  have e4 := Int.mul_tdiv_cancel' e
  refine ⟨e1, e2, e3, e4, ?_⟩
  have hm := gcd4_mul (sgn h v m d) (h.tdiv (sgn h v m d)) (v.tdiv (sgn h v m d)) (m.tdiv (sgn h v m d)) (d.tdiv (sgn h v m d))
  rw [e1, e2, e3, e4] at hm
  have hp := gcd4_pos (h := h) (v := v) (m := m) hd
  have hs : (sgn h v m d).natAbs = gcd4 h v m d := by unfold sgn; split <;> omega
  rw [hs] at hm
  generalize gcd4 h v m d = g at hm hp
  exact Nat.eq_of_mul_eq_mul_left hp (by omega)
theorem mulT_bd {x y : Int} (a b : Nat) (hx : -(a : Int) ≤ x ∧ x ≤ a) (hy : -(b : Int) ≤ y ∧ y ≤ b) : -((a * b : Nat) : Int) ≤ x * y ∧ x * y ≤ ((a * b : Nat) : Int) := by
  have h1 : (x * y).natAbs = x.natAbs * y.natAbs := Int.natAbs_mul x y
  have h2 : x.natAbs * y.natAbs ≤ a * b := Nat.mul_le_mul (by omega) (by omega)
  omega
theorem mkB_iff {h v m d : Int} : mkB h v m d = true ↔ d ≠ 0 ∧ (inF h = true ∧ inF v = true ∧ inF m = true ∧ inF d = true) ∧ okT (h.tdiv (sgn h v m d)) (v.tdiv (sgn h v m d)) (m.tdiv (sgn h v m d)) (d.tdiv (sgn h v m d)) = true := by
  unfold mkB mkIn; simp
theorem mkN_yes {x h v m d : Int} (hb : mkB h v m d = true) : mkN x h v m d = x.tdiv (sgn h v m d) := by unfold mkN; rw [hb]; rfl
theorem mkN_no {x h v m d : Int} (hb : mkB h v m d = false) : mkN x h v m d = 0 := by unfold mkN; rw [hb]; rfl
/-- What MakeThrust answers, where it does, is valid. -/
theorem mk_ok {h v m d : Int} (hb : mkB h v m d = true) : okT (mkN h h v m d) (mkN v h v m d) (mkN m h v m d) (mkN d h v m d) = true := by
  rw [mkN_yes hb, mkN_yes hb, mkN_yes hb, mkN_yes hb]; exact (mkB_iff.1 hb).2.2

/-- A thrust has one form. -/
theorem mk_same {h v m d : Int} (ht : okT h v m d = true) (k : Int) (hk : -100 ≤ k ∧ k < 0) :
    mkB (k * h) (k * v) (k * m) (k * d) = true ∧ mkN (k * h) (k * h) (k * v) (k * m) (k * d) = h ∧ mkN (k * v) (k * h) (k * v) (k * m) (k * d) = v ∧ mkN (k * m) (k * h) (k * v) (k * m) (k * d) = m ∧ mkN (k * d) (k * h) (k * v) (k * m) (k * d) = d := by
  have hh := okT_iff.1 ht
  have hneg : k * d < 0 := Int.mul_neg_of_neg_of_pos hk.2 (by omega)
  have hs : sgn (k * h) (k * v) (k * m) (k * d) = k := by
    unfold sgn; rw [if_pos hneg, gcd4_mul, hh.2.2.2.2]; omega
  have hk0 : k ≠ 0 := by omega
  have q : ∀ x : Int, (k * x).tdiv k = x := fun x => Int.mul_tdiv_cancel_left x hk0
  have f : ∀ x : Int, (-10000000000000 ≤ x ∧ x ≤ 10000000000000) → inF (k * x) = true := fun x hx => by
    have := mulT_bd (x := k) (y := x) 100 10000000000000 (by omega) (by omega)
    exact inR_iff.2 (by omega)
  have hb : mkB (k * h) (k * v) (k * m) (k * d) = true := mkB_iff.2 ⟨by omega, ⟨f h (by omega), f v (by omega), f m (by omega), f d (by omega)⟩, by rw [hs, q, q, q, q]; exact ht⟩
  refine ⟨hb, ?_, ?_, ?_, ?_⟩ <;> (rw [mkN_yes hb, hs]; exact q _)

/-- What MakeThrust answers with small numbers. -/
theorem mk_small {h v m d : Int} (hd : 0 < d ∧ d ≤ 1000000) (hh : 0 ≤ h ∧ h ≤ 1000000000000) (hv : -10000000000000 ≤ v ∧ v ≤ 10000000000000) (hm : -10000000000000 ≤ m ∧ m ≤ 10000000000000) :
    mkB h v m d = true ∧ 0 < sgn h v m d ∧ sgn h v m d * mkN h h v m d = h ∧ sgn h v m d * mkN v h v m d = v ∧ sgn h v m d * mkN m h v m d = m ∧ sgn h v m d * mkN d h v m d = d
    ∧ (mkN h h v m d).natAbs ≤ h.natAbs ∧ (mkN v h v m d).natAbs ≤ v.natAbs ∧ (mkN m h v m d).natAbs ≤ m.natAbs ∧ (mkN d h v m d).natAbs ≤ d.natAbs := by
  have hd0 : d ≠ 0 := by omega
  obtain ⟨e1, e2, e3, e4, e5⟩ := parts (h := h) (v := v) (m := m) hd0
  have hs : 0 < sgn h v m d := by
    have := gcd4_pos (h := h) (v := v) (m := m) hd0
    unfold sgn; rw [if_neg (by omega)]; omega
  have a : ∀ x : Int, (x.tdiv (sgn h v m d)).natAbs ≤ x.natAbs := fun x => by rw [Int.natAbs_tdiv]; exact Nat.div_le_self _ _
  have p : ∀ x : Int, 0 ≤ x → 0 ≤ x.tdiv (sgn h v m d) := fun x hx => Int.tdiv_nonneg hx (by omega)
  have d1 : d.tdiv (sgn h v m d) ≠ 0 := fun h0 => by rw [h0, Int.mul_zero] at e4; omega
  have hb : mkB h v m d = true := by
    refine mkB_iff.2 ⟨hd0, ⟨inR_iff.2 (by omega), inR_iff.2 (by omega), inR_iff.2 (by omega), inR_iff.2 (by omega)⟩, okT_iff.2 ⟨?_, ?_, ?_, ?_, e5⟩⟩
    · have := a d; have := p d (by omega); omega
    · have := a h; have := p h (by omega); omega
    · have := a v; omega
    · have := a m; omega
  rw [mkN_yes hb, mkN_yes hb, mkN_yes hb, mkN_yes hb]
  exact ⟨hb, hs, e1, e2, e3, e4, a h, a v, a m, a d⟩

/-- What CompareThrusts answers of two valid thrusts. -/
def ordV (x y : Int) : Int := if x < y then -1 else if x > y then 1 else 0
def cmpV (ah av am ad bh bv bm bd : Int) : Int := if okT ah av am ad && okT bh bv bm bd then ordV (ah * bd) (bh * ad) else -2
theorem cmpV_yes {ah av am ad bh bv bm bd : Int} (ha : okT ah av am ad = true) (hb : okT bh bv bm bd = true) : cmpV ah av am ad bh bv bm bd = ordV (ah * bd) (bh * ad) := by unfold cmpV; rw [ha, hb]; rfl
theorem cmpV_a {ah av am ad bh bv bm bd : Int} (ha : okT ah av am ad = false) : cmpV ah av am ad bh bv bm bd = -2 := by unfold cmpV; rw [ha]; rfl
theorem cmpV_b {ah av am ad bh bv bm bd : Int} (hb : okT bh bv bm bd = false) : cmpV ah av am ad bh bv bm bd = -2 := by unfold cmpV; rw [hb, Bool.and_false]; rfl
theorem ord_neg (x y : Int) : ordV x y = -ordV y x := by unfold ordV; split <;> split <;> (try split) <;> omega
theorem ord_same (x : Int) : ordV x x = 0 := by unfold ordV; rw [if_neg (by omega), if_neg (by omega)]
theorem ord_scale {x y p q s : Int} (hs : 0 < s) {t : Int} (ht : 0 < t) (h : s * (x - y) = t * (p - q)) : ordV x y = ordV p q := by
  have h1 : x < y ↔ p < q := by
    constructor
    · intro hl
      have : s * (x - y) < 0 := Int.mul_neg_of_pos_of_neg hs (by omega)
      rw [h] at this
      have := Int.neg_of_mul_neg_left (a := p - q) (b := t) (by rwa [Int.mul_comm]) 
      omega
    · intro hl
      have : t * (p - q) < 0 := Int.mul_neg_of_pos_of_neg ht (by omega)
      rw [← h] at this
      have := Int.neg_of_mul_neg_left (a := x - y) (b := s) (by rwa [Int.mul_comm]) 
      omega
  have h2 : x > y ↔ p > q := by
    constructor
    · intro hl
      have : 0 < s * (x - y) := Int.mul_pos hs (by omega)
      rw [h] at this
      refine Classical.byContradiction fun hn => ?_
      have := Int.mul_nonpos_of_nonneg_of_nonpos (a := t) (b := p - q) (by omega) (by omega)
      omega
    · intro hl
      have : 0 < t * (p - q) := Int.mul_pos ht (by omega)
      rw [← h] at this
      refine Classical.byContradiction fun hn => ?_
      have := Int.mul_nonpos_of_nonneg_of_nonpos (a := s) (b := x - y) (by omega) (by omega)
      omega
  unfold ordV
  simp only [h1, h2]

/-- The mixture of two valid thrusts, as what MakeThrust gets. -/
def mxH (ah ad bh bd : Int) : Int := ah * bd + bh * ad
def mxD (ad bd : Int) : Int := 2 * ad * bd
def mxOk (ah av am ad bh bv bm bd : Int) : Bool := (okT ah av am ad && decide (ad ≤ 1000)) && (okT bh bv bm bd && decide (bd ≤ 1000))
def mxB (ah av am ad bh bv bm bd : Int) : Bool := mxOk ah av am ad bh bv bm bd && mkB (mxH ah ad bh bd) (mxH av ad bv bd) (mxH am ad bm bd) (mxD ad bd)
def mxN (x ah av am ad bh bv bm bd : Int) : Int := if mxOk ah av am ad bh bv bm bd then mkN x (mxH ah ad bh bd) (mxH av ad bv bd) (mxH am ad bm bd) (mxD ad bd) else 0

/-- Small valid thrusts, as the draws make them. -/
def smallT (h v m d : Int) : Prop := okT h v m d = true ∧ h ≤ 1000 ∧ (-1000 ≤ v ∧ v ≤ 1000) ∧ (-1000 ≤ m ∧ m ≤ 1000) ∧ d ≤ 12

/-- What is halfway lies between. -/
theorem mix_law {ah av am ad bh bv bm bd : Int} (ha : smallT ah av am ad) (hb : smallT bh bv bm bd) :
    mxOk ah av am ad bh bv bm bd = true ∧ mkB (mxH ah ad bh bd) (mxH av ad bv bd) (mxH am ad bm bd) (mxD ad bd) = true := by
  obtain ⟨a0, a1, a2, a3, a4⟩ := ha
  obtain ⟨b0, b1, b2, b3, b4⟩ := hb
  have ha := okT_iff.1 a0
  have hb := okT_iff.1 b0
  refine ⟨?_, ?_⟩
  · unfold mxOk; rw [a0, b0, decide_eq_true (show ad ≤ 1000 by omega), decide_eq_true (show bd ≤ 1000 by omega)]; rfl
  · have m1 := mulT_bd (x := ah) (y := bd) 1000 12 (by omega) (by omega)
    have m2 := mulT_bd (x := bh) (y := ad) 1000 12 (by omega) (by omega)
    have m3 := mulT_bd (x := av) (y := bd) 1000 12 (by omega) (by omega)
    have m4 := mulT_bd (x := bv) (y := ad) 1000 12 (by omega) (by omega)
    have m5 := mulT_bd (x := am) (y := bd) 1000 12 (by omega) (by omega)
    have m6 := mulT_bd (x := bm) (y := ad) 1000 12 (by omega) (by omega)
    have m7 := mulT_bd (x := ad) (y := bd) 12 12 (by omega) (by omega)
    have p1 : 0 ≤ ah * bd := Int.mul_nonneg (by omega) (by omega)
    have p2 : 0 ≤ bh * ad := Int.mul_nonneg (by omega) (by omega)
    have p3 : 0 < ad * bd := Int.mul_pos (by omega) (by omega)
    refine (mk_small (h := mxH ah ad bh bd) (v := mxH av ad bv bd) (m := mxH am ad bm bd) (d := mxD ad bd) ?_ ?_ ?_ ?_).1
    · unfold mxD; rw [Int.mul_assoc]; omega
    · unfold mxH; omega
    · unfold mxH; omega
    · unfold mxH; omega
theorem mix_ord {ah av am ad bh bv bm bd : Int} (ha : smallT ah av am ad) (hb : smallT bh bv bm bd) (mh md : Int)
    (eh : mh = mkN (mxH ah ad bh bd) (mxH ah ad bh bd) (mxH av ad bv bd) (mxH am ad bm bd) (mxD ad bd)) (ed : md = mkN (mxD ad bd) (mxH ah ad bh bd) (mxH av ad bv bd) (mxH am ad bm bd) (mxD ad bd)) :
    ordV (ah * md) (mh * ad) = ordV (ah * bd) (bh * ad) ∧ ordV (mh * bd) (bh * md) = ordV (ah * bd) (bh * ad) := by
  obtain ⟨-, hk⟩ := mix_law ha hb
  have hd0 : mxD ad bd ≠ 0 := (mkB_iff.1 hk).1
  have qa := okT_iff.1 ha.1
  have qb := okT_iff.1 hb.1
  have hpd : 0 < ad * bd := Int.mul_pos (by omega) (by omega)
  have hpos : 0 < mxD ad bd := by unfold mxD; rw [Int.mul_assoc]; omega
  obtain ⟨e1, e2, e3, e4, -⟩ := parts (h := mxH ah ad bh bd) (v := mxH av ad bv bd) (m := mxH am ad bm bd) hd0
  rw [mkN_yes hk] at eh ed
  rw [← eh] at e1
  rw [← ed] at e4
  have hs : 0 < sgn (mxH ah ad bh bd) (mxH av ad bv bd) (mxH am ad bm bd) (mxD ad bd) := by
    have := gcd4_pos (h := mxH ah ad bh bd) (v := mxH av ad bv bd) (m := mxH am ad bm bd) hd0
    unfold sgn; rw [if_neg (by omega)]; omega
  generalize sgn (mxH ah ad bh bd) (mxH av ad bv bd) (mxH am ad bm bd) (mxD ad bd) = s at *
  clear eh ed hk
  unfold mxH at e1
  unfold mxD at e4
  refine ⟨ord_scale (s := s) (t := ad) hs (by omega) ?_, ord_scale (s := s) (t := bd) hs (by omega) ?_⟩
  · have : s * (ah * md - mh * ad) = ah * (s * md) - (s * mh) * ad := by grind
    rw [this, e1, e4]; grind
  · have : s * (mh * bd - bh * md) = (s * mh) * bd - bh * (s * md) := by grind
    rw [this, e1, e4]; grind
end Go.Proofs.YtidmhpeaehmmhaaDoor
