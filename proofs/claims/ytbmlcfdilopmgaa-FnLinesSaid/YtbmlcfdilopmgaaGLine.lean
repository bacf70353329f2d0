/- Lines of thrust, plainly: the places, which quotient is less, the margin, the highest joint, the touched joints; Quotients: the contracts of reciprocal, missing and isLess of the program, of l14Less of the model; Lines of thrust: rows of quotients; the contracts of the program's lineOf, findMargin, firstBest, MarginOf, InMiddle, PlacesOf, HighestJoint, TouchedJoints; Lines of thrust: the contracts of the program's findMargin, MarginOf, InMiddle, PlacesOf, HighestJoint, TouchedJoints. -/
import Derived.Test.YtbmlcfdilopmgaaGPush
import Derived.Test.YtbmlcfdilopmgaaStoneC
import Derived.Test.YtbmlcfdilopmgaaGThrust
import Derived.ScopeJumps
import Derived.Deep.RegionWith
import Derived.Deep.Cut
import Derived.Deep.CutRange
import Derived.BigQuiet
import Derived.WalkMore
import Derived.Deep.RegionHeld3
import Derived.Test.YtbmlcfdilopmgaaGCond
import Derived.Test.YtbmlcfdilopmgaaIntSS

/- Lines of thrust, plainly: the places, which quotient is less, the margin, the highest joint, the touched joints. -/
namespace Go.Proofs.Ytbmlcfdilopmgaa
set_option maxRecDepth 100000
set_option linter.unusedVariables false
set_option linter.unusedSimpArgs false

/-- A quotient as a place may be. -/
structure PlQ (q : Int × Int) : Prop where
  lo : 0 ≤ q.1
  hi : q.1 ≤ q.2
  pos : 0 < q.2
  le : q.2 ≤ 6000000000000000
  low : Nat.gcd q.1.natAbs q.2.natAbs = 1
/-- Whether a quotient is less than another. -/
def ltQ (p q : Int × Int) : Bool := decide (p.1 * q.2 < q.1 * p.2)
theorem ltQ_iff {p q : Int × Int} : ltQ p q = true ↔ p.1 * q.2 < q.1 * p.2 := by unfold ltQ; exact decide_eq_true_iff
theorem ltQ_no {p q : Int × Int} : ltQ p q = false ↔ q.1 * p.2 ≤ p.1 * q.2 := by unfold ltQ; rw [decide_eq_false_iff_not]; exact Int.not_lt
/-- 1 minus a quotient. -/
def misQ (q : Int × Int) : Int × Int := (q.2 - q.1, q.2)
/-- The lesser one of a quotient and what is missing. -/
def minQ (q : Int × Int) : Int × Int := (if q.1 ≤ q.2 - q.1 then q.1 else q.2 - q.1, q.2)
theorem gcd_mis {a b : Int} (h0 : 0 ≤ a) (h1 : a ≤ b) : Nat.gcd (b - a).natAbs b.natAbs = Nat.gcd a.natAbs b.natAbs := by
  obtain ⟨x, rfl⟩ := Int.eq_ofNat_of_zero_le h0
  obtain ⟨y, rfl⟩ := Int.eq_ofNat_of_zero_le (Int.le_trans h0 h1)
  have hxy : x ≤ y := by omega
  obtain ⟨z, rfl⟩ := Nat.exists_eq_add_of_le hxy
  rw [show ((x + z : Nat) : Int) - (x : Int) = (z : Int) by omega]
  simp only [Int.natAbs_natCast]
  rw [Nat.gcd_add_self_right_aux z x]
where
  Nat.gcd_add_self_right_aux (z x : Nat) : Nat.gcd z (x + z) = Nat.gcd x (x + z) := by
    rw [Nat.gcd_add_self_right, Nat.gcd_self_add_right, Nat.gcd_comm]
theorem PlQ.mis {q : Int × Int} (h : PlQ q) : PlQ (misQ q) := by
  have := h.lo; have := h.hi; have := h.pos
  exact ⟨by unfold misQ; dsimp only; omega, by unfold misQ; dsimp only; omega, h.pos, h.le, (gcd_mis h.lo h.hi).trans h.low⟩
theorem PlQ.min {q : Int × Int} (h : PlQ q) : PlQ (minQ q) ∧ 2 * (minQ q).1 ≤ (minQ q).2 := by
  unfold minQ
  by_cases hc : q.1 ≤ q.2 - q.1
  · rw [if_pos hc]; exact ⟨⟨h.lo, h.hi, h.pos, h.le, h.low⟩, by dsimp only; omega⟩
  · rw [if_neg hc]; exact ⟨h.mis, by dsimp only; omega⟩

/-! ### One step of comparing -/
theorem mul_parts (a b d : Int) : a * d = b * d * (a / b) + a % b * d := by
  have h := Int.mul_ediv_add_emod a b
  have h2 : (b * (a / b) + a % b) * d = a * d := by rw [h]
  rw [← h2, Int.add_mul]
  congr 1
  rw [Int.mul_assoc, Int.mul_assoc, Int.mul_comm (a / b) d]
theorem lt_whole {a b c d : Int} (hb : 0 < b) (hd : 0 < d) (hne : a / b ≠ c / d) : (a * d < c * b) ↔ a / b < c / d := by
  have e1 := mul_parts a b d
  have e2 := mul_parts c d b
  rw [Int.mul_comm d b] at e2
  have ra0 := Int.emod_nonneg a (Int.ne_of_gt hb)
  have ra1 := Int.emod_lt_of_pos a hb
  have rc0 := Int.emod_nonneg c (Int.ne_of_gt hd)
  have rc1 := Int.emod_lt_of_pos c hd
  have ha2 : a % b * d < b * d := Int.mul_lt_mul_of_pos_right ra1 hd
  have ha0 : 0 ≤ a % b * d := Int.mul_nonneg ra0 (Int.le_of_lt hd)
  have hc2 : c % d * b < d * b := Int.mul_lt_mul_of_pos_right rc1 hb
  have hc0 : 0 ≤ c % d * b := Int.mul_nonneg rc0 (Int.le_of_lt hb)
  rw [Int.mul_comm d b] at hc2
  have hbd : 0 ≤ b * d := Int.mul_nonneg (Int.le_of_lt hb) (Int.le_of_lt hd)
  rw [e1, e2]
  generalize a / b = Q at *
  generalize c / d = S at *
  generalize a % b * d = R at *
  generalize c % d * b = T at *
  generalize b * d = M at *
  by_cases h : Q < S
  · have h3 : M * (Q + 1) ≤ M * S := Int.mul_le_mul_of_nonneg_left (by omega) hbd
    rw [Int.mul_add, Int.mul_one] at h3
    constructor
    · intro _; exact h
    · intro _; omega
  · have h3 : M * (S + 1) ≤ M * Q := Int.mul_le_mul_of_nonneg_left (by omega) hbd
    rw [Int.mul_add, Int.mul_one] at h3
    constructor
    · intro _; omega
    · intro _; omega
theorem lt_rest {a b c d : Int} (he : a / b = c / d) : (a * d < c * b) ↔ a % b * d < c % d * b := by
  have e1 := mul_parts a b d
  have e2 := mul_parts c d b
  rw [Int.mul_comm d b] at e2
  rw [e1, e2, he]
  generalize a % b * d = R
  generalize c % d * b = T
  generalize b * d * (c / d) = M
  omega
theorem ltQ_whole {a b c d : Int} (hb : 0 < b) (hd : 0 < d) (hne : a / b ≠ c / d) : ltQ (a, b) (c, d) = decide (a / b < c / d) := by
  unfold ltQ; exact decide_eq_decide.2 (lt_whole hb hd hne)
theorem ltQ_zero {a b c d : Int} (hb : 0 < b) (hd : 0 < d) (he : a / b = c / d) (hz : a % b = 0 ∨ c % d = 0) : ltQ (a, b) (c, d) = decide (a % b < c % d) := by
  unfold ltQ
  refine decide_eq_decide.2 ((lt_rest he).trans ?_)
  have ra0 := Int.emod_nonneg a (Int.ne_of_gt hb)
  have rc0 := Int.emod_nonneg c (Int.ne_of_gt hd)
  rcases hz with h | h
  · rw [h, Int.zero_mul]
    exact ⟨fun k => Int.not_le.1 fun hle => absurd (Int.mul_nonpos_of_nonpos_of_nonneg hle (Int.le_of_lt hb)) (by omega), fun k => Int.mul_pos k hb⟩
  · rw [h, Int.zero_mul]
    have := Int.mul_nonneg ra0 (Int.le_of_lt hd)
    constructor <;> intro _ <;> omega
/-- The lesser one of what remains has the greater reciprocal. -/
theorem ltQ_turn {a b c d : Int} (he : a / b = c / d) : ltQ (a, b) (c, d) = ltQ (d, c % d) (b, a % b) := by
  unfold ltQ
  refine decide_eq_decide.2 ((lt_rest he).trans ?_)
  dsimp only
  rw [Int.mul_comm d, Int.mul_comm b]

/-! ### Order -/
theorem mul_lt_cancel {a b m : Int} (hm : 0 < m) (h : a * m < b * m) : a < b := Int.lt_of_mul_lt_mul_right h (Int.le_of_lt hm)
theorem ltQ_trans {p q r : Int × Int} (hp : 0 < p.2) (hq : 0 < q.2) (hr : 0 < r.2) (h1 : ltQ p q = true) (h2 : ltQ q r = true) : ltQ p r = true := by
  rw [ltQ_iff] at h1 h2 ⊢
  have a := Int.mul_lt_mul_of_pos_right h1 hr
  have b := Int.mul_lt_mul_of_pos_right h2 hp
  refine mul_lt_cancel hq ?_
  have e1 : p.1 * r.2 * q.2 = p.1 * q.2 * r.2 := by rw [Int.mul_assoc, Int.mul_comm r.2, ← Int.mul_assoc]
  have e2 : q.1 * p.2 * r.2 = q.1 * r.2 * p.2 := by rw [Int.mul_assoc, Int.mul_comm p.2, ← Int.mul_assoc]
  have e3 : r.1 * q.2 * p.2 = r.1 * p.2 * q.2 := by rw [Int.mul_assoc, Int.mul_comm q.2, ← Int.mul_assoc]
  omega
/-- Not less is kept: what is not less than q is not less than anything less than or equal to q. -/
theorem ltQ_le {p q r : Int × Int} (hp : 0 < p.2) (hq : 0 < q.2) (hr : 0 < r.2) (h1 : ltQ p q = false) (h2 : ltQ q r = false) : ltQ p r = false := by
  rw [ltQ_no] at h1 h2 ⊢
  have a := Int.mul_le_mul_of_nonneg_right h1 (Int.le_of_lt hr)
  have b := Int.mul_le_mul_of_nonneg_right h2 (Int.le_of_lt hp)
  have e1 : p.1 * r.2 * q.2 = p.1 * q.2 * r.2 := by rw [Int.mul_assoc, Int.mul_comm r.2, ← Int.mul_assoc]
  have e2 : q.1 * p.2 * r.2 = q.1 * r.2 * p.2 := by rw [Int.mul_assoc, Int.mul_comm p.2, ← Int.mul_assoc]
  have e3 : r.1 * q.2 * p.2 = r.1 * p.2 * q.2 := by rw [Int.mul_assoc, Int.mul_comm q.2, ← Int.mul_assoc]
  have : r.1 * p.2 * q.2 ≤ p.1 * r.2 * q.2 := by omega
  exact Int.le_of_mul_le_mul_right this hq

/-! ### The line -/
/-- A place of the moments. -/
def plQ (a b : Int) : Int × Int := (plN (-a) a b, plN (b - a) a b)
theorem plV_Q (a b : Int) : plV a b = .tuple #[.int .i64 (plQ a b).1, .int .i64 (plQ a b).2, .bool (plOk a b)] := rfl
theorem plQ_ok {a b : Int} (h : plOk a b = true) (ha : -2665000000000000 ≤ a ∧ a ≤ 2665000000000000) (hb : -2665000000000000 ≤ b ∧ b ≤ 2665000000000000) : PlQ (plQ a b) := by
  obtain ⟨h0, h1, hne⟩ := plOk_iff.1 h
  have hg := plG_pos h
  have e1 : plN (-a) a b = (-a) / plG a b := by rw [plN_yes h]; exact Int.tdiv_eq_ediv_of_nonneg (by omega)
  have e2 : plN (b - a) a b = (b - a) / plG a b := by rw [plN_yes h]; exact Int.tdiv_eq_ediv_of_nonneg (by omega)
  obtain ⟨x, hx⟩ : ∃ x : Nat, (x : Int) = -a := ⟨(-a).toNat, by omega⟩
  obtain ⟨y, hy⟩ : ∃ y : Nat, (y : Int) = b - a := ⟨(b - a).toNat, by omega⟩
  have hgN : plG a b = (Nat.gcd x y : Nat) := by unfold plG; rw [← hx, ← hy]; simp
  have hgp : 0 < Nat.gcd x y := Nat.gcd_pos_of_pos_right _ (by omega)
  have f1 : plN (-a) a b = ((x / Nat.gcd x y : Nat) : Int) := by rw [e1, hgN, ← hx]; exact (Int.natCast_ediv _ _).symm
  have f2 : plN (b - a) a b = ((y / Nat.gcd x y : Nat) : Int) := by rw [e2, hgN, ← hy]; exact (Int.natCast_ediv _ _).symm
  have hxy : x ≤ y := by omega
  have hle : x / Nat.gcd x y ≤ y / Nat.gcd x y := Nat.div_le_div_right hxy
  have hyp : 0 < y / Nat.gcd x y := Nat.div_pos (Nat.le_of_dvd (by omega) (Nat.gcd_dvd_right _ _)) hgp
  have hyl : y / Nat.gcd x y ≤ y := Nat.div_le_self _ _
  refine ⟨?_, ?_, ?_, ?_, ?_⟩
  · show 0 ≤ plN (-a) a b; rw [f1]; exact Int.natCast_nonneg _
  · show plN (-a) a b ≤ plN (b - a) a b; rw [f1, f2]; omega
  · show 0 < plN (b - a) a b; rw [f2]; omega
  · show plN (b - a) a b ≤ _; rw [f2]; omega
  · show Nat.gcd (plN (-a) a b).natAbs (plN (b - a) a b).natAbs = 1
    rw [f1, f2]
    simp only [Int.natAbs_natCast]
    rw [Nat.gcd_div (Nat.gcd_dvd_left _ _) (Nat.gcd_dvd_right _ _), Nat.div_self hgp]

/-- Whether there is a place at joint k, and the place. -/
def plAt (js : List Jt) (ls : List Ld) (h v m d : Int) (k : Nat) : Bool := plOk (phA js ls h v m d k) (phB js ls h v m d k)
def plX (js : List Jt) (ls : List Ld) (h v m d : Int) (k : Nat) : Int × Int := plQ (phA js ls h v m d k) (phB js ls h v m d k)
theorem plX_ok {js : List Jt} {ls : List Ld} {h v m d : Int} {k : Nat} (hk : plAt js ls h v m d k = true) : PlQ (plX js ls h v m d k) := plQ_ok hk (phA_bd ..) (phB_bd ..)
/-- The first k places. -/
def lnTo (f : Nat → Int × Int) (k : Nat) : List (Int × Int) := (List.range k).map f
theorem lnTo_length (f : Nat → Int × Int) (k : Nat) : (lnTo f k).length = k := by simp [lnTo]
theorem lnTo_next (f : Nat → Int × Int) (k : Nat) : lnTo f (k + 1) = lnTo f k ++ [f k] := by unfold lnTo; rw [List.range_succ, List.map_append]; rfl
theorem lnTo_at (f : Nat → Int × Int) {k i : Nat} (h : i < k) : pt (lnTo f k) i = f i := by
  unfold pt lnTo
  rw [List.getD_eq_getElem?_getD, List.getElem?_map, List.getElem?_range h]
  rfl
/-- The line: the places at all joints, or none. -/
def lineV (js : List Jt) (ls : List Ld) (h v m d : Int) : List (Int × Int) := if allV js.length (plAt js ls h v m d) then lnTo (plX js ls h v m d) js.length else []
theorem lineV_yes {js : List Jt} {ls : List Ld} {h v m d : Int} (ha : allV js.length (plAt js ls h v m d) = true) : lineV js ls h v m d = lnTo (plX js ls h v m d) js.length := by unfold lineV; rw [if_pos ha]
theorem lineV_no {js : List Jt} {ls : List Ld} {h v m d : Int} (ha : allV js.length (plAt js ls h v m d) = false) : lineV js ls h v m d = [] := by unfold lineV; rw [if_neg (by rw [ha]; decide)]
/-- All places of a list are places. -/
def Pls (l : List (Int × Int)) : Prop := ∀ i, i < l.length → PlQ (pt l i)
theorem lineV_pls (js : List Jt) (ls : List Ld) (h v m d : Int) : Pls (lineV js ls h v m d) := by
  cases ha : allV js.length (plAt js ls h v m d)
  · rw [lineV_no ha]; intro i hi; simp at hi
  · rw [lineV_yes ha]
    intro i hi
    rw [lnTo_length] at hi
    rw [lnTo_at _ hi]
    exact plX_ok (allV_iff.1 ha i hi)
theorem lineV_len (js : List Jt) (ls : List Ld) (h v m d : Int) : (lineV js ls h v m d).length ≤ js.length := by
  unfold lineV; split
  · rw [lnTo_length]; exact Nat.le_refl _
  · exact Nat.zero_le _
/-- Where there is a line, the arch bears the loads: it has eight joints at most. -/
theorem lineV_small (js : List Jt) (ls : List Ld) (h v m d : Int) : (lineV js ls h v m d).length ≤ 8 := by
  by_cases h0 : js.length = 0
  · have := lineV_len js ls h v m d; omega
  cases ha : allV js.length (plAt js ls h v m d)
  · rw [lineV_no ha]; exact Nat.zero_le _
  · have h1 := allV_iff.1 ha 0 (by omega)
    cases hk : phOk js ls h v m d (0 : Nat)
    · unfold plAt at h1
      rw [phA_no hk, phB_no hk] at h1
      exact absurd h1 (by decide)
    · have h38 := arch_size (loadsV_iff.1 (phOk_iff.1 hk).1).1
      have := lineV_len js ls h v m d
      omega

/-! ### The margin -/
/-- The least one of 1 and the first k places and what they miss. -/
def mrTo (l : List (Int × Int)) : Nat → Int × Int
  | 0 => (1, 1)
  | k + 1 => if ltQ (minQ (pt l k)) (mrTo l k) then minQ (pt l k) else mrTo l k
theorem mrTo_yes {l : List (Int × Int)} {k : Nat} (h : ltQ (minQ (pt l k)) (mrTo l k) = true) : mrTo l (k + 1) = minQ (pt l k) := by
  show (if ltQ (minQ (pt l k)) (mrTo l k) then _ else _) = _; rw [if_pos h]
theorem mrTo_no {l : List (Int × Int)} {k : Nat} (h : ltQ (minQ (pt l k)) (mrTo l k) = false) : mrTo l (k + 1) = mrTo l k := by
  show (if ltQ (minQ (pt l k)) (mrTo l k) then _ else _) = _; rw [if_neg (by rw [h]; decide)]
theorem mrTo_ok {l : List (Int × Int)} (hl : Pls l) : ∀ k, k ≤ l.length → PlQ (mrTo l k)
  | 0, _ => ⟨by show (0 : Int) ≤ 1; decide, by show (1 : Int) ≤ 1; decide, by show (0 : Int) < 1; decide, by show (1 : Int) ≤ 6000000000000000; decide, by show Nat.gcd 1 1 = 1; decide⟩
  | k + 1, h => by
    cases hc : ltQ (minQ (pt l k)) (mrTo l k)
    · rw [mrTo_no hc]; exact mrTo_ok hl k (by omega)
    · rw [mrTo_yes hc]; exact (hl k (by omega)).min.1
theorem mrTo_half {l : List (Int × Int)} (hl : Pls l) : ∀ k, 0 < k → k ≤ l.length → 2 * (mrTo l k).1 ≤ (mrTo l k).2
  | 0, h, _ => absurd h (by omega)
  | k + 1, _, h => by
    have hm := (hl k (by omega)).min
    cases hc : ltQ (minQ (pt l k)) (mrTo l k)
    · rw [mrTo_no hc]
      by_cases hk : k = 0
      · subst hk
        rw [ltQ_no] at hc
        have hp := hm.1.pos
        have e : mrTo l 0 = (1, 1) := rfl
        rw [e] at hc
        dsimp only at hc
        omega
      · exact mrTo_half hl k (by omega) (by omega)
    · rw [mrTo_yes hc]; exact hm.2
/-- It is not more than any of them. -/
theorem mrTo_le {l : List (Int × Int)} (hl : Pls l) : ∀ k, k ≤ l.length → ∀ i, i < k → ltQ (minQ (pt l i)) (mrTo l k) = false
  | 0, _, i, hi => absurd hi (Nat.not_lt_zero i)
  | k + 1, h, i, hi => by
    have pk := (hl k (by omega)).min.1.pos
    have pm := (mrTo_ok hl k (by omega)).pos
    have pI := (hl i (by omega)).min.1.pos
    cases hc : ltQ (minQ (pt l k)) (mrTo l k)
    · rw [mrTo_no hc]
      by_cases e : i = k
      · rw [e]; exact hc
      · exact mrTo_le hl k (by omega) i (by omega)
    · rw [mrTo_yes hc]
      by_cases e : i = k
      · rw [e, ltQ_no]; exact Int.le_refl _
      · have h1 := mrTo_le hl k (by omega) i (by omega)
        refine ltQ_le pI pm pk h1 ?_
        rw [ltQ_no]
        rw [ltQ_iff] at hc
        exact Int.le_of_lt hc
/-- It is 1, or one of them. -/
theorem mrTo_in {l : List (Int × Int)} : ∀ k, mrTo l k = (1, 1) ∨ ∃ i, i < k ∧ mrTo l k = minQ (pt l i)
  | 0 => .inl rfl
  | k + 1 => by
    cases hc : ltQ (minQ (pt l k)) (mrTo l k)
    · rw [mrTo_no hc]
      rcases mrTo_in (l := l) k with h | ⟨i, hi, h⟩
      · exact .inl h
      · exact .inr ⟨i, by omega, h⟩
    · rw [mrTo_yes hc]; exact .inr ⟨k, by omega, rfl⟩
def mrV (l : List (Int × Int)) : Int × Int := mrTo l l.length
/-- What MarginOf answers: zeros where there is no line. -/
def maQ (l : List (Int × Int)) : Int × Int := if l.length = 0 then (0, 0) else mrV l
def maOk (l : List (Int × Int)) : Bool := !decide (l.length = 0)
theorem maQ_no {l : List (Int × Int)} (h : l.length = 0) : maQ l = (0, 0) ∧ maOk l = false := ⟨if_pos h, by unfold maOk; rw [decide_eq_true h]; rfl⟩
theorem maQ_yes {l : List (Int × Int)} (h : ¬ l.length = 0) : maQ l = mrTo l l.length ∧ maOk l = true := ⟨if_neg h, by unfold maOk; rw [decide_eq_false h]; rfl⟩

/-! ### The first best one -/
/-- The first one of the first k that is as little as any. -/
def fbTo (l : List (Int × Int)) : Nat → Int × Int
  | 0 => (0, 0)
  | k + 1 => if k = 0 ∨ ltQ (pt l k) (fbTo l k) = true then pt l k else fbTo l k
theorem fbTo_first (l : List (Int × Int)) : fbTo l 1 = pt l 0 := rfl
theorem fbTo_yes {l : List (Int × Int)} {k : Nat} (h : ltQ (pt l k) (fbTo l k) = true) : fbTo l (k + 1) = pt l k := if_pos (.inr h)
theorem fbTo_no {l : List (Int × Int)} {k : Nat} (h0 : k ≠ 0) (h : ltQ (pt l k) (fbTo l k) = false) : fbTo l (k + 1) = fbTo l k := if_neg (fun hc => hc.elim h0 (fun h' => by rw [h] at h'; cases h'))
theorem fbTo_in {l : List (Int × Int)} : ∀ k, 0 < k → ∃ i, i < k ∧ fbTo l k = pt l i
  | 0, h => absurd h (by omega)
  | k + 1, _ => by
    by_cases h0 : k = 0
    · subst h0; exact ⟨0, by omega, rfl⟩
    cases hc : ltQ (pt l k) (fbTo l k)
    · rw [fbTo_no h0 hc]
      obtain ⟨i, hi, e⟩ := fbTo_in (l := l) k (by omega)
      exact ⟨i, by omega, e⟩
    · exact ⟨k, by omega, fbTo_yes hc⟩
theorem fbTo_congr {l l' : List (Int × Int)} : ∀ k, (∀ i, i < k → pt l i = pt l' i) → fbTo l k = fbTo l' k
  | 0, _ => rfl
  | k + 1, h => by
    have e := fbTo_congr k (fun i hi => h i (by omega))
    show (if k = 0 ∨ ltQ (pt l k) (fbTo l k) = true then _ else _) = (if k = 0 ∨ ltQ (pt l' k) (fbTo l' k) = true then _ else _)
    rw [e, h k (by omega)]
/-- Places and what they miss, one after the other. -/
def dsTo (l : List (Int × Int)) (k : Nat) : List (Int × Int) := (List.range k).flatMap fun i => [pt l i, misQ (pt l i)]
theorem dsTo_next (l : List (Int × Int)) (k : Nat) : dsTo l (k + 1) = dsTo l k ++ [pt l k, misQ (pt l k)] := by
  unfold dsTo; rw [List.range_succ, List.flatMap_append]; rfl
theorem dsTo_length (l : List (Int × Int)) (k : Nat) : (dsTo l k).length = 2 * k := by
  induction k with
  | zero => rfl
  | succ k ih => rw [dsTo_next, List.length_append, ih]; simp; omega
theorem dsTo_at (l : List (Int × Int)) (k i : Nat) (h : i < k) : pt (dsTo l k) (2 * i) = pt l i ∧ pt (dsTo l k) (2 * i + 1) = misQ (pt l i) := by
  induction k with
  | zero => omega
  | succ k ih =>
    rw [dsTo_next]
    unfold pt at *
    have hl := dsTo_length l k
    by_cases hik : i < k
    · obtain ⟨a, b⟩ := ih hik
      refine ⟨?_, ?_⟩
      · rw [List.getD_eq_getElem?_getD, List.getElem?_append_left (by omega), ← List.getD_eq_getElem?_getD, a]
      · rw [List.getD_eq_getElem?_getD, List.getElem?_append_left (by omega), ← List.getD_eq_getElem?_getD, b]
    · obtain rfl : i = k := by omega
      refine ⟨?_, ?_⟩
      · rw [List.getD_eq_getElem?_getD, List.getElem?_append_right (by omega), hl, Nat.sub_self]; rfl
      · rw [List.getD_eq_getElem?_getD, List.getElem?_append_right (by omega), hl, show 2 * i + 1 - 2 * i = 1 by omega]; rfl
theorem ltQ_self (q : Int × Int) : ltQ q q = false := by rw [ltQ_no]; exact Int.le_refl _
theorem ltQ_mis {q : Int × Int} (hp : 0 < q.2) : (ltQ (misQ q) q = true ↔ q.2 - q.1 < q.1) := by
  rw [ltQ_iff]
  unfold misQ
  dsimp only
  exact ⟨fun h => mul_lt_cancel hp h, fun h => Int.mul_lt_mul_of_pos_right h hp⟩
theorem ltQ_mis' {q : Int × Int} (hp : 0 < q.2) : (ltQ q (misQ q) = true ↔ q.1 < q.2 - q.1) := by
  rw [ltQ_iff]
  unfold misQ
  dsimp only
  exact ⟨fun h => mul_lt_cancel hp h, fun h => Int.mul_lt_mul_of_pos_right h hp⟩
/-- Two steps of the first best one are one step of the margin. -/
theorem two_steps {q b : Int × Int} (h : PlQ q) (hb : 0 < b.2) : (if ltQ (misQ q) (if ltQ q b then q else b) then misQ q else if ltQ q b then q else b) = if ltQ (minQ q) b then minQ q else b := by
  have hp := h.pos
  by_cases hc : q.1 ≤ q.2 - q.1
  · have em : minQ q = q := by unfold minQ; rw [if_pos hc]
    rw [em]
    cases hq : ltQ q b
    · have : ltQ (misQ q) b = false := by
        refine ltQ_le (q := q) hp hp hb ?_ hq
        rw [← Bool.not_eq_true, ltQ_mis hp]; omega
      simp [this]
    · have : ltQ (misQ q) q = false := by rw [← Bool.not_eq_true, ltQ_mis hp]; omega
      simp [this]
  · have em : minQ q = misQ q := by unfold minQ misQ; rw [if_neg hc]
    rw [em]
    have h1 : ltQ (misQ q) q = true := (ltQ_mis hp).2 (by omega)
    cases hq : ltQ q b
    · simp
    · have : ltQ (misQ q) b = true := ltQ_trans (q := q) hp hp hb h1 hq
      simp [h1, this]
theorem fb_ds {l : List (Int × Int)} (hl : Pls l) : ∀ k, 0 < k → k ≤ l.length → fbTo (dsTo l l.length) (2 * k) = mrTo l k
  | 0, h, _ => absurd h (by omega)
  | k + 1, _, h => by
    have hq := hl k (by omega)
    obtain ⟨d0, d1⟩ := dsTo_at l l.length k (by omega)
    have hm := hq.min
    by_cases hk : k = 0
    · subst hk
      have e1 : fbTo (dsTo l l.length) 1 = pt l 0 := d0
      have e2 : mrTo l 1 = minQ (pt l 0) := mrTo_yes (by
        rw [ltQ_iff]
        show (minQ (pt l 0)).1 * 1 < 1 * (minQ (pt l 0)).2
        have := hm.1.pos; omega)
      rw [e2]
      have d1' : pt (dsTo l l.length) 1 = misQ (pt l 0) := d1
      show (if 1 = 0 ∨ ltQ (pt (dsTo l l.length) 1) (fbTo (dsTo l l.length) 1) = true then pt (dsTo l l.length) 1 else fbTo (dsTo l l.length) 1) = _
      rw [d1', e1]
      by_cases hc : (pt l 0).1 ≤ (pt l 0).2 - (pt l 0).1
      · have : ltQ (misQ (pt l 0)) (pt l 0) = false := by rw [← Bool.not_eq_true, ltQ_mis hq.pos]; omega
        rw [this]
        unfold minQ
        rw [if_pos hc]
        simp
      · have : ltQ (misQ (pt l 0)) (pt l 0) = true := (ltQ_mis hq.pos).2 (by omega)
        rw [this]
        unfold minQ misQ
        rw [if_neg hc]
        simp
    · have ih := fb_ds hl k (by omega) (by omega)
      have hb := (mrTo_ok hl k (by omega)).pos
      have s1 : fbTo (dsTo l l.length) (2 * k + 1) = if ltQ (pt l k) (mrTo l k) then pt l k else mrTo l k := by
        show (if 2 * k = 0 ∨ ltQ (pt (dsTo l l.length) (2 * k)) (fbTo (dsTo l l.length) (2 * k)) = true then pt (dsTo l l.length) (2 * k) else fbTo (dsTo l l.length) (2 * k)) = _
        rw [d0, ih]
        simp [show ¬ 2 * k = 0 by omega, hk]
      have s2 : fbTo (dsTo l l.length) (2 * k + 1 + 1) = if ltQ (misQ (pt l k)) (fbTo (dsTo l l.length) (2 * k + 1)) then misQ (pt l k) else fbTo (dsTo l l.length) (2 * k + 1) := by
        show (if 2 * k + 1 = 0 ∨ ltQ (pt (dsTo l l.length) (2 * k + 1)) (fbTo (dsTo l l.length) (2 * k + 1)) = true then pt (dsTo l l.length) (2 * k + 1) else fbTo (dsTo l l.length) (2 * k + 1)) = _
        rw [d1]
        simp
      show fbTo (dsTo l l.length) (2 * k + 1 + 1) = (if ltQ (minQ (pt l k)) (mrTo l k) then minQ (pt l k) else mrTo l k)
      rw [s2, s1]
      exact two_steps hq hb

/-! ### The middle, the highest joint, the touched joints -/
/-- What InMiddle answers. -/
def inmV (l : List (Int × Int)) (n : Int) : Bool := decide (2 ≤ n ∧ n ≤ 100) && (maOk l && decide ((maQ l).2 ≤ (maQ l).1 * n))
def hiTo (l : List (Int × Int)) : Nat → Int
  | 0 => -1
  | k + 1 => if hiTo l k < 0 ∨ ltQ (pt l (hiTo l k).toNat) (pt l k) = true then (k : Int) else hiTo l k
theorem hiTo_yes {l : List (Int × Int)} {k : Nat} (h : hiTo l k < 0 ∨ ltQ (pt l (hiTo l k).toNat) (pt l k) = true) : hiTo l (k + 1) = k := if_pos h
theorem hiTo_no {l : List (Int × Int)} {k : Nat} (h0 : ¬ hiTo l k < 0) (h : ltQ (pt l (hiTo l k).toNat) (pt l k) = false) : hiTo l (k + 1) = hiTo l k := if_neg (fun hc => hc.elim h0 (fun h' => by rw [h] at h'; cases h'))
theorem hiTo_bd (l : List (Int × Int)) : ∀ k, -1 ≤ hiTo l k ∧ hiTo l k < k ∧ (0 < k → 0 ≤ hiTo l k)
  | 0 => ⟨by show (-1 : Int) ≤ -1; decide, by show (-1 : Int) < 0; decide, fun h => absurd h (by omega)⟩
  | k + 1 => by
    have ih := hiTo_bd l k
    by_cases h0 : hiTo l k < 0
    · rw [hiTo_yes (.inl h0)]; omega
    cases hc : ltQ (pt l (hiTo l k).toNat) (pt l k)
    · rw [hiTo_no h0 hc]; omega
    · rw [hiTo_yes (.inr hc)]; omega
/-- What HighestJoint answers. -/
def hiV (l : List (Int × Int)) : Int := hiTo l l.length
/-- Whether a place is at an end. -/
def endQ (q : Int × Int) : Bool := decide (q.1 = 0) || decide (q.1 = q.2)
theorem endQ_iff {q : Int × Int} : endQ q = true ↔ q.1 = 0 ∨ q.1 = q.2 := by unfold endQ; simp
/-- What TouchedJoints answers of the first k. -/
def tjTo (l : List (Int × Int)) : Nat → List Int
  | 0 => []
  | k + 1 => if endQ (pt l k) then tjTo l k ++ [(k : Int)] else tjTo l k
theorem tjTo_yes {l : List (Int × Int)} {k : Nat} (h : endQ (pt l k) = true) : tjTo l (k + 1) = tjTo l k ++ [(k : Int)] := if_pos h
theorem tjTo_no {l : List (Int × Int)} {k : Nat} (h : endQ (pt l k) = false) : tjTo l (k + 1) = tjTo l k := if_neg (by rw [h]; decide)
theorem tjTo_le (l : List (Int × Int)) : ∀ k, (tjTo l k).length ≤ k
  | 0 => Nat.le_refl _
  | k + 1 => by
    have ih := tjTo_le l k
    cases hc : endQ (pt l k)
    · rw [tjTo_no hc]; omega
    · rw [tjTo_yes hc, List.length_append]; simp; exact ih
theorem tjTo_mem (l : List (Int × Int)) (x : Int) : ∀ k, x ∈ tjTo l k ↔ ∃ i : Nat, i < k ∧ x = i ∧ endQ (pt l i) = true
  | 0 => ⟨fun h => absurd h (by simp [tjTo]), fun ⟨i, hi, _⟩ => absurd hi (Nat.not_lt_zero i)⟩
  | k + 1 => by
    have ih := tjTo_mem l x k
    cases hc : endQ (pt l k)
    · rw [tjTo_no hc, ih]
      constructor
      · rintro ⟨i, hi, e, h⟩; exact ⟨i, by omega, e, h⟩
      · rintro ⟨i, hi, e, h⟩
        by_cases hik : i = k
        · subst hik; rw [hc] at h; cases h
        · exact ⟨i, by omega, e, h⟩
    · rw [tjTo_yes hc, List.mem_append, ih]
      constructor
      · rintro (⟨i, hi, e, h⟩ | h)
        · exact ⟨i, by omega, e, h⟩
        · exact ⟨k, by omega, by simpa using h, hc⟩
      · rintro ⟨i, hi, e, h⟩
        by_cases hik : i = k
        · subst hik; exact .inr (by simpa using e)
        · exact .inl ⟨i, by omega, e, h⟩
def tjV (l : List (Int × Int)) : List Int := tjTo l l.length

/-! ### The law of lines -/
/-- Nothing is left beside the line just if it touches a joint. -/
theorem mr_zero {l : List (Int × Int)} (hl : Pls l) : (mrV l).1 = 0 ↔ 0 < (tjV l).length := by
  have hex : (mrV l).1 = 0 ↔ ∃ i, i < l.length ∧ endQ (pt l i) = true := by
    constructor
    · intro hz
      rcases mrTo_in (l := l) l.length with h | ⟨i, hi, h⟩
      · unfold mrV at hz; rw [h] at hz; cases hz
      · refine ⟨i, hi, endQ_iff.2 ?_⟩
        unfold mrV at hz
        rw [h] at hz
        unfold minQ at hz
        dsimp only at hz
        split at hz
        · exact .inl hz
        · exact .inr (by omega)
    · rintro ⟨i, hi, he⟩
      have h1 := mrTo_le hl l.length (Nat.le_refl _) i hi
      have ok := mrTo_ok hl l.length (Nat.le_refl _)
      have pI := hl i hi
      have hz : (minQ (pt l i)).1 = 0 := by
        unfold minQ
        dsimp only
        have := pI.lo; have := pI.hi; have := pI.pos
        rcases endQ_iff.1 he with h | h
        · rw [if_pos (by omega)]; exact h
        · rw [if_neg (by omega)]; omega
      rw [ltQ_no, hz, Int.zero_mul] at h1
      have h2 := ok.lo
      have hp := pI.min.1.pos
      unfold mrV
      rcases Int.lt_or_eq_of_le h2 with h3 | h3
      · have := Int.mul_pos h3 hp; omega
      · exact h3.symm
  rw [hex]
  constructor
  · rintro ⟨i, hi, he⟩
    have := (tjTo_mem l i l.length).2 ⟨i, hi, rfl, he⟩
    exact List.length_pos_of_mem this
  · intro h
    obtain ⟨x, hx⟩ := List.exists_mem_of_length_pos h
    obtain ⟨i, hi, -, he⟩ := (tjTo_mem l x l.length).1 hx
    exact ⟨i, hi, he⟩
theorem inm_next {l : List (Int × Int)} (hl : Pls l) (n : Int) (hn : n + 1 ≤ 100) (h : inmV l n = true) : inmV l (n + 1) = true := by
  unfold inmV at *
  simp only [Bool.and_eq_true, decide_eq_true_eq] at *
  obtain ⟨⟨h2, -⟩, ho, hm⟩ := h
  refine ⟨by omega, ho, ?_⟩
  by_cases h0 : l.length = 0
  · rw [(maQ_no h0).2] at ho; cases ho
  rw [(maQ_yes h0).1] at hm ⊢
  have := (mrTo_ok hl l.length (Nat.le_refl _)).lo
  rw [Int.mul_add, Int.mul_one]
  omega
theorem inm_hundred {l : List (Int × Int)} (h0 : 0 < l.length) (h : (mrV l).2 ≤ (mrV l).1 * 100) : inmV l 100 = true := by
  unfold inmV
  have h0 : ¬ l.length = 0 := by omega
  rw [(maQ_yes h0).1, (maQ_yes h0).2]
  simp only [Bool.and_eq_true, decide_eq_true_eq]
  exact ⟨by decide, trivial, h⟩
end Go.Proofs.Ytbmlcfdilopmgaa

/- Quotients: the contracts of reciprocal, missing and isLess of the program, of l14Less of the model. -/
namespace Go.Proofs.Ytbmlcfdilopmgaa
set_option maxRecDepth 100000
set_option linter.unusedVariables false
set_option linter.unusedSimpArgs false
open Go.ChangeShapes Go.WideShapes Go.ChangeAt Go.RowKit

theorem quo_in {a b : Int} (ha : 0 ≤ a) (hb : 0 < b) (hl : a ≤ 6000000000000000) : a.tdiv b = a / b ∧ 0 ≤ a / b ∧ a / b ≤ 6000000000000000 ∧ a.tmod b = a % b ∧ 0 ≤ a % b ∧ a % b < b := by
  refine ⟨Int.tdiv_eq_ediv_of_nonneg ha, Int.ediv_nonneg ha (Int.le_of_lt hb), Int.le_trans (Int.ediv_le_self _ ha) hl, Int.tmod_eq_emod_of_nonneg ha, Int.emod_nonneg _ (by omega), Int.emod_lt_of_pos _ hb⟩

theorem implRecip (n d : Int) (w : World) :
    Calls Try.prog 62 #[.agg #[.int .i64 n, .int .i64 d]] w fun e w' => e = .returned (.agg #[.int .i64 d, .int .i64 n]) ∧ Below w.heap.size w w' := by
  go_enter Try.func62, Try.ntmps62
  go_wp2
  refine bodyPost_ret (v := .agg #[.int .i64 d, .int .i64 n]) (by simp [results, Try.results62, go_sem]) rfl ⟨rfl, ?_⟩
  repeat (first | exact Below.refl _ _ | refine Below.alloc ?_ (by simp <;> omega) _ | refine Below.setCell ?_ (by simp <;> omega) _)
theorem implMissing (n d : Int) (w : World) (h0 : 0 ≤ n) (h1 : n ≤ d) (h2 : d ≤ 6000000000000000) :
    Calls Try.prog 60 #[.agg #[.int .i64 n, .int .i64 d]] w fun e w' => e = .returned (.agg #[.int .i64 (d - n), .int .i64 d]) ∧ Below w.heap.size w w' := by
  go_enter Try.func60, Try.ntmps60
  go_wp2
  refine bodyPost_ret (v := .agg #[.int .i64 (d - n), .int .i64 d]) (by simp [results, Try.results60, go_sem]) rfl ⟨rfl, ?_⟩
  repeat (first | exact Below.refl _ _ | refine Below.alloc ?_ (by simp <;> omega) _ | refine Below.setCell ?_ (by simp <;> omega) _)


/-- A scope that begins with its label: every pass ends, or comes back to the label with less. -/
theorem wp_scope_again {P : Program} {a : Act} {w : World} {Q : Exit → Act → World → Prop} {rest : Code} (l : Nat) (J : Act → World → Prop) (μ : Act → World → Nat) (h0 : J a w)
    (pass : ∀ a w, J a w → rest.wp P (Exit.jump l (fun a' w' => J a' w' ∧ μ a' w' < μ a w) Q) a w) : (Code.scope (Code.seq (Code.label l) rest)).wp P Q a w := by
  refine wp_scope_jumps (rest := .seq .skip rest) l J μ (by simp [findLabel]) (wp_seq (wp_label ?_)) (fun a w hj => wp_seq (wp_skip (pass a w hj)))
  refine wp_mono (pass a w h0) ?_
  intro e a' w' h
  cases e <;> first | exact h | exact ⟨h.1, h.2.1⟩
/-- The boxes of two quotients. -/
def TwoQ (W : World) (H : Nat) (p q r s : Int) : Prop :=
  W.cell? ⟨H, 0, none⟩ = some (.int .i64 p) ∧ W.cell? ⟨H, 1, none⟩ = some (.int .i64 q) ∧ W.cell? ⟨H + 1, 0, none⟩ = some (.int .i64 r) ∧ W.cell? ⟨H + 1, 1, none⟩ = some (.int .i64 s) ∧
  W.frozen? ⟨H, 0, none⟩ = false ∧ W.frozen? ⟨H, 1, none⟩ = false ∧ W.frozen? ⟨H + 1, 0, none⟩ = false ∧ W.frozen? ⟨H + 1, 1, none⟩ = false
def dens (W : World) (H : Nat) : Nat := (intOf ((W.cell? ⟨H, 1, none⟩).getD undef)).toNat + (intOf ((W.cell? ⟨H + 1, 1, none⟩).getD undef)).toNat
theorem TwoQ.kept {w w' : World} {H : Nat} {p q r s : Int} (h : TwoQ w H p q r s) (hb : Below w.heap.size w w') : TwoQ w' H p q r s := by
  obtain ⟨c0, c1, c2, c3, z0, z1, z2, z3⟩ := h
  have l0 := cell_block_lt c0
  have l2 := cell_block_lt c2
  exact ⟨cell_kept c0 hb, cell_kept c1 hb, cell_kept c2 hb, cell_kept c3 hb, (hb.frozen (p := ⟨H, 0, none⟩) l0).trans z0, (hb.frozen (p := ⟨H, 1, none⟩) l0).trans z1, (hb.frozen (p := ⟨H + 1, 0, none⟩) l2).trans z2, (hb.frozen (p := ⟨H + 1, 1, none⟩) l2).trans z3⟩
theorem TwoQ.after {w w' : World} {H n : Nat} {p q r s : Int} (h : TwoQ w H p q r s) (hb : Below (w.drewN n).heap.size (w.drewN n) w') : TwoQ w' H p q r s := h.kept ((below_drewN (Below.refl w.heap.size w) n).trans hb)
theorem TwoQ.dens {W : World} {H : Nat} {p q r s : Int} (h : TwoQ W H p q r s) : dens W H = q.toNat + s.toNat := by unfold Proofs.Ytbmlcfdilopmgaa.dens; rw [h.2.1, h.2.2.2.1]; rfl

set_option maxHeartbeats 8000000 in
theorem implLess (a b c d : Int) (w : World) (ha : 0 ≤ a ∧ a ≤ 6000000000000000) (hb : 0 < b ∧ b ≤ 6000000000000000) (hc : 0 ≤ c ∧ c ≤ 6000000000000000) (hd : 0 < d ∧ d ≤ 6000000000000000) :
    Calls Try.prog 36 #[.agg #[.int .i64 a, .int .i64 b], .agg #[.int .i64 c, .int .i64 d]] w fun e w' => e = .returned (.bool (ltQ (a, b) (c, d))) ∧ Below w.heap.size w w' := by
  obtain ⟨V, hV⟩ : ∃ V, ltQ (a, b) (c, d) = V := ⟨_, rfl⟩
  rw [hV]
  have H0 := Lib.hid (And.intro ha (And.intro hb (And.intro hc (And.intro hd hV))))
  clear ha hb hc hd hV
  have HB0 := Lib.hid (((Below.refl w.heap.size w).alloc (Nat.le_refl _) (.cells #[.int .i64 a, .int .i64 b] 73)).alloc (by simp) (.cells #[.int .i64 c, .int .i64 d] 73))
  have HT0 : RowKit.Hid (TwoQ ((w.alloc (.cells #[.int .i64 a, .int .i64 b] 73)).alloc (.cells #[.int .i64 c, .int .i64 d] 73)) w.heap.size a b c d) := Lib.hid ⟨by go_simp, by go_simp, by go_simp, by go_simp, by go_simp, by go_simp, by go_simp, by go_simp⟩
  go_enter Try.func36, Try.ntmps36
  go_wp2_with fail
  refine wp_scope_again 0 (fun a' w' => ∃ (p q r s : Int) (u5 u6 u7 u8 u9 u10 u11 u12 u13 u14 u15 u16 u17 u18 u19 u20 u21 u22 u23 u24 u25 u26 u27 u28 u29 u30 u31 u32 u33 u34 u35 u36 u37 u38 u39 u40 u41 u42 u43 u44 u45 u46 u47 u48 u49 u50 u51 : Value), a' = { tmps := #[.agg #[.int .i64 a, .int .i64 b], .agg #[.int .i64 c, .int .i64 d], .pointer (some ⟨w.heap.size, 0, none⟩), .pointer (some ⟨w.heap.size + 1, 0, none⟩), .bool false, u5, u6, u7, u8, u9, u10, u11, u12, u13, u14, u15, u16, u17, u18, u19, u20, u21, u22, u23, u24, u25, u26, u27, u28, u29, u30, u31, u32, u33, u34, u35, u36, u37, u38, u39, u40, u41, u42, u43, u44, u45, u46, u47, u48, u49, u50, u51], defers := [] } ∧
      (0 ≤ p ∧ p ≤ 6000000000000000) ∧ (0 < q ∧ q ≤ 6000000000000000) ∧ (0 ≤ r ∧ r ≤ 6000000000000000) ∧ (0 < s ∧ s ≤ 6000000000000000) ∧ ltQ (p, q) (r, s) = V ∧ Below w.heap.size w w' ∧ TwoQ w' w.heap.size p q r s) (fun _ w' => dens w' w.heap.size) ⟨a, b, c, d, _, _, _, _, _, _, _, _, _, _, _, _, _, _, _, _, _, _, _, _, _, _, _, _, _, _, _, _, _, _, _, _, _, _, _, _, _, _, _, _, _, _, _, _, _, _, _, rfl, H0.out.1, H0.out.2.1, H0.out.2.2.1, H0.out.2.2.2.1, H0.out.2.2.2.2, HB0.out, HT0.out⟩ ?_
  clear HB0 HT0 H0
  rintro a' wr ⟨p, q, r, s, u5, u6, u7, u8, u9, u10, u11, u12, u13, u14, u15, u16, u17, u18, u19, u20, u21, u22, u23, u24, u25, u26, u27, u28, u29, u30, u31, u32, u33, u34, u35, u36, u37, u38, u39, u40, u41, u42, u43, u44, u45, u46, u47, u48, u49, u50, u51, rfl, hp, hq, hr, hs, hv, hbw, htq⟩
  have hde := htq.dens
  rw [hde]
  obtain ⟨c0, c1, c2, c3, z0, z1, z2, z3⟩ := htq
  have HB := Lib.hid hbw
  obtain ⟨e1, x0, x1, e2, y0, y1⟩ := quo_in hp.1 hq.1 hp.2
  obtain ⟨f1, u0, u1, f2, v0, v1⟩ := quo_in hr.1 hs.1 hr.2
  have hw := ltQ_whole (a := p) (b := q) (c := r) (d := s) hq.1 hs.1
  have hz := ltQ_zero (a := p) (b := q) (c := r) (d := s) hq.1 hs.1
  have ht := ltQ_turn (a := p) (b := q) (c := r) (d := s)
  rw [hv] at hw hz ht
  generalize p / q = X at *
  generalize r / s = U at *
  generalize p % q = Y at *
  generalize r % s = Z at *
  have HW := Lib.hid hw
  have HZ := Lib.hid hz
  have HT := Lib.hid ht
  have q0 : ¬ q = 0 := by omega
  have s0 : ¬ s = 0 := by omega
  have wX : IntKind.i64.wrap X = X := IntWalk.i64_in _ (by omega)
  have wU : IntKind.i64.wrap U = U := IntWalk.i64_in _ (by omega)
  have wY : IntKind.i64.wrap Y = Y := IntWalk.i64_in _ (by omega)
  have wZ : IntKind.i64.wrap Z = Z := IntWalk.i64_in _ (by omega)
  have hwl : w.heap.size < wr.heap.size := cell_block_lt c0
  have hwl1 : w.heap.size + 1 < wr.heap.size := cell_block_lt c2
  clear hbw hv hw hz ht hde
  by_cases hxu : X = U
  · have hne : (X != U) = false := by simp [hxu]
    go_upto_region 1 with (fail)
    go_quiet (fail)
    go_upto_region 4 with (fail)
    go_region
    generalize hwz : (((wr.drewN (nq + 1)).setCell { block := w.heap.size, off := 0 } (Value.int IntKind.i64 Y)).setCell { block := w.heap.size + 1, off := 0 } (Value.int IntKind.i64 Z)) = wz
    have HT1 : RowKit.Hid (TwoQ wz w.heap.size Y q Z s) := Lib.hid (by subst hwz; exact ⟨by go_simp, by go_simp, by go_simp, by go_simp, by go_simp, by go_simp, by go_simp, by go_simp⟩)
    have HB1 : RowKit.Hid (Below w.heap.size w wz) := Lib.hid (by subst hwz; exact ((below_drewN HB.out _).setCell (by simp) _).setCell (by simp) _)
    have hzs : wz.heap.size = wr.heap.size := by subst hwz; simp
    rw [← hzs] at hwl hwl1
    clear hwz hzs c0 c1 c2 c3 z0 z1 z2 z3 HB
    obtain ⟨c0, c1, c2, c3, z0, z1, z2, z3⟩ := HT1.out
    by_cases hy0 : Y = 0
    · have HV := Lib.hid (HZ.out hxu (.inl hy0))
      have hy1 : (Y == 0) = true := by simp [hy0]
      go_wp2_with fail
      simp only [Exit.jump]
      go_ret
      exact ⟨ret_bool (by rw [HV.out, hy0]), HB1.out⟩
    · have hy1 : (Y == 0) = false := by simp [hy0]
      by_cases hz0 : Z = 0
      · have HV := Lib.hid (HZ.out hxu (.inr hz0))
        have hz1 : (Z == 0) = true := by simp [hz0]
        go_wp2_with fail
        simp only [Exit.jump]
        go_ret
        exact ⟨ret_bool (by rw [HV.out, hz0]), HB1.out⟩
      · have hz1 : (Z == 0) = false := by simp [hz0]
        have HV := Lib.hid (HT.out hxu)
        go_upto_region 7 with (fail)
        go_region_with (go_at_call 62; refine (implRecip _ _ _).mono ?_; rintro e wy ⟨rfl, hy⟩; have HT1 : RowKit.Hid (TwoQ wy w.heap.size Y q Z s) := Lib.hid (by first | exact HT1.out.kept hy | exact HT1.out.after hy); have HB1 : RowKit.Hid (Below w.heap.size w wy) := Lib.hid (by first | exact HB1.out.trans (hy.mono HB1.out.size) | exact below_after HB1.out hy); obtain ⟨c0, c1, c2, c3, z0, z1, z2, z3⟩ := HT1.out; clear hy)
        all_goals
          have HT2 : RowKit.Hid (TwoQ ((((wy.setCell { block := w.heap.size, off := 0 } (Value.int IntKind.i64 s)).setCell { block := w.heap.size, off := 1 } (Value.int IntKind.i64 Z)).setCell { block := w.heap.size + 1, off := 0 } (Value.int IntKind.i64 q)).setCell { block := w.heap.size + 1, off := 1 } (Value.int IntKind.i64 Y)) w.heap.size s Z q Y) := Lib.hid (by
            have l0 := cell_block_lt c0
            have l2 := cell_block_lt c2
            exact ⟨by go_simp, by go_simp, by go_simp, by go_simp, by go_simp, by go_simp, by go_simp, by go_simp⟩)
          have HB2 : RowKit.Hid (Below w.heap.size w ((((wy.setCell { block := w.heap.size, off := 0 } (Value.int IntKind.i64 s)).setCell { block := w.heap.size, off := 1 } (Value.int IntKind.i64 Z)).setCell { block := w.heap.size + 1, off := 0 } (Value.int IntKind.i64 q)).setCell { block := w.heap.size + 1, off := 1 } (Value.int IntKind.i64 Y))) := Lib.hid (((((HB1.out.setCell (by simp) _).setCell (by simp) _).setCell (by simp) _).setCell (by simp) _))
          generalize ((((wy.setCell { block := w.heap.size, off := 0 } (Value.int IntKind.i64 s)).setCell { block := w.heap.size, off := 1 } (Value.int IntKind.i64 Z)).setCell { block := w.heap.size + 1, off := 0 } (Value.int IntKind.i64 q)).setCell { block := w.heap.size + 1, off := 1 } (Value.int IntKind.i64 Y)) = wn at *
          have HD := Lib.hid HT2.out.dens
          go_wp2_with fail
          go_step3
          refine ⟨rfl, ⟨s, Z, q, Y, _, _, _, _, _, _, _, _, _, _, _, _, _, _, _, _, _, _, _, _, _, _, _, _, _, _, _, _, _, _, _, _, _, _, _, _, _, _, _, _, _, _, _, _, _, _, _, rfl, ⟨by omega, by omega⟩, ⟨by omega, by omega⟩, ⟨by omega, by omega⟩, ⟨by omega, by omega⟩, HV.out.symm, HB2.out, HT2.out⟩, ?_⟩
          rw [HD.out]
          omega
  · have hne : (X != U) = true := by simp [hxu]
    have HV := Lib.hid (HW.out hxu)
    go_upto_region 1 with (fail)
    go_quiet (fail)
    go_wp2_with fail
    simp only [Exit.jump]
    go_ret
    exact ⟨ret_bool HV.out.symm, below_drewN HB.out _⟩
end Go.Proofs.Ytbmlcfdilopmgaa

/- Lines of thrust: rows of quotients; the contracts of the program's lineOf, findMargin, firstBest, MarginOf, InMiddle, PlacesOf, HighestJoint, TouchedJoints. -/
namespace Go.Proofs.Ytbmlcfdilopmgaa
set_option maxRecDepth 100000
set_option linter.unusedVariables false
set_option linter.unusedSimpArgs false
open Go.ChangeShapes Go.WideShapes Go.ChangeAt Go.RowKit

theorem Try.infoQt : (Try.prog.info? 73).map (fun i => (i.zero, i.size, i.bytes)) = some (some (.agg #[.int .i64 0, .int .i64 0]), 2, 16) := by kernel_rfl
/-- A slice of quotients in a row of the program's own. -/
def QRow (w : World) (B : Nat) (v : Value) (l : List (Int × Int)) : Prop := w.ownsRow B 73 2 v l.length (flat l)
theorem QRow.below {w w' : World} {B : Nat} {v : Value} {l : List (Int × Int)} (h : QRow w B v l) (hb : Below w.heap.size w w') : QRow w' B v l := owns_below h hb
theorem QRow.base {w : World} {B B' : Nat} {v : Value} {l : List (Int × Int)} (h : QRow w B v l) (hb : B' ≤ B) : QRow w B' v l := owns_base h hb
theorem QRow.nil (w : World) (B : Nat) : QRow w B (.slice none 0 0) [] := World.ownsRow_nil w B _ _
/-- A slice of quotients as a call is handed it. -/
def Qs (w : World) (B : Nat) (a : Option Addr) (m cap : Nat) (l : List (Int × Int)) : Prop := QRow w B (.slice a m cap) l ∧ l.length = m
theorem Qs.below {w w' : World} {B m cap : Nat} {a : Option Addr} {l : List (Int × Int)} (h : Qs w B a m cap l) (hb : Below w.heap.size w w') : Qs w' B a m cap l := ⟨h.1.below hb, h.2⟩
theorem qsOf {w : World} {B : Nat} {v : Value} {l : List (Int × Int)} (h : QRow w B v l) : ∃ a n cap, v = .slice a n cap ∧ Qs w B a n cap l := by
  have h0 := h
  rcases h.2 with ⟨rfl, hz⟩ | ⟨g, cap, cur, rfl, -⟩
  · exact ⟨none, 0, 0, rfl, h0, hz⟩
  · exact ⟨_, _, _, rfl, h0, rfl⟩
theorem Qs.cap {w : World} {B m cap : Nat} {a : Option Addr} {l : List (Int × Int)} (h : Qs w B a m cap l) : m ≤ cap ∧ cap ≤ maxLen := by
  have h1 := h.1
  unfold QRow at h1
  rw [h.2] at h1
  exact own_cap h1
theorem Qs.at {w : World} {B m cap : Nat} {a : Option Addr} {l : List (Int × Int)} (h : Qs w B a m cap l) (i : Nat) (hi : i < m) :
    ∃ g, a = some ⟨g, 0, Option.none⟩ ∧ B ≤ g ∧ w.cell? ⟨g, i * 2, Option.none⟩ = some (.int .i64 (pt l i).1) ∧ w.cell? ⟨g, i * 2 + 1, Option.none⟩ = some (.int .i64 (pt l i).2) := by
  have hh := h.1
  unfold QRow at hh
  have hl := h.2
  rcases h.1.2 with ⟨h1, h0⟩ | ⟨g, cap', cur, he, hB, -⟩
  · omega
  · rw [he] at hh
    simp only [Value.slice.injEq] at he
    obtain ⟨rfl, -, -⟩ := he
    refine ⟨g, rfl, hB, ?_⟩
    rw [World.ownsRow.cellAt hh (i * 2) (by omega), World.ownsRow.cellAt hh (i * 2 + 1) (by omega)]
    exact flat_at l i (by omega)

/-- The boxes of an arch and of a thrust. -/
def ABox (W : World) (H : Nat) (s : Value) (th tv tm td : Int) : Prop :=
  W.cell? ⟨H, 0, none⟩ = some s ∧ W.cell? ⟨H + 1, 0, none⟩ = some (.int .i64 th) ∧ W.cell? ⟨H + 1, 1, none⟩ = some (.int .i64 tv) ∧ W.cell? ⟨H + 1, 2, none⟩ = some (.int .i64 tm) ∧ W.cell? ⟨H + 1, 3, none⟩ = some (.int .i64 td)
theorem ABox.below {w w' : World} {H : Nat} {s : Value} {th tv tm td : Int} (h : ABox w H s th tv tm td) (hb : Below w.heap.size w w') : ABox w' H s th tv tm td :=
  ⟨cell_kept h.1 hb, cell_kept h.2.1 hb, cell_kept h.2.2.1 hb, cell_kept h.2.2.2.1 hb, cell_kept h.2.2.2.2 hb⟩
theorem abox_alloc (w : World) (g n cap : Nat) (th tv tm td : Int) : ABox ((w.alloc (.cells #[.slice (some ⟨g, 0, none⟩) n cap] 26)).alloc (.cells #[.int .i64 th, .int .i64 tv, .int .i64 tm, .int .i64 td] 31)) w.heap.size (.slice (some ⟨g, 0, none⟩) n cap) th tv tm td := by
  refine ⟨?_, ?_, ?_, ?_, ?_⟩ <;> go_simp
theorem abox_below (w : World) (g n cap : Nat) (th tv tm td : Int) : Below w.heap.size w ((w.alloc (.cells #[.slice (some ⟨g, 0, none⟩) n cap] 26)).alloc (.cells #[.int .i64 th, .int .i64 tv, .int .i64 tm, .int .i64 td] 31)) :=
  ((Below.refl w.heap.size w).alloc (Nat.le_refl _) _).alloc (by simp) _
theorem ABox.far {X w' : World} {H n size : Nat} {e : TypeId} {v s : Value} {xs : List Value} {th tv tm td : Int} (h : ABox X H s th tv tm td) (hr : X.ownsRow (H + 2) e size v n xs) (hg : X.grownBy w' v.ownBlock) : ABox w' H s th tv tm td :=
  ⟨far_low hr hg (by omega) h.1, far_low hr hg (by omega) h.2.1, far_low hr hg (by omega) h.2.2.1, far_low hr hg (by omega) h.2.2.2.1, far_low hr hg (by omega) h.2.2.2.2⟩
theorem ABox.lt {w : World} {H : Nat} {s : Value} {th tv tm td : Int} (h : ABox w H s th tv tm td) : H + 2 ≤ w.heap.size := cell_block_lt h.2.1
theorem below_grownQ {w x y : World} {B : Nat} {row : Option Nat} (h : Below B w x) (hg : x.grownBy y row) (hB : B ≤ x.heap.size) (hr : ∀ j, row = some j → B ≤ j) : Below B w y := h.grown hg hB (fun j hj => hr j hj)

set_option maxRecDepth 100000 in
set_option maxHeartbeats 4000000 in
theorem implLineOf (w : World) (B B2 g cap n : Nat) (la : Option Addr) (m lc : Nat) (js : List Jt) (ls : List Ld) (th tv tm td : Int) (hr : JRowAt w B g cap js) (hn : js.length = n) (hl : Lds w B2 la m lc ls) :
    Calls Try.prog 34 #[.agg #[.slice (some ⟨g, 0, none⟩) n cap], .slice la m lc, .agg #[.int .i64 th, .int .i64 tv, .int .i64 tm, .int .i64 td]] w fun e w' => ∃ x, e = .returned x ∧ QRow w' w.heap.size x (lineV js ls th tv tm td) ∧ Below w.heap.size w w' := by
  obtain ⟨i0, hi0, hz0, hz1, hz2⟩ := info_parts Try.infoQt
  obtain ⟨-, hgw, hc, hcm⟩ := hr.lt
  rw [hn] at hc
  unfold maxLen at hcm
  have HP := Lib.hid (fun (W : World) (hW : Below w.heap.size w W) (k : Nat) => (show Calls Try.prog 59 #[.agg #[.slice (some ⟨g, 0, none⟩) n cap], .slice la m lc, .agg #[.int .i64 th, .int .i64 tv, .int .i64 tm, .int .i64 td], .int .i64 k] W fun e w' => e = .returned (.tuple #[.int .i64 (plX js ls th tv tm td k).1, .int .i64 (plX js ls th tv tm td k).2, .bool (plAt js ls th tv tm td k)]) ∧ Below W.heap.size W w' from
    implPlaceAt W B B2 g cap n la m lc js ls th tv tm td k (hr.below hW) hn (hl.below hW)))
  have H8 := Lib.hid (fun (k : Nat) (hk : k < n) (ha : plAt js ls th tv tm td k = true) => (show n ≤ 8 by
    cases ho : phOk js ls th tv tm td (k : Nat)
    · unfold plAt at ha
      rw [phA_no ho, phB_no ho] at ha
      exact absurd ha (by decide)
    · have h38 := arch_size (loadsV_iff.1 (phOk_iff.1 ho).1).1
      omega))
  have HY := Lib.hid (fun (h : allV n (plAt js ls th tv tm td) = true) => lineV_yes (js := js) (ls := ls) (h := th) (v := tv) (m := tm) (d := td) (by rw [hn]; exact h))
  have HN := Lib.hid (fun (h : allV n (plAt js ls th tv tm td) = false) => lineV_no (js := js) (ls := ls) (h := th) (v := tv) (m := tm) (d := td) (by rw [hn]; exact h))
  rw [hn] at HY
  have HZ := Lib.hid (allFrom_zero n (plAt js ls th tv tm td))
  generalize lineV js ls th tv tm td = V at *
  generalize plAt js ls th tv tm td = f at *
  generalize plX js ls th tv tm td = q at *
  have HB0 := Lib.hid (abox_below w g n cap th tv tm td)
  have HX0 := Lib.hid (abox_alloc w g n cap th tv tm td)
  clear hr hn hl hgw
  obtain ⟨x0, x1, x2, x3, x4⟩ := HX0.out
  go_enter Try.func34, Try.ntmps34
  go_wp2_with fail
  go_loopw [7, 8, 9, 10, 11, 15] (fun s _ _ _ _ t wr => ∃ (k : Nat) (a : Option Addr) (cp : Nat), k ≤ n ∧ t = .int .i64 k ∧ s = .slice a k cp ∧ Qs wr (w.heap.size + 2) a k cp (lnTo q k) ∧ allFrom n k f = allFrom n 0 f ∧ (k = 0 ∨ n ≤ 8) ∧ Below w.heap.size w wr ∧ ABox wr w.heap.size (.slice (some ⟨g, 0, none⟩) n cap) th tv tm td)
    (fun _ _ _ _ _ t _ => n - (intOf t).toNat)
  case atStart => exact ⟨0, none, 0, Nat.zero_le _, rfl, rfl, ⟨QRow.nil _ _, rfl⟩, rfl, .inl rfl, HB0.out, HX0.out⟩
  case round =>
    clear HB0 HX0 x0 x1 x2 x3 x4
    obtain ⟨k, a, cp, hk, rfl, rfl, hq, hall, h8, hbw, hbx⟩ := hrel
    have HB := Lib.hid hbw
    have HX := Lib.hid hbx
    have HQ := Lib.hid hq
    have HA := Lib.hid hall
    have HK8 := Lib.hid h8
    obtain ⟨x0, x1, x2, x3, x4⟩ := hbx
    clear hall hbw hq h8
    by_cases hlt : k < n
    · have hkn : (k : Int) < (n : Int) := by omega
      have HPK := Lib.hid (HP.out _ HB.out k)
      cases hf : f k
      · have HV := Lib.hid (show V = [] from HN.out (by rw [← HZ.out, ← HA.out, allFrom_no hlt hf]))
        rw [hf] at HPK
        clear hf
        generalize q k = Q at *
        go_wp2_with fail
        refine HPK.out.mono ?_
        rintro e w1 ⟨rfl, hb1⟩
        have HB1 := Lib.hid (HB.out.trans (hb1.mono HB.out.size))
        clear hb1
        go_wp2_with fail
        go_ret
        exact ⟨_, rfl, by rw [HV.out]; exact QRow.nil _ _, HB1.out⟩
      · have h8 := H8.out k hlt hf
        have HF := Lib.hid hf
        have HNX := Lib.hid (lnTo_next q k)
        rw [hf] at HPK
        clear hf
        obtain ⟨⟨qx, qy⟩, hqk⟩ : ∃ p, q k = p := ⟨_, rfl⟩
        rw [hqk] at HPK HNX
        clear hqk
        go_wp2_with fail
        refine HPK.out.mono ?_
        rintro e w1 ⟨rfl, hb1⟩
        have HB1 := Lib.hid (HB.out.trans (hb1.mono HB.out.size))
        have HX1 := Lib.hid (HX.out.below hb1)
        have HQ1 := Lib.hid (HQ.out.below hb1)
        have hw2 := HX1.out.lt
        clear hb1 x0 x1 x2 x3 x4
        obtain ⟨hcc, hcm2⟩ := HQ1.out.cap
        unfold maxLen at hcm2
        have HO := Lib.hid (show w1.ownsRow (w.heap.size + 2) 73 2 (.slice a k cp) k (flat (lnTo q k)) from by have := HQ1.out.1; unfold QRow at this; rwa [HQ1.out.2] at this)
        go_wp2_with (at_builtin; refine wpList_append_lies _ rfl _ _ _ rfl (w.heap.size + 2) 73 i0 _ 2 16 Try.underlying70 hi0 hz0 hz1 hz2 rfl (by omega) (.slice a k cp) k (flat (lnTo q k)) (by rfl) (World.ownsRow.alloc HO.out _) ⟨w1.heap.size, 0, none⟩ 1 1 [.int .i64 qx, .int .i64 qy] (by rfl) (by rfl) (World.news_of_block (cs := #[.int .i64 qx, .int .i64 qy]) (t := 73) (fr := (0, 0)) (heap_alloc_new w1 _)) (by simp [Value.oneCell']) (by omega) (by unfold maxLen; omega) (by omega) (by first | omega | (simp; omega)) (w1.heap.size + 1) (by simp) ?_; intro gg cp9 w9 hown9 hgrow9 hat9 hgl9; have HO9 := Lib.hid hown9; have HG9 := Lib.hid hgrow9; clear hown9 hgrow9 hat9 hgl9)
        have hoy := World.ownsRow.alloc HO.out (.cells #[.int .i64 qx, .int .i64 qy] 73)
        have HB9 : RowKit.Hid (Below w.heap.size w w9) := Lib.hid (below_grownQ (HB1.out.alloc HB1.out.size _) HG9.out (by simp; omega) (fun j hj => by have := (World.ownsRow.lt hoy j hj).1; omega))
        have HX9 : RowKit.Hid (ABox w9 w.heap.size (.slice (some ⟨g, 0, none⟩) n cap) th tv tm td) := Lib.hid ((HX1.out.below (cd_al w1 _)).far hoy HG9.out)
        have HQ9 : RowKit.Hid (Qs w9 (w.heap.size + 2) (some ⟨gg, 0, none⟩) (k + 1) cp9 (lnTo q (k + 1))) := Lib.hid (by
          refine ⟨?_, lnTo_length q (k + 1)⟩
          unfold QRow
          rw [lnTo_length, HNX.out, flat_append]
          exact HO9.out)
        have HA9 := Lib.hid ((allFrom_yes hlt HF.out).trans HA.out)
        clear hoy
        go_roundw
        case rel => exact ⟨k + 1, _, _, hlt, by go_num, rfl, HQ9.out, HA9.out, .inr h8, HB9.out, HX9.out⟩
        case measure => simp [intOf]; omega
    · have hkn : k = n := by omega
      have HV := Lib.hid (show V = lnTo q k by rw [hkn]; exact HY.out (by rw [← HZ.out, ← HA.out, hkn, allFrom_end]))
      clear hkn
      go_wp2_with fail
      go_ret
      exact ⟨_, rfl, by rw [HV.out]; exact HQ.out.1.base (by omega), HB.out⟩

/-- A box of a quotient. -/
def QtB (W : World) (H : Nat) (q : Int × Int) : Prop := W.cell? ⟨H, 0, none⟩ = some (.int .i64 q.1) ∧ W.cell? ⟨H, 1, none⟩ = some (.int .i64 q.2) ∧ W.frozen? ⟨H, 0, none⟩ = false ∧ W.frozen? ⟨H, 1, none⟩ = false
theorem QtB.below {w w' : World} {H : Nat} {q : Int × Int} (h : QtB w H q) (hb : Below w.heap.size w w') : QtB w' H q := by
  have l0 : H < w.heap.size := cell_block_lt h.1
  exact ⟨cell_kept h.1 hb, cell_kept h.2.1 hb, (hb.frozen (p := ⟨H, 0, none⟩) l0).trans h.2.2.1, (hb.frozen (p := ⟨H, 1, none⟩) l0).trans h.2.2.2⟩

set_option maxRecDepth 100000 in
set_option maxHeartbeats 4000000 in
theorem implFirstBest (w : World) (B : Nat) (a : Option Addr) (n cap : Nat) (l : List (Int × Int)) (hq : Qs w B a n cap l) (hp : Pls l) (hn : n ≤ 1000) :
    Calls Try.prog 61 #[.slice a n cap, .func (.func 36) #[] #[]] w fun e w' => e = .returned (.tuple #[.agg #[.int .i64 (fbTo l n).1, .int .i64 (fbTo l n).2], .bool (!decide (n = 0))]) ∧ Below w.heap.size w w' := by
  obtain ⟨hnc, hcm⟩ := hq.cap
  unfold maxLen at hcm
  have HQ := Lib.hid hq
  have HP := Lib.hid hp
  have HB0 := Lib.hid (((Below.refl w.heap.size w).alloc (Nat.le_refl _) (.cells #[.int .i64 0, .int .i64 0] 73)).alloc (by simp) (.cells #[.int .i64 0, .int .i64 0] 73))
  clear hq hp
  go_enter Try.func61, Try.ntmps61
  have HT0 : RowKit.Hid (QtB ((w.alloc (.cells #[.int .i64 0, .int .i64 0] 73)).alloc (.cells #[.int .i64 0, .int .i64 0] 73)) w.heap.size (0, 0)) := Lib.hid ⟨by go_simp, by go_simp, by go_simp, by go_simp⟩
  have HT1 : RowKit.Hid (QtB ((w.alloc (.cells #[.int .i64 0, .int .i64 0] 73)).alloc (.cells #[.int .i64 0, .int .i64 0] 73)) (w.heap.size + 1) (fbTo l 0)) := Lib.hid ⟨by go_simp; rfl, by go_simp; rfl, by go_simp, by go_simp⟩
  go_wp2_with fail
  go_loopw [7, 11] (fun _ t wr => ∃ k : Nat, k ≤ n ∧ t = .int .i64 k ∧ QtB wr w.heap.size (0, 0) ∧ QtB wr (w.heap.size + 1) (fbTo l k) ∧ Below w.heap.size w wr)
    (fun _ t _ => n - (intOf t).toNat)
  case atStart => exact ⟨0, Nat.zero_le _, rfl, HT0.out, HT1.out, HB0.out⟩
  case round =>
    clear HB0 HT0 HT1
    obtain ⟨k, hk, rfl, hq0, hq1, hbw⟩ := hrel
    have HB := Lib.hid hbw
    by_cases hlt : k < n
    · obtain ⟨g, rfl, hgB, a0, a1⟩ := (HQ.out.below hbw).at k hlt
      have hPk := HP.out k (by have := HQ.out.2; omega)
      have hfy := fbTo_yes (l := l) (k := k)
      have hfn := fbTo_no (l := l) (k := k)
      have hF : k ≠ 0 → PlQ (fbTo l k) := fun h0 => by
        obtain ⟨i, hi, e⟩ := fbTo_in (l := l) k (by omega)
        rw [e]
        exact HP.out i (by have := HQ.out.2; omega)
      have hf0 : k = 0 → fbTo l (k + 1) = pt l k := fun h => by rw [h]; rfl
      obtain ⟨⟨x, y⟩, hxy⟩ : ∃ p, pt l k = p := ⟨_, rfl⟩
      rw [hxy] at a0 a1 hPk hfy hfn hf0
      obtain ⟨⟨u, v⟩, huv⟩ : ∃ p, fbTo l k = p := ⟨_, rfl⟩
      rw [huv] at hfy hfn hF hq1
      dsimp only at a0 a1
      have hal := cd_al wr (.cells #[.int .i64 x, .int .i64 y] 73)
      have HB1 := Lib.hid (HB.out.trans (hal.mono HB.out.size))
      have HT0 := Lib.hid (hq0.below hal)
      have HT1 := Lib.hid (hq1.below hal)
      have HTN : RowKit.Hid (QtB (wr.alloc (.cells #[.int .i64 x, .int .i64 y] 73)) wr.heap.size (x, y)) := Lib.hid ⟨by go_simp, by go_simp, by go_simp, by go_simp⟩
      have HFY := Lib.hid hfy
      have HFN := Lib.hid hfn
      have HF := Lib.hid hF
      have HF0 := Lib.hid hf0
      have HPK := Lib.hid hPk
      have hkn : (k : Int) < (n : Int) := by omega
      have hl1 : w.heap.size + 1 < wr.heap.size := cell_block_lt hq1.1
      clear hal hq0 hq1 hfy hfn hF hf0 hPk hxy huv hbw
      go_upto_region 5 with (fail)
      generalize hZ : wr.alloc (.cells #[.int .i64 x, .int .i64 y] 73) = Z at *
      clear hZ a0 a1
      obtain ⟨c0, c1, z0, z1⟩ := HT1.out
      obtain ⟨d0, d1, -, -⟩ := HTN.out
      dsimp only at c0 c1 d0 d1
      have hZs : wr.heap.size < Z.heap.size := cell_block_lt d0
      have hne1 : wr.heap.size ≠ w.heap.size + 1 := by omega
      have fin : ∀ W, W = (Z.setCell ⟨w.heap.size + 1, 0, none⟩ (.int .i64 x)).setCell ⟨w.heap.size + 1, 1, none⟩ (.int .i64 y) → QtB W w.heap.size (0, 0) ∧ QtB W (w.heap.size + 1) (x, y) ∧ Below w.heap.size w W := by
        rintro W rfl
        obtain ⟨e0, e1, e2, e3⟩ := HT0.out
        dsimp only at e0 e1
        refine ⟨⟨by go_simp, by go_simp, by go_simp, by go_simp⟩, ⟨by go_simp, by go_simp, by go_simp, by go_simp⟩, (HB1.out.setCell (by simp) _).setCell (by simp) _⟩
      have FIN := Lib.hid fin
      clear fin
      by_cases hk0 : k = 0
      · have hb : ((k : Int) == 0) = true := by simp [hk0]
        have HN := Lib.hid (HF0.out hk0)
        go_wp2_with fail
        go_roundw
        case rel => exact ⟨k + 1, hlt, by go_num, (FIN.out _ rfl).1, by rw [HN.out]; exact (FIN.out _ rfl).2.1, (FIN.out _ rfl).2.2⟩
        case measure => simp [intOf]; omega
      · have hb : ((k : Int) == 0) = false := by simp [hk0]
        have hp1 := HPK.out
        have hp2 := HF.out hk0
        have HL := Lib.hid (implLess x y u v Z ⟨hp1.lo, Int.le_trans hp1.hi hp1.le⟩ ⟨hp1.pos, hp1.le⟩ ⟨hp2.lo, Int.le_trans hp2.hi hp2.le⟩ ⟨hp2.pos, hp2.le⟩)
        clear hp1 hp2
        cases hV : ltQ (x, y) (u, v)
        · rw [hV] at HL
          have HN := Lib.hid (HFN.out hk0 hV)
          clear hV
          go_wp2_with fail
          refine HL.out.mono ?_
          rintro e w2 ⟨rfl, hb2⟩
          have HB2 := Lib.hid (HB1.out.trans (hb2.mono HB1.out.size))
          have HT2 := Lib.hid (HT0.out.below hb2)
          have HT3 := Lib.hid (HT1.out.below hb2)
          clear hb2
          go_wp2_with fail
          go_roundw
          case rel => exact ⟨k + 1, hlt, by go_num, HT2.out, by rw [HN.out]; exact HT3.out, HB2.out⟩
          case measure => simp [intOf]; omega
        · rw [hV] at HL
          have HN := Lib.hid (HFY.out hV)
          clear hV FIN
          go_wp2_with fail
          refine HL.out.mono ?_
          rintro e w2 ⟨rfl, hb2⟩
          have HB2 := Lib.hid (HB1.out.trans (hb2.mono HB1.out.size))
          have HT2 := Lib.hid (HT0.out.below hb2)
          obtain ⟨c0, c1, z0, z1⟩ := HT1.out.below hb2
          obtain ⟨d0, d1, -, -⟩ := HTN.out.below hb2
          dsimp only at c0 c1 d0 d1
          have FIN : RowKit.Hid (∀ W, W = (w2.setCell ⟨w.heap.size + 1, 0, none⟩ (.int .i64 x)).setCell ⟨w.heap.size + 1, 1, none⟩ (.int .i64 y) → QtB W w.heap.size (0, 0) ∧ QtB W (w.heap.size + 1) (x, y) ∧ Below w.heap.size w W) := Lib.hid (by
            have hZs2 : wr.heap.size < w2.heap.size := cell_block_lt d0
            rintro W rfl
            obtain ⟨e0, e1, e2, e3⟩ := HT2.out
            dsimp only at e0 e1
            refine ⟨⟨by go_simp, by go_simp, by go_simp, by go_simp⟩, ⟨by go_simp, by go_simp, by go_simp, by go_simp⟩, (HB2.out.setCell (by simp) _).setCell (by simp) _⟩)
          clear hb2
          go_wp2_with fail
          go_roundw
          case rel => exact ⟨k + 1, hlt, by go_num, (FIN.out _ rfl).1, by rw [HN.out]; exact (FIN.out _ rfl).2.1, (FIN.out _ rfl).2.2⟩
          case measure => simp [intOf]; omega
    · have hkn : k = n := by omega
      obtain ⟨c0, c1, z0, z1⟩ := hq1
      obtain ⟨e0, e1, e2, e3⟩ := hq0
      rw [hkn] at c0 c1
      obtain ⟨⟨x, y⟩, hxy⟩ : ∃ p, fbTo l n = p := ⟨_, rfl⟩
      rw [hxy] at c0 c1
      have HXY := Lib.hid hxy
      dsimp only at c0 c1
      have hl1 : w.heap.size + 1 < wr.heap.size := cell_block_lt c0
      have HD := Lib.hid (show (!decide (n = 0)) = decide (0 < n) by by_cases h : n = 0 <;> simp [h] <;> omega)
      clear hbw hkn hxy
      go_wp2_with fail
      refine bodyPost_ret (v := .tuple #[.agg #[.int .i64 x, .int .i64 y], .bool (decide (0 < n))]) (by simp [results, Try.results61, go_sem, e0, e1, e2, e3]) rfl ⟨by rw [HD.out, HXY.out], ?_⟩
      exact (HB.out.setCell (by simp) _).setCell (by simp) _
end Go.Proofs.Ytbmlcfdilopmgaa

/- Lines of thrust: the contracts of the program's findMargin, MarginOf, InMiddle, PlacesOf, HighestJoint, TouchedJoints. -/
namespace Go.Proofs.Ytbmlcfdilopmgaa
set_option maxRecDepth 100000
set_option linter.unusedVariables false
set_option linter.unusedSimpArgs false
open Go.ChangeShapes Go.WideShapes Go.ChangeAt Go.RowKit

theorem flat_pair (l : List (Int × Int)) (p q : Int × Int) : flat (l ++ [p, q]) = flat l ++ [.int .i64 p.1, .int .i64 p.2, .int .i64 q.1, .int .i64 q.2] := by rw [flat_append]; rfl
set_option maxRecDepth 100000 in
set_option maxHeartbeats 8000000 in
theorem implFindMargin (w : World) (B B2 g cap n : Nat) (la : Option Addr) (m lc : Nat) (js : List Jt) (ls : List Ld) (th tv tm td : Int) (hr : JRowAt w B g cap js) (hn : js.length = n) (hl : Lds w B2 la m lc ls) :
    Calls Try.prog 35 #[.agg #[.slice (some ⟨g, 0, none⟩) n cap], .slice la m lc, .agg #[.int .i64 th, .int .i64 tv, .int .i64 tm, .int .i64 td]] w fun e w' => e = .returned (.tuple #[.agg #[.int .i64 (maQ (lineV js ls th tv tm td)).1, .int .i64 (maQ (lineV js ls th tv tm td)).2], .bool (maOk (lineV js ls th tv tm td))]) ∧ Below w.heap.size w w' := by
  obtain ⟨i0, hi0, hz0, hz1, hz2⟩ := info_parts Try.infoQt
  have HL := Lib.hid (fun (W : World) (hW : Below w.heap.size w W) => implLineOf W B B2 g cap n la m lc js ls th tv tm td (hr.below hW) hn (hl.below hW))
  have HP := Lib.hid (lineV_pls js ls th tv tm td)
  have hsm := lineV_small js ls th tv tm td
  generalize lineV js ls th tv tm td = V at *
  have HB0 := Lib.hid ((abox_below w g n cap th tv tm td).alloc (by simp <;> omega) (.cells #[.int .i64 0, .int .i64 0] 73))
  have HX0 := Lib.hid ((abox_alloc w g n cap th tv tm td).below (cd_al _ (.cells #[.int .i64 0, .int .i64 0] 73)))
  have HR0 : RowKit.Hid (QtB (((w.alloc (.cells #[.slice (some ⟨g, 0, none⟩) n cap] 26)).alloc (.cells #[.int .i64 th, .int .i64 tv, .int .i64 tm, .int .i64 td] 31)).alloc (.cells #[.int .i64 0, .int .i64 0] 73)) (w.heap.size + 2) (0, 0)) := Lib.hid ⟨by go_simp, by go_simp, by go_simp, by go_simp⟩
  clear hr hn hl
  obtain ⟨x0, x1, x2, x3, x4⟩ := HX0.out
  go_enter Try.func35, Try.ntmps35
  go_wp2_with fail
  refine (HL.out _ HB0.out).mono ?_
  rintro e w1 ⟨lv, rfl, hrow, hb1⟩
  obtain ⟨a, N, lcp, rfl, hq⟩ := qsOf hrow
  have HB1 := Lib.hid (HB0.out.trans (hb1.mono HB0.out.size))
  have HR1 := Lib.hid (HR0.out.below hb1)
  have HQ := Lib.hid hq
  obtain ⟨hnc, hcm⟩ := hq.cap
  unfold maxLen at hcm
  have hN : N ≤ 8 := by have := hq.2; omega
  have hw3 : w.heap.size + 2 < w1.heap.size := cell_block_lt HR1.out.1
  clear hb1 hrow hq HB0 HX0 HR0 x0 x1 x2 x3 x4 HL
  go_wp2_with fail
  go_loopw [8, 16] (fun s t wr => ∃ (k M : Nat) (sa : Option Addr) (cc : Nat), k ≤ N ∧ M = 2 * k ∧ t = .int .i64 k ∧ s = .slice sa M cc ∧ Qs wr w1.heap.size sa M cc (dsTo V k) ∧ Below w1.heap.size w1 wr)
    (fun _ t _ => N - (intOf t).toNat)
  case atStart => exact ⟨0, 0, none, 0, Nat.zero_le _, rfl, rfl, rfl, ⟨QRow.nil _ _, rfl⟩, Below.refl _ _⟩
  case round =>
    obtain ⟨k, M, sa, cc, hk, hM, rfl, rfl, hq, hbw⟩ := hrel
    have HB := Lib.hid hbw
    have HO := Lib.hid (show wr.ownsRow w1.heap.size 73 2 (.slice sa M cc) M (flat (dsTo V k)) from by have := hq.1; unfold QRow at this; rwa [hq.2] at this)
    obtain ⟨hcc, hcm2⟩ := hq.cap
    unfold maxLen at hcm2
    have HMK := Lib.hid hM
    have HQK := Lib.hid hq
    have hM16 : M ≤ 16 := by omega
    by_cases hlt : k < N
    · obtain ⟨gg, rfl, hgB, a0, a1⟩ := (HQ.out.below hbw).at k hlt
      have hnx := dsTo_next V k
      have hp := HP.out k (by have := HQ.out.2; omega)
      obtain ⟨⟨x, y⟩, hxy⟩ : ∃ p, pt V k = p := ⟨_, rfl⟩
      rw [hxy] at a0 a1 hnx hp
      dsimp only at a0 a1
      have HM := Lib.hid (fun W => implMissing x y W hp.lo hp.hi hp.le)
      have HNX := Lib.hid hnx
      have hal := cd_al wr (.cells #[.int .i64 x, .int .i64 y] 73)
      have HB2 := Lib.hid (HB.out.trans (hal.mono HB.out.size))
      have HO2 := Lib.hid (owns_below HO.out hal)
      have b0 : (wr.alloc (.cells #[.int .i64 x, .int .i64 y] 73)).cell? ⟨wr.heap.size, 0, none⟩ = some (.int .i64 x) := by go_simp
      have b1 : (wr.alloc (.cells #[.int .i64 x, .int .i64 y] 73)).cell? ⟨wr.heap.size, 1, none⟩ = some (.int .i64 y) := by go_simp
      have hkn : (k : Int) < (N : Int) := by omega
      have hZs : wr.heap.size < (wr.alloc (.cells #[.int .i64 x, .int .i64 y] 73)).heap.size := by simp
      clear hal hq hbw hxy hp hnx hM
      go_upto_region 5 with (fail)
      generalize hZ : wr.alloc (.cells #[.int .i64 x, .int .i64 y] 73) = Z at *
      clear hZ a0 a1
      have hZ1 := HB2.out.size
      have ZZ := Lib.hid (Below.refl Z.heap.size Z)
      have F0 := Lib.hid (fun (X : World) (hX : Below Z.heap.size Z X) => (⟨cell_kept b0 hX, cell_kept b1 hX⟩ : X.cell? ⟨wr.heap.size, 0, none⟩ = some (.int .i64 x) ∧ X.cell? ⟨wr.heap.size, 1, none⟩ = some (.int .i64 y)))
      have HZL := Lib.hid hZs
      go_region_held3 (fun w' => w'.cell? ⟨wr.heap.size, 0, none⟩ = some (.int .i64 x) ∧ w'.cell? ⟨wr.heap.size, 1, none⟩ = some (.int .i64 y))
        (first | (exact K6.out) | (exact F0.out _ ZZ.out) | (exact F0.out _ (cal ZZ.out _)) | (exact F0.out _ (cal (below_drewN ZZ.out _) _)) | go_keep | trivial)
        (first
          | (go_at_call 60; refine (HM.out _).mono ?_; rintro e Y ⟨rfl, hy⟩; have ZZ : RowKit.Hid (Below Z.heap.size Z Y) := Lib.hid (by first | exact cstep ZZ hy | exact cstepD ZZ hy); clear hy)
          | (have hzy2 := ZZ.out.size; refine step_append_lies _ (by rfl) _ _ _ (by rfl) w1.heap.size 73 i0 _ 2 16 Try.underlying70 hi0 hz0 hz1 hz2 rfl (by omega) (.slice sa M cc) _ _ (by rfl) (World.ownsRow.alloc (owns_below HO2.out ZZ.out) _)
              ⟨Y.heap.size, 0, none⟩ 2 2 [.int .i64 x, .int .i64 y, .int .i64 (y - x), .int .i64 y] (by rfl) (by rfl) (World.news_of_block (cs := #[.int .i64 x, .int .i64 y, .int .i64 (y - x), .int .i64 y]) (t := 73) (fr := (0, 0)) (heap_alloc_new Y _)) (by simp [Value.oneCell'])
              (by omega) (by unfold maxLen; omega) (by omega) (by simp; omega) (Y.heap.size + 1) (by simp) ?_; intro g5 cp5 w6 hown6 hgrow6 hat hgl; have K6 := Lib.hid (And.intro (far_high HO.out hgrow6 (Nat.le_refl _) (cell_kept (F0.out _ ZZ.out).1 (cd_al Y _))) (far_high HO.out hgrow6 (Nat.le_refl _) (cell_kept (F0.out _ ZZ.out).2 (cd_al Y _))))))
      all_goals
        have HO6 : RowKit.Hid (Qs w6 w1.heap.size (some ⟨g5, 0, none⟩) (M + 2) cp5 (dsTo V (k + 1))) := Lib.hid (by
          have hlen := dsTo_length V (k + 1)
          have hmk := HMK.out
          refine ⟨?_, by rw [hlen]; omega⟩
          unfold QRow
          rw [hlen, show 2 * (k + 1) = M + 2 by omega, HNX.out, flat_pair]
          exact hown6)
        have hoy := World.ownsRow.alloc (owns_below HO2.out ZZ.out) (.cells #[.int .i64 x, .int .i64 y, .int .i64 (y - x), .int .i64 y] 73)
        have hby := HB2.out.trans (ZZ.out.mono HB2.out.size)
        have HB6 : RowKit.Hid (Below w1.heap.size w1 w6) := Lib.hid ((hby.alloc hby.size _).grown hgrow6 (by have := hby.size; simp; omega) (fun j hj => by have := (World.ownsRow.lt hoy j hj).1; omega))
        clear hoy hby hown6 hgrow6 hat hgl F0 K6 b0 b1
        go_wp2_with fail
        go_roundw
      all_goals first
        | exact ⟨k + 1, M + 2, _, _, by omega, by have := HMK.out; omega, by go_num, rfl, HO6.out, HB6.out⟩
        | (simp [intOf]; omega)
    · have hkn : k = N := by omega
      have hlN := HQ.out.2
      have hNV : dsTo V k = dsTo V V.length := by rw [hkn, hlN]
      have HFB := Lib.hid (fun (hp : Pls (dsTo V k)) => implFirstBest wr w1.heap.size sa M cc (dsTo V k) HQK.out hp (by omega))
      have hPD : Pls (dsTo V k) := by
        intro i hi
        rw [dsTo_length] at hi
        obtain ⟨e0, e1⟩ := dsTo_at V k (i / 2) (by omega)
        have hp := HP.out (i / 2) (by omega)
        rcases Nat.mod_two_eq_zero_or_one i with h | h
        · have : i = 2 * (i / 2) := by omega
          rw [this, e0]; exact hp
        · have : i = 2 * (i / 2) + 1 := by omega
          rw [this, e1]; exact hp.mis
      have hF1 : (fbTo (dsTo V k) M).1 = (maQ V).1 ∧ (fbTo (dsTo V k) M).2 = (maQ V).2 ∧ (!decide (M = 0)) = maOk V := by
        by_cases h0 : V.length = 0
        · obtain ⟨e1, e2⟩ := maQ_no h0
          have hM0 : M = 0 := by omega
          rw [hM0, e1, e2]
          exact ⟨rfl, rfl, rfl⟩
        · obtain ⟨e1, e2⟩ := maQ_yes h0
          rw [e1, e2, hNV, hM, hkn, ← hlN, fb_ds HP.out _ (by omega) (Nat.le_refl _)]
          exact ⟨rfl, rfl, by simp; omega⟩
      have HFB := Lib.hid (HFB.out hPD)
      rw [hF1.1, hF1.2.1, hF1.2.2] at HFB
      obtain ⟨mo, hmo⟩ : ∃ b, maOk V = b := ⟨_, rfl⟩
      rw [hmo] at HFB
      have HMO := Lib.hid hmo
      clear hmo
      obtain ⟨⟨p, q⟩, hpq⟩ : ∃ p, maQ V = p := ⟨_, rfl⟩
      rw [hpq] at HFB
      have HPQ := Lib.hid hpq
      have HR2 := Lib.hid (HR1.out.below hbw)
      clear hbw hq hPD hF1 hNV hpq hkn hlN hM
      go_wp2_with fail
      refine HFB.out.mono ?_
      rintro e w5 ⟨rfl, hb5⟩
      have HB5 := Lib.hid (HB1.out.trans ((HB.out.trans (hb5.mono HB.out.size)).mono HB1.out.size))
      obtain ⟨c0, c1, z0, z1⟩ := HR2.out.below hb5
      dsimp only at c0 c1
      have hl5 : w.heap.size + 2 < w5.heap.size := cell_block_lt c0
      clear hb5
      go_wp2_with fail
      refine bodyPost_ret (v := .tuple #[.agg #[.int .i64 p, .int .i64 q], .bool mo]) (by simp [results, Try.results35, go_sem, c0, c1, z0, z1]) rfl ⟨by rw [HPQ.out, HMO.out], ?_⟩
      exact (HB5.out.setCell (by simp <;> omega) _).setCell (by simp <;> omega) _

set_option maxHeartbeats 2000000 in
theorem implMarginOf (w : World) (B B2 g cap n : Nat) (la : Option Addr) (m lc : Nat) (js : List Jt) (ls : List Ld) (th tv tm td : Int) (hr : JRowAt w B g cap js) (hn : js.length = n) (hl : Lds w B2 la m lc ls) :
    Calls Try.prog 9 #[.agg #[.slice (some ⟨g, 0, none⟩) n cap], .slice la m lc, .agg #[.int .i64 th, .int .i64 tv, .int .i64 tm, .int .i64 td]] w fun e w' => e = .returned (.tuple #[.int .i64 (maQ (lineV js ls th tv tm td)).1, .int .i64 (maQ (lineV js ls th tv tm td)).2, .bool (maOk (lineV js ls th tv tm td))]) ∧ Below w.heap.size w w' := by
  have HL := Lib.hid (fun (W : World) (hW : Below w.heap.size w W) => implFindMargin W B B2 g cap n la m lc js ls th tv tm td (hr.below hW) hn (hl.below hW))
  have HB0 := Lib.hid (abox_below w g n cap th tv tm td)
  have HX0 := Lib.hid (abox_alloc w g n cap th tv tm td)
  obtain ⟨⟨p, q⟩, hpq⟩ : ∃ p, maQ (lineV js ls th tv tm td) = p := ⟨_, rfl⟩
  obtain ⟨mo, hmo⟩ : ∃ b, maOk (lineV js ls th tv tm td) = b := ⟨_, rfl⟩
  rw [hpq, hmo] at HL
  rw [hpq, hmo]
  clear hr hn hl hpq hmo
  obtain ⟨x0, x1, x2, x3, x4⟩ := HX0.out
  go_enter Try.func9, Try.ntmps9
  go_wp2_with fail
  refine (HL.out _ HB0.out).mono ?_
  rintro e w1 ⟨rfl, hb1⟩
  have HB1 := Lib.hid (cal (HB0.out.trans (hb1.mono HB0.out.size)) (.cells #[.int .i64 p, .int .i64 q] 73))
  have c0 : (w1.alloc (.cells #[.int .i64 p, .int .i64 q] 73)).cell? ⟨w1.heap.size, 0, none⟩ = some (.int .i64 p) := by go_simp
  have c1 : (w1.alloc (.cells #[.int .i64 p, .int .i64 q] 73)).cell? ⟨w1.heap.size, 1, none⟩ = some (.int .i64 q) := by go_simp
  clear hb1
  go_wp2_with fail
  go_quiet (fail)
  go_wp2_with fail
  refine bodyPost_ret (v := .tuple #[.int .i64 p, .int .i64 q, .bool mo]) (by simp [results, Try.results9, go_sem]) rfl ⟨rfl, ?_⟩
  exact below_drewN HB1.out _

set_option maxHeartbeats 2000000 in
theorem implInMiddle (w : World) (B B2 g cap n : Nat) (la : Option Addr) (m lc : Nat) (js : List Jt) (ls : List Ld) (th tv tm td z : Int) (hr : JRowAt w B g cap js) (hn : js.length = n) (hl : Lds w B2 la m lc ls) :
    Calls Try.prog 14 #[.agg #[.slice (some ⟨g, 0, none⟩) n cap], .slice la m lc, .agg #[.int .i64 th, .int .i64 tv, .int .i64 tm, .int .i64 td], .int .i64 z] w fun e w' => e = .returned (.bool (inmV (lineV js ls th tv tm td) z)) ∧ Below w.heap.size w w' := by
  have HL := Lib.hid (fun (W : World) (hW : Below w.heap.size w W) => implFindMargin W B B2 g cap n la m lc js ls th tv tm td (hr.below hW) hn (hl.below hW))
  have HB0 := Lib.hid (abox_below w g n cap th tv tm td)
  have HX0 := Lib.hid (abox_alloc w g n cap th tv tm td)
  have hpl := lineV_pls js ls th tv tm td
  generalize lineV js ls th tv tm td = V at *
  have hV : inmV V z = (inR z 2 100 && (maOk V && decide ((maQ V).2 ≤ (maQ V).1 * z))) := rfl
  have hK : maOk V = true → PlQ (maQ V) := fun h => by
    by_cases h0 : V.length = 0
    · rw [(maQ_no h0).2] at h; cases h
    · rw [(maQ_yes h0).1]; exact mrTo_ok hpl _ (Nat.le_refl _)
  rw [hV]
  obtain ⟨⟨p, q⟩, hpq⟩ : ∃ p, maQ V = p := ⟨_, rfl⟩
  obtain ⟨mo, hmo⟩ : ∃ b, maOk V = b := ⟨_, rfl⟩
  rw [hpq, hmo] at HL hK
  rw [hpq, hmo]
  have HK := Lib.hid hK
  clear hr hn hl hpq hmo hV hK hpl
  obtain ⟨x0, x1, x2, x3, x4⟩ := HX0.out
  have HI := Lib.hid (fun W => isBetweenR z 2 100 W (by omega))
  have hiz := inR_iff (n := z) (a := 2) (b := 100)
  cases hz : inR z 2 100
  · rw [hz] at HI
    clear hiz hz
    go_enter Try.func14, Try.ntmps14
    go_wp2_with fail
    refine (HI.out _).mono ?_
    rintro e w1 ⟨rfl, rfl⟩
    go_wp2_with fail
    go_ret
    exact ⟨rfl, HB0.out⟩
  · rw [hz] at HI
    have hzb := hiz.1 hz
    clear hiz hz
    cases mo
    · go_enter Try.func14, Try.ntmps14
      go_wp2_with fail
      refine (HI.out _).mono ?_
      rintro e w1 ⟨rfl, rfl⟩
      go_wp2_with fail
      refine (HL.out _ HB0.out).mono ?_
      rintro e w1 ⟨rfl, hb1⟩
      have HB1 := Lib.hid (cal (HB0.out.trans (hb1.mono HB0.out.size)) (.cells #[.int .i64 p, .int .i64 q] 73))
      clear hb1
      go_wp2_with fail
      go_ret
      exact ⟨rfl, HB1.out⟩
    · have hp := HK.out rfl
      have HLS := Lib.hid (fun W => implLess p q 1 z W ⟨hp.lo, Int.le_trans hp.hi hp.le⟩ ⟨hp.pos, hp.le⟩ ⟨by omega, by omega⟩ ⟨by omega, by omega⟩)
      have HE := Lib.hid (show (!ltQ (p, q) (1, z)) = decide (q ≤ p * z) by
        unfold ltQ
        dsimp only
        rw [Int.one_mul, Bool.eq_iff_iff]
        simp)
      clear hp
      go_enter Try.func14, Try.ntmps14
      go_wp2_with fail
      refine (HI.out _).mono ?_
      rintro e w1 ⟨rfl, rfl⟩
      go_wp2_with fail
      refine (HL.out _ HB0.out).mono ?_
      rintro e w1 ⟨rfl, hb1⟩
      have HB1 := Lib.hid (cal (HB0.out.trans (hb1.mono HB0.out.size)) (.cells #[.int .i64 p, .int .i64 q] 73))
      have c0 : (w1.alloc (.cells #[.int .i64 p, .int .i64 q] 73)).cell? ⟨w1.heap.size, 0, none⟩ = some (.int .i64 p) := by go_simp
      have c1 : (w1.alloc (.cells #[.int .i64 p, .int .i64 q] 73)).cell? ⟨w1.heap.size, 1, none⟩ = some (.int .i64 q) := by go_simp
      clear hb1
      go_wp2_with fail
      refine (HLS.out _).mono ?_
      rintro e w2 ⟨rfl, hb2⟩
      have HB2 := Lib.hid (HB1.out.trans (hb2.mono HB1.out.size))
      clear hb2
      generalize ltQ (p, q) (1, z) = L at *
      go_wp2_with fail
      go_ret
      exact ⟨ret_bool (by rw [← HE.out]; rfl), HB2.out⟩

theorem Try.infoIS : (Try.prog.info? 38).map (fun i => (i.zero, i.size, i.bytes)) = some (some (.slice none 0 0), 1, 24) := by kernel_rfl
/-- The first k of a list. -/
theorem take_next (l : List (Int × Int)) (k : Nat) (h : k < l.length) : l.take (k + 1) = l.take k ++ [pt l k] := by
  rw [List.take_add_one]
  unfold pt
  rw [List.getD_eq_getElem?_getD, List.getElem?_eq_getElem h]
  rfl
set_option maxHeartbeats 4000000 in
theorem implPlacesOf (w : World) (B B2 g cap n : Nat) (la : Option Addr) (m lc : Nat) (js : List Jt) (ls : List Ld) (th tv tm td : Int) (hr : JRowAt w B g cap js) (hn : js.length = n) (hl : Lds w B2 la m lc ls) :
    Calls Try.prog 8 #[.agg #[.slice (some ⟨g, 0, none⟩) n cap], .slice la m lc, .agg #[.int .i64 th, .int .i64 tv, .int .i64 tm, .int .i64 td]] w fun e w' => ∃ x, e = .returned x ∧ QR w' w.heap.size x (lineV js ls th tv tm td) ∧ Below w.heap.size w w' := by
  obtain ⟨i0, hi0, hz0, hz1, hz2⟩ := info_parts Try.infoIS
  have HL := Lib.hid (fun (W : World) (hW : Below w.heap.size w W) => implLineOf W B B2 g cap n la m lc js ls th tv tm td (hr.below hW) hn (hl.below hW))
  have hsm := lineV_small js ls th tv tm td
  generalize lineV js ls th tv tm td = V at *
  have HB0 := Lib.hid (abox_below w g n cap th tv tm td)
  have HX0 := Lib.hid (abox_alloc w g n cap th tv tm td)
  clear hr hn hl
  obtain ⟨x0, x1, x2, x3, x4⟩ := HX0.out
  go_enter Try.func8, Try.ntmps8
  go_wp2_with fail
  refine (HL.out _ HB0.out).mono ?_
  rintro e w1 ⟨lv, rfl, hrow, hb1⟩
  obtain ⟨a, N, lcp, rfl, hq⟩ := qsOf hrow
  have HB1 := Lib.hid (HB0.out.trans (hb1.mono HB0.out.size))
  have HQ := Lib.hid hq
  obtain ⟨hnc, hcm⟩ := hq.cap
  unfold maxLen at hcm
  have hN : N ≤ 8 := by have := hq.2; omega
  clear hb1 hrow hq HB0 HX0 x0 x1 x2 x3 x4 HL
  go_wp2_with fail
  go_loopw [7, 15] (fun s t wr => ∃ (k : Nat) (sa : Option Addr) (cc : Nat) (gs : List Nat), k ≤ N ∧ t = .int .i64 k ∧ s = .slice sa k cc ∧ gs.length = k ∧ QQ wr w1.heap.size (.slice sa k cc) gs (V.take k) ∧ Below w1.heap.size w1 wr)
    (fun _ t _ => N - (intOf t).toNat)
  case atStart => exact ⟨0, none, 0, [], Nat.zero_le _, rfl, rfl, rfl, QQ.nil _ _, Below.refl _ _⟩
  case round =>
    obtain ⟨k, sa, cc, gs, hk, rfl, rfl, hgl, hq, hbw⟩ := hrel
    have HB := Lib.hid hbw
    have HQK := Lib.hid hq
    have HGL := Lib.hid hgl
    have HO := Lib.hid (show wr.ownsRow w1.heap.size 38 1 (.slice sa k cc) k (twos gs) from by have := hq.row; rwa [hgl] at this)
    obtain ⟨hcc, hcm2⟩ := own_cap HO.out
    unfold maxLen at hcm2
    by_cases hlt : k < N
    · obtain ⟨gg, rfl, hgB, a0, a1⟩ := (HQ.out.below hbw).at k hlt
      have hnx := take_next V k (by have := HQ.out.2; omega)
      obtain ⟨⟨x, y⟩, hxy⟩ : ∃ p, pt V k = p := ⟨_, rfl⟩
      rw [hxy] at a0 a1 hnx
      dsimp only at a0 a1
      have HNX := Lib.hid hnx
      have hal := cd_al wr (.cells #[.int .i64 x, .int .i64 y] 73)
      have HB2 := Lib.hid (HB.out.trans (hal.mono HB.out.size))
      have HQ2 := Lib.hid (HQK.out.below hal)
      have b0 : (wr.alloc (.cells #[.int .i64 x, .int .i64 y] 73)).cell? ⟨wr.heap.size, 0, none⟩ = some (.int .i64 x) := by go_simp
      have b1 : (wr.alloc (.cells #[.int .i64 x, .int .i64 y] 73)).cell? ⟨wr.heap.size, 1, none⟩ = some (.int .i64 y) := by go_simp
      have hkn : (k : Int) < (N : Int) := by omega
      have hZs : wr.heap.size < (wr.alloc (.cells #[.int .i64 x, .int .i64 y] 73)).heap.size := by simp
      clear hal hq hbw hxy hnx
      go_upto_region 5 with (fail)
      generalize hZ : wr.alloc (.cells #[.int .i64 x, .int .i64 y] 73) = Z at *
      clear hZ a0 a1
      have hZ1 := HB2.out.size
      -- the row of two, and the world behind it
      have HU : RowKit.Hid (InRow (Z.alloc (.cells #[.int .i64 x, .int .i64 y] 3)) w1.heap.size (.slice (some ⟨Z.heap.size, 0, none⟩) 2 2) (twoI (x, y))) := Lib.hid (World.ownsRow_lit (base := w1.heap.size) (e := 3) (size := 1) Z #[.int .i64 x, .int .i64 y] 2 hZ1 (by unfold maxLen; omega) rfl)
      have HO2 := Lib.hid (show (Z.alloc (.cells #[.int .i64 x, .int .i64 y] 3)).ownsRow w1.heap.size 38 1 (.slice sa k cc) k (twos gs) from by have := World.ownsRow.alloc HQ2.out.row (.cells #[.int .i64 x, .int .i64 y] 3); rwa [HGL.out] at this)
      go_wp2_with (at_builtin; refine wpList_append_lies _ rfl _ _ _ rfl w1.heap.size 38 i0 _ 1 24 Try.underlying34 hi0 hz0 hz1 hz2 rfl (by omega) (.slice sa k cc) k (twos gs) (by rfl) (World.ownsRow.alloc HO2.out _) ⟨Z.heap.size + 1, 0, none⟩ 1 1 [.slice (some ⟨Z.heap.size, 0, none⟩) 2 2] (by first | rfl | simp) (by rfl) (World.news_of_block (cs := #[.slice (some ⟨Z.heap.size, 0, none⟩) 2 2]) (t := 38) (fr := (0, 0)) (by have := heap_alloc_new (Z.alloc (.cells #[.int .i64 x, .int .i64 y] 3)) (.cells #[.slice (some ⟨Z.heap.size, 0, none⟩) 2 2] 38); simpa using this)) (by simp [Value.oneCell']) (by omega) (by unfold maxLen; omega) (by omega) (by first | omega | (simp; omega)) (Z.heap.size + 2) (by simp) ?_; intro g5 cp5 w6 hown6 hgrow6 hat6 hgl6; have HO6 := Lib.hid hown6; have HG6 := Lib.hid hgrow6; clear hown6 hgrow6 hat6 hgl6)
      have hb6 : Below w1.heap.size w1 ((Z.alloc (.cells #[.int .i64 x, .int .i64 y] 3)).alloc (.cells #[.slice (some ⟨Z.heap.size, 0, none⟩) 2 2] 38)) := (HB2.out.alloc HB2.out.size _).alloc (by simp; omega) _
      have hoy := World.ownsRow.alloc HO2.out (.cells #[.slice (some ⟨Z.heap.size, 0, none⟩) 2 2] 38)
      have HB6 : RowKit.Hid (Below w1.heap.size w1 w6) := Lib.hid (hb6.grown HG6.out (by simp; omega) (fun j hj => by have := (World.ownsRow.lt hoy j hj).1; omega))
      have HQ6 : RowKit.Hid (QQ w6 w1.heap.size (.slice (some ⟨g5, 0, none⟩) (k + 1) cp5) (gs ++ [Z.heap.size]) (V.take (k + 1))) := Lib.hid (by
        rw [HNX.out]
        have q0 : QQ ((Z.alloc (.cells #[.int .i64 x, .int .i64 y] 3)).alloc (.cells #[.slice (some ⟨Z.heap.size, 0, none⟩) 2 2] 38)) w1.heap.size (.slice sa k cc) gs (V.take k) := (HQ2.out.below (cd_al Z _)).below (cd_al _ _)
        refine q0.push (HU.out.below (cd_al _ _)) (fun i hi => ?_) HG6.out ?_
        · exact (two_ge (HQ2.out.two i hi)).2
        · rw [HGL.out]; exact HO6.out)
      clear hb6 hoy
      go_wp2_with fail
      go_roundw
      case rel => exact ⟨k + 1, _, _, _, hlt, by go_num, rfl, by rw [List.length_append, HGL.out]; rfl, HQ6.out, HB6.out⟩
      case measure => simp [intOf]; omega
    · have hkn : k = N := by omega
      have HE := Lib.hid (show V.take k = V by rw [hkn, ← HQ.out.2]; exact List.take_length)
      clear hbw hq hkn
      go_wp2_with fail
      go_ret
      refine ⟨_, rfl, ⟨gs, ?_⟩, HB1.out.trans (HB.out.mono HB1.out.size)⟩
      have := HQK.out.base HB1.out.size
      rwa [HE.out] at this

set_option maxHeartbeats 4000000 in
theorem implHighestJoint (w : World) (B B2 g cap n : Nat) (la : Option Addr) (m lc : Nat) (js : List Jt) (ls : List Ld) (th tv tm td : Int) (hr : JRowAt w B g cap js) (hn : js.length = n) (hl : Lds w B2 la m lc ls) :
    Calls Try.prog 11 #[.agg #[.slice (some ⟨g, 0, none⟩) n cap], .slice la m lc, .agg #[.int .i64 th, .int .i64 tv, .int .i64 tm, .int .i64 td]] w fun e w' => e = .returned (.int .i64 (hiV (lineV js ls th tv tm td))) ∧ Below w.heap.size w w' := by
  have HL := Lib.hid (fun (W : World) (hW : Below w.heap.size w W) => implLineOf W B B2 g cap n la m lc js ls th tv tm td (hr.below hW) hn (hl.below hW))
  have HP := Lib.hid (lineV_pls js ls th tv tm td)
  have hsm := lineV_small js ls th tv tm td
  generalize lineV js ls th tv tm td = V at *
  have HB0 := Lib.hid (abox_below w g n cap th tv tm td)
  have HX0 := Lib.hid (abox_alloc w g n cap th tv tm td)
  clear hr hn hl
  obtain ⟨x0, x1, x2, x3, x4⟩ := HX0.out
  go_enter Try.func11, Try.ntmps11
  go_wp2_with fail
  refine (HL.out _ HB0.out).mono ?_
  rintro e w1 ⟨lv, rfl, hrow, hb1⟩
  obtain ⟨a, N, lcp, rfl, hq⟩ := qsOf hrow
  have HB1 := Lib.hid (HB0.out.trans (hb1.mono HB0.out.size))
  have HQ := Lib.hid hq
  obtain ⟨hnc, hcm⟩ := hq.cap
  unfold maxLen at hcm
  have hN : N ≤ 8 := by have := hq.2; omega
  clear hb1 hrow hq HB0 HX0 x0 x1 x2 x3 x4 HL
  go_wp2_with fail
  go_loopw [8, 9, 17] (fun s _ t wr => ∃ (k : Nat), k ≤ N ∧ t = .int .i64 k ∧ s = .int .i64 (hiTo V k) ∧ Below w1.heap.size w1 wr)
    (fun _ _ t _ => N - (intOf t).toNat)
  case atStart => exact ⟨0, Nat.zero_le _, rfl, rfl, Below.refl _ _⟩
  case round =>
    obtain ⟨k, hk, rfl, rfl, hbw⟩ := hrel
    have HB := Lib.hid hbw
    by_cases hlt : k < N
    · have hbd := hiTo_bd V k
      have hqw := HQ.out.below hbw
      obtain ⟨gg, rfl, hgB, a0, a1⟩ := hqw.at k hlt
      have hp := HP.out k (by have := HQ.out.2; omega)
      have hy := hiTo_yes (l := V) (k := k)
      have hno := hiTo_no (l := V) (k := k)
      by_cases h0 : hiTo V k < 0
      · have HNX := Lib.hid (hy (.inl h0))
        generalize hiTo V k = h at *
        obtain ⟨⟨x, y⟩, hxy⟩ : ∃ p, pt V k = p := ⟨_, rfl⟩
        rw [hxy] at a0 a1
        dsimp only at a0 a1
        have hal := cd_al wr (.cells #[.int .i64 x, .int .i64 y] 73)
        have HB2 := Lib.hid (HB.out.trans (hal.mono HB.out.size))
        have hkn : (k : Int) < (N : Int) := by omega
        clear hal hbw hxy hy hno hp hqw hbd
        go_upto_region 5 with (fail)
        generalize hZ : wr.alloc (.cells #[.int .i64 x, .int .i64 y] 73) = Z at *
        clear hZ a0 a1
        have hn1 := Since.nonempty Z
        refine wp_region_since (by kernel_rfl) (by kernel_rfl) ?_
        repeat (go_big_quiet_step (fail))
        refine wpQuiet_nil ?_
        rintro w2 ⟨⟨w2, hb2⟩, rfl⟩
        have HB3 := Lib.hid (HB2.out.trans (hb2.mono HB2.out.size))
        clear hb2
        go_wp2_with fail
        go_roundw
        case rel => exact ⟨k + 1, hlt, by go_num, by rw [HNX.out], HB3.out⟩
        case measure => simp [intOf]; omega
      · obtain ⟨j, hj⟩ : ∃ j : Nat, hiTo V k = j := ⟨(hiTo V k).toNat, by omega⟩
        have hjk : j < k := by omega
        obtain ⟨g2, hg2, -, c0, c1⟩ := hqw.at j (by omega)
        obtain rfl : gg = g2 := by simpa using hg2
        have hpj := HP.out j (by have := HQ.out.2; omega)
        rw [hj] at hy hno h0 ⊢
        have hjn : ¬ ((j : Int) < 0) := by omega
        rw [show ((j : Int)).toNat = j by omega] at hy hno
        have hkn : (k : Int) < (N : Int) := by omega
        have hjN : (j : Int) < (N : Int) := by omega
        have hj0 : (0 : Int) ≤ (j : Int) := by omega
        obtain ⟨⟨x, y⟩, hxy⟩ : ∃ p, pt V k = p := ⟨_, rfl⟩
        obtain ⟨⟨u, v⟩, huv⟩ : ∃ p, pt V j = p := ⟨_, rfl⟩
        rw [hxy] at a0 a1 hy hno hp
        rw [huv] at c0 c1 hy hno hpj
        dsimp only at a0 a1 c0 c1
        have hal := cd_al wr (.cells #[.int .i64 x, .int .i64 y] 73)
        have HB2 := Lib.hid (HB.out.trans (hal.mono HB.out.size))
        have b0 : (wr.alloc (.cells #[.int .i64 x, .int .i64 y] 73)).cell? ⟨wr.heap.size, 0, none⟩ = some (.int .i64 x) := by go_simp
        have b1 : (wr.alloc (.cells #[.int .i64 x, .int .i64 y] 73)).cell? ⟨wr.heap.size, 1, none⟩ = some (.int .i64 y) := by go_simp
        have d0 := cell_kept c0 hal
        have d1 := cell_kept c1 hal
        have HLS := Lib.hid (fun W => implLess u v x y W ⟨hpj.lo, Int.le_trans hpj.hi hpj.le⟩ ⟨hpj.pos, hpj.le⟩ ⟨hp.lo, Int.le_trans hp.hi hp.le⟩ ⟨hp.pos, hp.le⟩)
        have HY := Lib.hid hy
        have HNO := Lib.hid hno
        have HJ := Lib.hid hj
        clear hal hbw hxy huv hy hno hp hpj hqw hbd hg2 hj h0
        go_upto_region 5 with (fail)
        generalize hZ : wr.alloc (.cells #[.int .i64 x, .int .i64 y] 73) = Z at *
        clear hZ a0 a1 c0 c1
        have hn1 := Since.nonempty Z
        have sb0 := fun (x : Since Z) => (x.cell wr.heap.size 0 (cell_block_lt b0)).trans b0
        have sb1 := fun (x : Since Z) => (x.cell wr.heap.size 1 (cell_block_lt b1)).trans b1
        have sd0 := fun (x : Since Z) => (x.cell gg (j * 2) (cell_block_lt d0)).trans d0
        have sd1 := fun (x : Since Z) => (x.cell gg (j * 2 + 1) (cell_block_lt d1)).trans d1
        cases hV : ltQ (u, v) (x, y)
        · have HN := Lib.hid (HNO.out hjn hV)
          rw [hV] at HLS
          clear hV b0 b1 d0 d1
          refine wp_region_since (by kernel_rfl) (by kernel_rfl) ?_
          repeat (go_big_quiet_step (first
            | (go_at_call 36; exact Since.call (HLS.out _))))
          refine wpQuiet_nil ?_
          rintro w2 ⟨⟨w2, hb2⟩, rfl⟩
          have HB3 := Lib.hid (HB2.out.trans (hb2.mono HB2.out.size))
          clear hb2 sb0 sb1 sd0 sd1 hn1
          go_wp2_with fail
          go_roundw
          case rel => exact ⟨k + 1, hlt, by go_num, by rw [HN.out], HB3.out⟩
          case measure => simp [intOf]; omega
        · have HN := Lib.hid (HY.out (.inr hV))
          rw [hV] at HLS
          clear hV b0 b1 d0 d1
          refine wp_region_since (by kernel_rfl) (by kernel_rfl) ?_
          repeat (go_big_quiet_step (first
            | (go_at_call 36; exact Since.call (HLS.out _))))
          refine wpQuiet_nil ?_
          rintro w2 ⟨⟨w2, hb2⟩, rfl⟩
          have HB3 := Lib.hid (HB2.out.trans (hb2.mono HB2.out.size))
          clear hb2 sb0 sb1 sd0 sd1 hn1
          go_wp2_with fail
          go_roundw
          case rel => exact ⟨k + 1, hlt, by go_num, by rw [HN.out], HB3.out⟩
          case measure => simp [intOf]; omega
    · have hkn : k = N := by omega
      have HE := Lib.hid (show hiV V = hiTo V k by unfold hiV; rw [hkn, HQ.out.2])
      clear hbw hkn
      go_wp2_with fail
      go_ret
      exact ⟨ret_i64 HE.out.symm, HB1.out.trans (HB.out.mono HB1.out.size)⟩

set_option maxHeartbeats 4000000 in
theorem implTouchedJoints (w : World) (B B2 g cap n : Nat) (la : Option Addr) (m lc : Nat) (js : List Jt) (ls : List Ld) (th tv tm td : Int) (hr : JRowAt w B g cap js) (hn : js.length = n) (hl : Lds w B2 la m lc ls) :
    Calls Try.prog 10 #[.agg #[.slice (some ⟨g, 0, none⟩) n cap], .slice la m lc, .agg #[.int .i64 th, .int .i64 tv, .int .i64 tm, .int .i64 td]] w fun e w' => ∃ x, e = .returned x ∧ InRow w' w.heap.size x (tjV (lineV js ls th tv tm td)) ∧ Below w.heap.size w w' := by
  obtain ⟨i0, hi0, hz0, hz1, hz2⟩ := info_parts Try.infoI
  have HL := Lib.hid (fun (W : World) (hW : Below w.heap.size w W) => implLineOf W B B2 g cap n la m lc js ls th tv tm td (hr.below hW) hn (hl.below hW))
  have hsm := lineV_small js ls th tv tm td
  generalize lineV js ls th tv tm td = V at *
  have HB0 := Lib.hid (abox_below w g n cap th tv tm td)
  have HX0 := Lib.hid (abox_alloc w g n cap th tv tm td)
  clear hr hn hl
  obtain ⟨x0, x1, x2, x3, x4⟩ := HX0.out
  go_enter Try.func10, Try.ntmps10
  go_wp2_with fail
  refine (HL.out _ HB0.out).mono ?_
  rintro e w1 ⟨lv, rfl, hrow, hb1⟩
  obtain ⟨a, N, lcp, rfl, hq⟩ := qsOf hrow
  have HB1 := Lib.hid (HB0.out.trans (hb1.mono HB0.out.size))
  have HQ := Lib.hid hq
  obtain ⟨hnc, hcm⟩ := hq.cap
  unfold maxLen at hcm
  have hN : N ≤ 8 := by have := hq.2; omega
  clear hb1 hrow hq HB0 HX0 x0 x1 x2 x3 x4 HL
  go_wp2_with fail
  go_loopw [7, 8, 15] (fun s _ t wr => ∃ (k : Nat) (sa : Option Addr) (c cc : Nat), k ≤ N ∧ t = .int .i64 k ∧ s = .slice sa c cc ∧ c ≤ k ∧ Ins wr w1.heap.size sa c cc (tjTo V k) ∧ Below w1.heap.size w1 wr)
    (fun _ _ t _ => N - (intOf t).toNat)
  case atStart => exact ⟨0, none, 0, 0, Nat.zero_le _, rfl, rfl, Nat.le_refl _, ⟨InRow.nil _ _, rfl⟩, Below.refl _ _⟩
  case round =>
    obtain ⟨k, sa, c, cc, hk, rfl, rfl, hck, hin, hbw⟩ := hrel
    have HB := Lib.hid hbw
    have HI := Lib.hid hin
    obtain ⟨hcc, hcm2⟩ := hin.cap
    unfold maxLen at hcm2
    by_cases hlt : k < N
    · obtain ⟨gg, rfl, hgB, a0, a1⟩ := (HQ.out.below hbw).at k hlt
      have hy := tjTo_yes (l := V) (k := k)
      have hno := tjTo_no (l := V) (k := k)
      obtain ⟨⟨x, y⟩, hxy⟩ : ∃ p, pt V k = p := ⟨_, rfl⟩
      rw [hxy] at a0 a1 hy hno
      dsimp only at a0 a1
      have hal := cd_al wr (.cells #[.int .i64 x, .int .i64 y] 73)
      have HB2 := Lib.hid (HB.out.trans (hal.mono HB.out.size))
      have HI2 := Lib.hid (HI.out.below hal)
      have b0 : (wr.alloc (.cells #[.int .i64 x, .int .i64 y] 73)).cell? ⟨wr.heap.size, 0, none⟩ = some (.int .i64 x) := by go_simp
      have b1 : (wr.alloc (.cells #[.int .i64 x, .int .i64 y] 73)).cell? ⟨wr.heap.size, 1, none⟩ = some (.int .i64 y) := by go_simp
      have hkn : (k : Int) < (N : Int) := by omega
      have HY := Lib.hid hy
      have HNO := Lib.hid hno
      have HE := Lib.hid (endQ_iff (q := (x, y)))
      clear hal hin hbw hxy hy hno
      go_upto_region 5 with (fail)
      generalize hZ : wr.alloc (.cells #[.int .i64 x, .int .i64 y] 73) = Z at *
      clear hZ a0 a1
      have hZ1 := HB2.out.size
      cases hen : endQ (x, y)
      · have HNX := Lib.hid (HNO.out hen)
        have hne : ¬ (x = 0 ∨ x = y) := fun h => by have := HE.out.2 h; rw [hen] at this; cases this
        have h1 : (x == 0) = false := by simp; omega
        have h2 : (x == y) = false := by simp; omega
        clear hen hne
        go_wp2_with fail
        go_roundw
        case rel => exact ⟨k + 1, sa, c, cc, hlt, by go_num, rfl, by omega, by rw [HNX.out]; exact HI2.out, HB2.out⟩
        case measure => simp [intOf]; omega
      · have HNX := Lib.hid (HY.out hen)
        have hor := HE.out.1 hen
        have HO := Lib.hid (show Z.ownsRow w1.heap.size 3 1 (.slice sa c cc) c (ints (tjTo V k)) from by have := HI2.out.1; unfold InRow at this; rwa [HI2.out.2] at this)
        have HLN := Lib.hid HI2.out.2
        clear hen
        have h12 : (x == 0) = true ∨ ((x == 0) = false ∧ (x == y) = true) := by
          by_cases h : x = 0
          · exact .inl (by simp [h])
          · exact .inr ⟨by simp [h], by simp; omega⟩
        rcases h12 with h1 | ⟨h1, h2⟩
        all_goals
          go_wp2_with (at_builtin; refine wpList_append_lies _ rfl _ _ _ rfl w1.heap.size 3 i0 _ 1 8 Try.underlying38 hi0 hz0 hz1 hz2 rfl (by omega) (.slice sa c cc) c (ints (tjTo V k)) (by rfl) (World.ownsRow.alloc HO.out _) ⟨Z.heap.size, 0, none⟩ 1 1 [.int .i64 (k : Int)] (by rfl) (by rfl) (World.news_of_block (cs := #[.int .i64 (k : Int)]) (t := 3) (fr := (0, 0)) (heap_alloc_new Z _)) (by simp [Value.oneCell']) (by omega) (by unfold maxLen; omega) (by omega) (by first | omega | (simp; omega)) (Z.heap.size + 1) (by simp) ?_; intro g5 cp5 w6 hown6 hgrow6 hat6 hgl6; have HO6 := Lib.hid hown6; have HG6 := Lib.hid hgrow6; clear hown6 hgrow6 hat6 hgl6)
          have hoy := World.ownsRow.alloc HO.out (.cells #[.int .i64 (k : Int)] 3)
          have HB6 : RowKit.Hid (Below w1.heap.size w1 w6) := Lib.hid (below_grownQ (HB2.out.alloc HB2.out.size _) HG6.out (by simp; omega) (fun j hj => by have := (World.ownsRow.lt hoy j hj).1; omega))
          have HI6 : RowKit.Hid (Ins w6 w1.heap.size (some ⟨g5, 0, none⟩) (c + 1) cp5 (tjTo V (k + 1))) := Lib.hid (by
            rw [HNX.out]
            refine ⟨?_, by rw [List.length_append, HLN.out]; rfl⟩
            unfold InRow
            rw [ints_append, List.length_append, HLN.out]
            exact HO6.out)
          clear hoy
          go_roundw
        all_goals first
          | exact ⟨k + 1, _, _, _, hlt, by go_num, rfl, by omega, HI6.out, HB6.out⟩
          | (simp [intOf]; omega)
    · have hkn : k = N := by omega
      have HE := Lib.hid (show tjV V = tjTo V k by unfold tjV; rw [hkn, HQ.out.2])
      clear hbw hin hkn
      go_wp2_with fail
      go_ret
      exact ⟨_, rfl, by rw [HE.out]; exact InRow.base (HI.out.2 ▸ HI.out.1) HB1.out.size, HB1.out.trans (HB.out.mono HB1.out.size)⟩
end Go.Proofs.Ytbmlcfdilopmgaa
