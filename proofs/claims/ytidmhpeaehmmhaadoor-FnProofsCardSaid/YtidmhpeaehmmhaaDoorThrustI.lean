/- The program's functions on thrusts: isMixable, MakeThrust, CompareThrusts, MixThrusts. -/
import Derived.Test.YtidmhpeaehmmhaaDoorThrustC
namespace Go.Proofs.YtidmhpeaehmmhaaDoor
set_option maxRecDepth 100000
open Go.ChangeShapes Go.WideShapes Go.ChangeAt Go.RowKit

/-- What isMixable answers. -/
def mixT (h v m d : Int) : Bool := okT h v m d && decide (d ≤ 1000)


theorem isBetween_given (n : Int) (w : World) : Calls Tryd.prog 18 #[.int .i64 n, .int .i64 (-4000000000000000000), .int .i64 4000000000000000000] w fun e w' => e = .returned (.bool (inF n)) ∧ w = w' := isBetweenR n _ _ w (by omega)

/-- The four given numbers, by number. -/
def four (h v m d : Int) : List Int := [h, v, m, d]
theorem inF_all {h v m d : Int} (hk : ∀ j, j < 4 → inF ((four h v m d).getD j 0) = true) : mkIn h v m d = true := by
  have h0 := hk 0 (by omega)
  have h1 := hk 1 (by omega)
  have h2 := hk 2 (by omega)
  have h3 := hk 3 (by omega)
  simp [four] at h0 h1 h2 h3
  unfold mkIn; rw [h0, h1, h2, h3]; rfl
theorem inF_not {h v m d : Int} {j : Nat} (hj : j < 4) (hk : inF ((four h v m d).getD j 0) = false) : mkIn h v m d = false := by
  unfold mkIn
  match j, hj with
  | 0, _ => simp [four] at hk; rw [hk]; rfl
  | 1, _ => simp [four] at hk; rw [hk]; simp
  | 2, _ => simp [four] at hk; rw [hk]; simp
  | 3, _ => simp [four] at hk; rw [hk]; simp
theorem mkB_zero {h v m : Int} : mkB h v m 0 = false := rfl
theorem mkB_out {h v m d : Int} (hi : mkIn h v m d = false) : mkB h v m d = false := by unfold mkB; rw [hi]; simp
theorem mkB_in {h v m d : Int} (hd : d ≠ 0) (hi : mkIn h v m d = true) : mkB h v m d = okT (h.tdiv (sgn h v m d)) (v.tdiv (sgn h v m d)) (m.tdiv (sgn h v m d)) (d.tdiv (sgn h v m d)) := by
  unfold mkB; rw [hi, decide_eq_false hd]; rfl
theorem inF_abs {n : Int} (h : inF n = true) : n.natAbs ≤ 4000000000000000000 := by
  have := inR_iff.1 h
  omega

/-- What MakeThrust answers, as a value. -/
def mkV (h v m d : Int) : Value := .tuple #[.agg #[.int .i64 (mkN h h v m d), .int .i64 (mkN v h v m d), .int .i64 (mkN m h v m d), .int .i64 (mkN d h v m d)], .bool (mkB h v m d)]
theorem mkV_no {h v m d : Int} (hb : mkB h v m d = false) : mkV h v m d = .tuple #[.agg #[.int .i64 0, .int .i64 0, .int .i64 0, .int .i64 0], .bool false] := by
  unfold mkV; rw [mkN_no hb, mkN_no hb, mkN_no hb, mkN_no hb, hb]
theorem mkV_yes {h v m d a b c e s : Int} (hb : mkB h v m d = true) (hs : sgn h v m d = s) (ha : h.tdiv s = a) (hb' : v.tdiv s = b) (hc : m.tdiv s = c) (he : d.tdiv s = e) : mkV h v m d = .tuple #[.agg #[.int .i64 a, .int .i64 b, .int .i64 c, .int .i64 e], .bool true] := by
  unfold mkV; rw [mkN_yes hb, mkN_yes hb, mkN_yes hb, mkN_yes hb, hb, hs, ha, hb', hc, he]


theorem cmp_prod {h v m d h' v' m' d' : Int} (ha : okT h v m d = true) (hb : okT h' v' m' d' = true) : -1000000000000000000 ≤ h * d' ∧ h * d' ≤ 1000000000000000000 := by
  have a := okT_iff.1 ha
  have b := okT_iff.1 hb
  have := mulT_bd (x := h) (y := d') 1000000000000 1000000 (by omega) (by omega)
  omega
theorem mixT_yes {h v m d : Int} (ht : mixT h v m d = true) : okT h v m d = true ∧ d ≤ 1000 := by
  unfold mixT at ht; simp at ht; exact ht
theorem mixT_both {ah av am ad bh bv bm bd : Int} (ha : mixT ah av am ad = true) (hb : mixT bh bv bm bd = true) : mxOk ah av am ad bh bv bm bd = true := by
  unfold mxOk; rw [show (okT ah av am ad && decide (ad ≤ 1000)) = true from ha, show (okT bh bv bm bd && decide (bd ≤ 1000)) = true from hb]; rfl
theorem mixT_a {ah av am ad bh bv bm bd : Int} (ha : mixT ah av am ad = false) : mxOk ah av am ad bh bv bm bd = false := by
  unfold mxOk; rw [show (okT ah av am ad && decide (ad ≤ 1000)) = false from ha]; rfl
theorem mixT_b {ah av am ad bh bv bm bd : Int} (hb : mixT bh bv bm bd = false) : mxOk ah av am ad bh bv bm bd = false := by
  unfold mxOk; rw [show (okT bh bv bm bd && decide (bd ≤ 1000)) = false from hb]; simp
/-- What MixThrusts answers, as a value. -/
def mxV (ah av am ad bh bv bm bd : Int) : Value := if mxOk ah av am ad bh bv bm bd then mkV (mxH ah ad bh bd) (mxH av ad bv bd) (mxH am ad bm bd) (mxD ad bd) else .tuple #[.agg #[.int .i64 0, .int .i64 0, .int .i64 0, .int .i64 0], .bool false]
theorem mxV_no {ah av am ad bh bv bm bd : Int} (h : mxOk ah av am ad bh bv bm bd = false) : mxV ah av am ad bh bv bm bd = .tuple #[.agg #[.int .i64 0, .int .i64 0, .int .i64 0, .int .i64 0], .bool false] := by unfold mxV; rw [h]; rfl
theorem mxV_yes {ah av am ad bh bv bm bd : Int} (h : mxOk ah av am ad bh bv bm bd = true) : mxV ah av am ad bh bv bm bd = mkV (mxH ah ad bh bd) (mxH av ad bv bd) (mxH am ad bm bd) (mxD ad bd) := by unfold mxV; rw [h]; rfl
theorem mkV_any (h v m d : Int) : ∃ (a b c e : Int) (t : Bool), mkV h v m d = .tuple #[.agg #[.int .i64 a, .int .i64 b, .int .i64 c, .int .i64 e], .bool t] := ⟨_, _, _, _, _, rfl⟩
theorem mxV_any (ah av am ad bh bv bm bd : Int) : ∃ (a b c e : Int) (t : Bool), mxV ah av am ad bh bv bm bd = .tuple #[.agg #[.int .i64 a, .int .i64 b, .int .i64 c, .int .i64 e], .bool t] := by
  cases h : mxOk ah av am ad bh bv bm bd
  · exact ⟨_, _, _, _, _, mxV_no h⟩
  · exact ⟨_, _, _, _, _, mxV_yes h⟩
/-- Two products of a mixture and their sum. -/
theorem mix_prod {x y p q : Int} (hx : -10000000000000 ≤ x ∧ x ≤ 10000000000000) (hy : -10000000000000 ≤ y ∧ y ≤ 10000000000000) (hp : 1 ≤ p ∧ p ≤ 1000) (hq : 1 ≤ q ∧ q ≤ 1000) :
    (-10000000000000000 ≤ x * q ∧ x * q ≤ 10000000000000000) ∧ (-10000000000000000 ≤ y * p ∧ y * p ≤ 10000000000000000) := by
  have := mulT_bd (x := x) (y := q) 10000000000000 1000 (by omega) (by omega)
  have := mulT_bd (x := y) (y := p) 10000000000000 1000 (by omega) (by omega)
  omega


end Go.Proofs.YtidmhpeaehmmhaaDoor
