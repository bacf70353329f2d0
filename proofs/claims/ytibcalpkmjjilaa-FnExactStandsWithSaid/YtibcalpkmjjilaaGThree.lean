/- Three rows, plainly: their determinant, the thrust by which they are just met, which rows a thrust just meets, the corners of a list of rows, as functions of the numbers; Three rows: the contracts of the program's linesOf, determinant, DetOfRows, SolveRows, isJustMetBy and IsJustMet; Three rows: the contracts of the program's isJustMetBy, IsJustMet, DetOfRows and SolveRows. -/
import Derived.Test.YtibcalpkmjjilaaGCond
import Derived.Test.YtibcalpkmjjilaaGThrust
import Derived.LoopN
import Derived.BigRegion
import Derived.Deep.RegionHeld3

/- Three rows, plainly: their determinant, the thrust by which they are just met, which rows a thrust just meets, the corners of a list of rows, as functions of the numbers. -/
namespace Go.Proofs.Ytibcalpkmjjilaa
set_option maxRecDepth 100000

/-- The determinant of three lines of three numbers. -/
def det3 (a b c d e f g h i : Int) : Int := a * (e * i - f * h) - b * (d * i - f * g) + c * (d * h - e * g)
theorem det_turn (a b c d e f g h i : Int) : det3 d e f g h i a b c = det3 a b c d e f g h i := by unfold det3; grind
theorem det_swap (a b c d e f g h i : Int) : det3 d e f a b c g h i = -det3 a b c d e f g h i := by unfold det3; grind
theorem cramer1 (a b c x d e f y g h i z : Int) : a * det3 x b c y e f z h i + b * det3 a x c d y f g z i + c * det3 a b x d e y g h z = x * det3 a b c d e f g h i := by unfold det3; grind
theorem cramer2 (a b c x d e f y g h i z : Int) : d * det3 x b c y e f z h i + e * det3 a x c d y f g z i + f * det3 a b x d e y g h z = y * det3 a b c d e f g h i := by unfold det3; grind
theorem cramer3 (a b c x d e f y g h i z : Int) : g * det3 x b c y e f z h i + h * det3 a x c d y f g z i + i * det3 a b x d e y g h z = z * det3 a b c d e f g h i := by unfold det3; grind

def okR (p : Cd) : Bool := cdOk p.1 p.2.1 p.2.2.1 p.2.2.2
def dtR (p q r : Cd) : Int := det3 p.1 p.2.1 p.2.2.1 q.1 q.2.1 q.2.2.1 r.1 r.2.1 r.2.2.1
def dtH (p q r : Cd) : Int := det3 p.2.2.2 p.2.1 p.2.2.1 q.2.2.2 q.2.1 q.2.2.1 r.2.2.2 r.2.1 r.2.2.1
def dtU (p q r : Cd) : Int := det3 p.1 p.2.2.2 p.2.2.1 q.1 q.2.2.2 q.2.2.1 r.1 r.2.2.2 r.2.2.1
def dtM (p q r : Cd) : Int := det3 p.1 p.2.1 p.2.2.2 q.1 q.2.1 q.2.2.2 r.1 r.2.1 r.2.2.2
/-- What DetOfRows answers. -/
def dtV (p q r : Cd) : Int := if okR p && okR q && okR r then dtR p q r else 0
theorem dtV_yes {p q r : Cd} (hp : okR p = true) (hq : okR q = true) (hr : okR r = true) : dtV p q r = dtR p q r := by unfold dtV; rw [hp, hq, hr]; rfl
theorem dtV_p {p q r : Cd} (hp : okR p = false) : dtV p q r = 0 := by unfold dtV; rw [hp]; rfl
theorem dtV_q {p q r : Cd} (hq : okR q = false) : dtV p q r = 0 := by unfold dtV; rw [hq]; simp
theorem dtV_r {p q r : Cd} (hr : okR r = false) : dtV p q r = 0 := by unfold dtV; rw [hr]; simp
theorem dtV_ok {p q r : Cd} (h : dtV p q r ≠ 0) : okR p = true ∧ okR q = true ∧ okR r = true := by
  unfold dtV at h
  split at h
  · rename_i hh; simp only [Bool.and_eq_true] at hh; exact ⟨hh.1.1, hh.1.2, hh.2⟩
  · exact absurd rfl h
theorem dtV_turn (p q r : Cd) : dtV q r p = dtV p q r := by
  unfold dtV dtR
  rw [det_turn, Bool.and_comm (okR q && okR r), ← Bool.and_assoc]
theorem dtV_swap (p q r : Cd) : dtV q p r = -dtV p q r := by
  unfold dtV dtR
  rw [det_swap, Bool.and_comm (okR q)]
  split <;> simp

theorem okR_iff {p : Cd} : okR p = true ↔ (-100 ≤ p.1 ∧ p.1 ≤ 100) ∧ (-100 ≤ p.2.1 ∧ p.2.1 ≤ 100) ∧ (-1 ≤ p.2.2.1 ∧ p.2.2.1 ≤ 1) ∧ (-1000000000 ≤ p.2.2.2 ∧ p.2.2.2 ≤ 1000000000) := cdOk_iff
/-- A determinant's products, of numbers with bounds. -/
structure DetBd (L : Nat) (a b c d e f g h i : Int) : Prop where
  ei : -(L : Int) ≤ e * i ∧ e * i ≤ L
  fh : -(L : Int) ≤ f * h ∧ f * h ≤ L
  di : -(L : Int) ≤ d * i ∧ d * i ≤ L
  fg : -(L : Int) ≤ f * g ∧ f * g ≤ L
  dh : -(L : Int) ≤ d * h ∧ d * h ≤ L
  eg : -(L : Int) ≤ e * g ∧ e * g ≤ L
  a3 : -(1000000000000000 : Int) ≤ a * (e * i - f * h) ∧ a * (e * i - f * h) ≤ 1000000000000000
  b3 : -(1000000000000000 : Int) ≤ b * (d * i - f * g) ∧ b * (d * i - f * g) ≤ 1000000000000000
  c3 : -(1000000000000000 : Int) ≤ c * (d * h - e * g) ∧ c * (d * h - e * g) ≤ 1000000000000000
theorem mulN_bd {x y : Int} {a b : Nat} (hx : -(a : Int) ≤ x ∧ x ≤ a) (hy : -(b : Int) ≤ y ∧ y ≤ b) {L : Nat} (hl : a * b ≤ L) : -(L : Int) ≤ x * y ∧ x * y ≤ L := by
  have := mulT_bd (x := x) (y := y) a b hx hy
  have hl' : ((a * b : Nat) : Int) ≤ (L : Int) := Int.ofNat_le.2 hl
  omega
theorem mulI_bd {x y : Int} {a b : Nat} (hx : -(a : Int) ≤ x ∧ x ≤ a) (hy : -(b : Int) ≤ y ∧ y ≤ b) (hl : a * b ≤ 1000000000000000) : -(1000000000000000 : Int) ≤ x * y ∧ x * y ≤ 1000000000000000 := by
  have := mulN_bd hx hy hl
  omega
/-- The first column's numbers are at most A, the second's B, the third's C. -/
theorem det_bd {A B C : Nat} {a b c d e f g h i : Int} (ha : -(A : Int) ≤ a ∧ a ≤ A) (hb : -(B : Int) ≤ b ∧ b ≤ B) (hc : -(C : Int) ≤ c ∧ c ≤ C) (hd : -(A : Int) ≤ d ∧ d ≤ A) (he : -(B : Int) ≤ e ∧ e ≤ B) (hf : -(C : Int) ≤ f ∧ f ≤ C)
    (hg : -(A : Int) ≤ g ∧ g ≤ A) (hh : -(B : Int) ≤ h ∧ h ≤ B) (hi : -(C : Int) ≤ i ∧ i ≤ C) {L : Nat} (h1 : B * C ≤ L) (h2 : A * C ≤ L) (h3 : A * B ≤ L) (k1 : A * (2 * L) ≤ 1000000000000000) (k2 : B * (2 * L) ≤ 1000000000000000) (k3 : C * (2 * L) ≤ 1000000000000000) :
    DetBd L a b c d e f g h i := by
  have ei := mulN_bd he hi h1
  have fh := mulN_bd hf hh (show C * B ≤ L by rw [Nat.mul_comm]; exact h1)
  have di := mulN_bd hd hi h2
  have fg := mulN_bd hf hg (show C * A ≤ L by rw [Nat.mul_comm]; exact h2)
  have dh := mulN_bd hd hh h3
  have eg := mulN_bd he hg (show B * A ≤ L by rw [Nat.mul_comm]; exact h3)
  exact ⟨ei, fh, di, fg, dh, eg, mulI_bd ha (b := 2 * L) (by omega) k1, mulI_bd hb (b := 2 * L) (by omega) k2, mulI_bd hc (b := 2 * L) (by omega) k3⟩
theorem dtR_bd {p q r : Cd} (hp : okR p = true) (hq : okR q = true) (hr : okR r = true) : DetBd 10000 p.1 p.2.1 p.2.2.1 q.1 q.2.1 q.2.2.1 r.1 r.2.1 r.2.2.1 := by
  have a := okR_iff.1 hp
  have b := okR_iff.1 hq
  have c := okR_iff.1 hr
  exact det_bd (A := 100) (B := 100) (C := 1) (by omega) (by omega) (by omega) (by omega) (by omega) (by omega) (by omega) (by omega) (by omega) (by omega) (by omega) (by omega) (by omega) (by omega) (by omega)
theorem dtH_bd {p q r : Cd} (hp : okR p = true) (hq : okR q = true) (hr : okR r = true) : DetBd 100000000000 p.2.2.2 p.2.1 p.2.2.1 q.2.2.2 q.2.1 q.2.2.1 r.2.2.2 r.2.1 r.2.2.1 := by
  have a := okR_iff.1 hp
  have b := okR_iff.1 hq
  have c := okR_iff.1 hr
  -- the first column is the great one
  have e1 := mulN_bd (x := q.2.1) (y := r.2.2.1) (a := 100) (b := 1) (by omega) (by omega) (L := 100) (by omega)
  have e2 := mulN_bd (x := q.2.2.1) (y := r.2.1) (a := 1) (b := 100) (by omega) (by omega) (L := 100) (by omega)
  have e3 := mulN_bd (x := q.2.2.2) (y := r.2.2.1) (a := 1000000000) (b := 1) (by omega) (by omega) (L := 1000000000) (by omega)
  have e4 := mulN_bd (x := q.2.2.1) (y := r.2.2.2) (a := 1) (b := 1000000000) (by omega) (by omega) (L := 1000000000) (by omega)
  have e5 := mulN_bd (x := q.2.2.2) (y := r.2.1) (a := 1000000000) (b := 100) (by omega) (by omega) (L := 100000000000) (by omega)
  have e6 := mulN_bd (x := q.2.1) (y := r.2.2.2) (a := 100) (b := 1000000000) (by omega) (by omega) (L := 100000000000) (by omega)
  exact ⟨by omega, by omega, by omega, by omega, by omega, by omega, mulI_bd (a := 1000000000) (b := 200) (by omega) (by omega) (by omega), mulI_bd (a := 100) (b := 2000000000) (by omega) (by omega) (by omega), mulI_bd (a := 1) (b := 200000000000) (by omega) (by omega) (by omega)⟩
theorem dtU_bd {p q r : Cd} (hp : okR p = true) (hq : okR q = true) (hr : okR r = true) : DetBd 100000000000 p.1 p.2.2.2 p.2.2.1 q.1 q.2.2.2 q.2.2.1 r.1 r.2.2.2 r.2.2.1 := by
  have a := okR_iff.1 hp
  have b := okR_iff.1 hq
  have c := okR_iff.1 hr
  have e1 := mulN_bd (x := q.2.2.2) (y := r.2.2.1) (a := 1000000000) (b := 1) (by omega) (by omega) (L := 1000000000) (by omega)
  have e2 := mulN_bd (x := q.2.2.1) (y := r.2.2.2) (a := 1) (b := 1000000000) (by omega) (by omega) (L := 1000000000) (by omega)
  have e3 := mulN_bd (x := q.1) (y := r.2.2.1) (a := 100) (b := 1) (by omega) (by omega) (L := 100) (by omega)
  have e4 := mulN_bd (x := q.2.2.1) (y := r.1) (a := 1) (b := 100) (by omega) (by omega) (L := 100) (by omega)
  have e5 := mulN_bd (x := q.1) (y := r.2.2.2) (a := 100) (b := 1000000000) (by omega) (by omega) (L := 100000000000) (by omega)
  have e6 := mulN_bd (x := q.2.2.2) (y := r.1) (a := 1000000000) (b := 100) (by omega) (by omega) (L := 100000000000) (by omega)
  exact ⟨by omega, by omega, by omega, by omega, by omega, by omega, mulI_bd (a := 100) (b := 2000000000) (by omega) (by omega) (by omega), mulI_bd (a := 1000000000) (b := 200) (by omega) (by omega) (by omega), mulI_bd (a := 1) (b := 200000000000) (by omega) (by omega) (by omega)⟩
theorem dtM_bd {p q r : Cd} (hp : okR p = true) (hq : okR q = true) (hr : okR r = true) : DetBd 100000000000 p.1 p.2.1 p.2.2.2 q.1 q.2.1 q.2.2.2 r.1 r.2.1 r.2.2.2 := by
  have a := okR_iff.1 hp
  have b := okR_iff.1 hq
  have c := okR_iff.1 hr
  have e1 := mulN_bd (x := q.2.1) (y := r.2.2.2) (a := 100) (b := 1000000000) (by omega) (by omega) (L := 100000000000) (by omega)
  have e2 := mulN_bd (x := q.2.2.2) (y := r.2.1) (a := 1000000000) (b := 100) (by omega) (by omega) (L := 100000000000) (by omega)
  have e3 := mulN_bd (x := q.1) (y := r.2.2.2) (a := 100) (b := 1000000000) (by omega) (by omega) (L := 100000000000) (by omega)
  have e4 := mulN_bd (x := q.2.2.2) (y := r.1) (a := 1000000000) (b := 100) (by omega) (by omega) (L := 100000000000) (by omega)
  have e5 := mulN_bd (x := q.1) (y := r.2.1) (a := 100) (b := 100) (by omega) (by omega) (L := 10000) (by omega)
  have e6 := mulN_bd (x := q.2.1) (y := r.1) (a := 100) (b := 100) (by omega) (by omega) (L := 10000) (by omega)
  exact ⟨by omega, by omega, by omega, by omega, by omega, by omega, mulI_bd (a := 100) (b := 200000000000) (by omega) (by omega) (by omega), mulI_bd (a := 100) (b := 200000000000) (by omega) (by omega) (by omega), mulI_bd (a := 1000000000) (b := 20000) (by omega) (by omega) (by omega)⟩
theorem DetBd.val {L : Nat} {a b c d e f g h i : Int} (x : DetBd L a b c d e f g h i) : -3000000000000000 ≤ det3 a b c d e f g h i ∧ det3 a b c d e f g h i ≤ 3000000000000000 := by
  obtain ⟨-, -, -, -, -, -, h1, h2, h3⟩ := x
  unfold det3
  omega

/-- Whether SolveRows answers a thrust; the thrust (zeros where there is none). -/
def soB (p q r : Cd) : Bool := mkB (dtH p q r) (dtU p q r) (dtM p q r) (dtV p q r)
def soT (p q r : Cd) : Cd := (mkN (dtH p q r) (dtH p q r) (dtU p q r) (dtM p q r) (dtV p q r), mkN (dtU p q r) (dtH p q r) (dtU p q r) (dtM p q r) (dtV p q r), mkN (dtM p q r) (dtH p q r) (dtU p q r) (dtM p q r) (dtV p q r), mkN (dtV p q r) (dtH p q r) (dtU p q r) (dtM p q r) (dtV p q r))
def okTh (t : Cd) : Bool := okT t.1 t.2.1 t.2.2.1 t.2.2.2
theorem soB_d {p q r : Cd} (h : soB p q r = true) : dtV p q r ≠ 0 := by
  intro h0
  unfold soB at h
  rw [h0] at h
  simp [mkB] at h
theorem soB_okT {p q r : Cd} (h : soB p q r = true) : okTh (soT p q r) = true := by
  have hd := soB_d h
  unfold soB at h
  unfold okTh soT
  dsimp only
  rw [mkN_yes h, mkN_yes h, mkN_yes h, mkN_yes h]
  unfold mkB at h
  simp only [Bool.and_eq_true] at h
  exact h.2.2

/-- What IsJustMet answers. -/
def jmB (t p : Cd) : Bool := okTh t && (okR p && decide (p.1 * t.1 + p.2.1 * t.2.1 + p.2.2.1 * t.2.2.1 = p.2.2.2 * t.2.2.2))
theorem jmB_t {t p : Cd} (h : okTh t = false) : jmB t p = false := by unfold jmB; rw [h]; rfl
theorem jmB_r {t p : Cd} (h : okR p = false) : jmB t p = false := by unfold jmB; rw [h]; simp
theorem jmB_yes {t p : Cd} (h : okTh t = true) (hr : okR p = true) : jmB t p = decide (p.1 * t.1 + p.2.1 * t.2.1 + p.2.2.1 * t.2.2.1 = p.2.2.2 * t.2.2.2) := by unfold jmB; rw [h, hr]; rfl
theorem just_of {s a b c x H V M D h v m d : Int} (hs : s ≠ 0) (h1 : s * H = h) (h2 : s * V = v) (h3 : s * M = m) (h4 : s * D = d) (he : a * h + b * v + c * m = x * d) : a * H + b * V + c * M = x * D := by
  subst h1 h2 h3 h4
  have : s * (a * H + b * V + c * M) = s * (x * D) := by grind
  exact Int.eq_of_mul_eq_mul_left hs this
/-- Three rows are just met by their solution. -/
theorem so_just {p q r : Cd} (h : soB p q r = true) : jmB (soT p q r) p = true ∧ jmB (soT p q r) q = true ∧ jmB (soT p q r) r = true := by
  have hd := soB_d h
  have hok := soB_okT h
  obtain ⟨hp, hq, hr⟩ := dtV_ok hd
  have hdR := dtV_yes hp hq hr
  have hh := h
  unfold soB at hh
  obtain ⟨e1, e2, e3, e4, -⟩ := parts (h := dtH p q r) (v := dtU p q r) (m := dtM p q r) hd
  have hs := sgn_ne (h := dtH p q r) (v := dtU p q r) (m := dtM p q r) hd
  rw [← mkN_yes (x := dtH p q r) hh] at e1
  rw [← mkN_yes (x := dtU p q r) hh] at e2
  rw [← mkN_yes (x := dtM p q r) hh] at e3
  rw [← mkN_yes (x := dtV p q r) hh] at e4
  refine ⟨?_, ?_, ?_⟩
  · rw [jmB_yes hok hp, decide_eq_true_iff]
    exact just_of hs e1 e2 e3 e4 (by rw [hdR]; exact cramer1 ..)
  · rw [jmB_yes hok hq, decide_eq_true_iff]
    exact just_of hs e1 e2 e3 e4 (by rw [hdR]; exact cramer2 ..)
  · rw [jmB_yes hok hr, decide_eq_true_iff]
    exact just_of hs e1 e2 e3 e4 (by rw [hdR]; exact cramer3 ..)
theorem jm_ful {t p : Cd} (h : jmB t p = true) : fulV t.1 t.2.1 t.2.2.1 t.2.2.2 p.1 p.2.1 p.2.2.1 p.2.2.2 = true := by
  unfold jmB at h
  simp only [Bool.and_eq_true, decide_eq_true_eq] at h
  unfold fulV cdF
  rw [Bool.and_eq_true, Bool.and_eq_true, cdH_iff]
  exact ⟨h.1, h.2.1, by omega⟩

/-- The indices below k of the rows that are just met: what JustMetBy answers. -/
def jmTo (t : Cd) (rs : List Cd) : Nat → List Int
  | 0 => []
  | k + 1 => if jmB t (cd rs k) then jmTo t rs k ++ [(k : Int)] else jmTo t rs k
theorem jmTo_yes {t : Cd} {rs : List Cd} {k : Nat} (h : jmB t (cd rs k) = true) : jmTo t rs (k + 1) = jmTo t rs k ++ [(k : Int)] := by show (if _ then _ else _) = _; rw [h]; rfl
theorem jmTo_no {t : Cd} {rs : List Cd} {k : Nat} (h : jmB t (cd rs k) = false) : jmTo t rs (k + 1) = jmTo t rs k := by show (if _ then _ else _) = _; rw [h]; rfl
theorem jmTo_le (t : Cd) (rs : List Cd) (k : Nat) : (jmTo t rs k).length ≤ k := by
  induction k with
  | zero => exact Nat.le_refl _
  | succ k ih =>
    cases h : jmB t (cd rs k)
    · rw [jmTo_no h]; omega
    · rw [jmTo_yes h, List.length_append]; simp; omega
theorem jmTo_mono (t : Cd) (rs : List Cd) (a b : Nat) (h : a ≤ b) : (jmTo t rs a).length ≤ (jmTo t rs b).length := by
  induction b with
  | zero => rw [show a = 0 by omega]; exact Nat.le_refl _
  | succ b ih =>
    by_cases he : a = b + 1
    · rw [he]; exact Nat.le_refl _
    · have := ih (by omega)
      cases hj : jmB t (cd rs b)
      · rw [jmTo_no hj]; exact this
      · rw [jmTo_yes hj, List.length_append]; omega
theorem jmTo_one {t : Cd} {rs : List Cd} {i n : Nat} (hi : i < n) (h : jmB t (cd rs i) = true) : (jmTo t rs i).length + 1 ≤ (jmTo t rs n).length := by
  have h1 := jmTo_mono t rs (i + 1) n hi
  rw [jmTo_yes h, List.length_append] at h1
  simpa using h1
/-- Three rows that are just met are three indices. -/
theorem jmTo_three {t : Cd} {rs : List Cd} {i k m n : Nat} (h1 : i < k) (h2 : k < m) (h3 : m < n) (hi : jmB t (cd rs i) = true) (hk : jmB t (cd rs k) = true) (hm : jmB t (cd rs m) = true) : 3 ≤ (jmTo t rs n).length := by
  have a := jmTo_one h1 hi
  have b := jmTo_one h2 hk
  have c := jmTo_one h3 hm
  omega

/-- A valid thrust fulfills all rows, which are valid. -/
def coH (rs : List Cd) (t : Cd) : Bool := allV rs.length (fun x => cdH t.1 t.2.1 t.2.2.1 t.2.2.2 (cd rs x).1 (cd rs x).2.1 (cd rs x).2.2.1 (cd rs x).2.2.2)
/-- Whether the solution of rows i, k and m is a corner that is not there yet; the list behind it. -/
def coB (rs l : List Cd) (i k m : Nat) : Bool := soB (cd rs i) (cd rs k) (cd rs m) && (!decide (soT (cd rs i) (cd rs k) (cd rs m) ∈ l) && coH rs (soT (cd rs i) (cd rs k) (cd rs m)))
def coStep (rs l : List Cd) (i k m : Nat) : List Cd := if coB rs l i k m then l ++ [soT (cd rs i) (cd rs k) (cd rs m)] else l
theorem coStep_yes {rs l : List Cd} {i k m : Nat} (h : coB rs l i k m = true) : coStep rs l i k m = l ++ [soT (cd rs i) (cd rs k) (cd rs m)] := by unfold coStep; rw [h]; rfl
theorem coStep_no {rs l : List Cd} {i k m : Nat} (h : coB rs l i k m = false) : coStep rs l i k m = l := by unfold coStep; rw [h]; rfl
/-- The corners by the third index below n, by the second, by the first. -/
def coM (rs : List Cd) (i k : Nat) (l : List Cd) : Nat → List Cd
  | 0 => l
  | m + 1 => if k < m then coStep rs (coM rs i k l m) i k m else coM rs i k l m
def coK (rs : List Cd) (i : Nat) (l : List Cd) : Nat → List Cd
  | 0 => l
  | k + 1 => if i < k then coM rs i k (coK rs i l k) rs.length else coK rs i l k
def coI (rs : List Cd) : Nat → List Cd
  | 0 => []
  | i + 1 => coK rs i (coI rs i) rs.length
theorem coM_low (rs : List Cd) (i k : Nat) (l : List Cd) (n : Nat) (h : n ≤ k + 1) : coM rs i k l n = l := by
  induction n with
  | zero => rfl
  | succ n ih => show (if _ then _ else _) = _; rw [if_neg (by omega)]; exact ih (by omega)
theorem coM_next (rs : List Cd) (i k : Nat) (l : List Cd) (m : Nat) (h : k < m) : coM rs i k l (m + 1) = coStep rs (coM rs i k l m) i k m := by show (if _ then _ else _) = _; rw [if_pos h]
theorem coK_low (rs : List Cd) (i : Nat) (l : List Cd) (n : Nat) (h : n ≤ i + 1) : coK rs i l n = l := by
  induction n with
  | zero => rfl
  | succ n ih => show (if _ then _ else _) = _; rw [if_neg (by omega)]; exact ih (by omega)
theorem coK_next (rs : List Cd) (i : Nat) (l : List Cd) (k : Nat) (h : i < k) : coK rs i l (k + 1) = coM rs i k (coK rs i l k) rs.length := by show (if _ then _ else _) = _; rw [if_pos h]
theorem coI_next (rs : List Cd) (i : Nat) : coI rs (i + 1) = coK rs i (coI rs i) rs.length := rfl
/-- What CornersOf answers. -/
def coOk (rs : List Cd) : Bool := allV rs.length (fun x => okR (cd rs x)) && inR rs.length 3 20
def coV (rs : List Cd) : List Cd := if coOk rs then coI rs rs.length else []
theorem coV_yes {rs : List Cd} (h : coOk rs = true) : coV rs = coI rs rs.length := by unfold coV; rw [h]; rfl
theorem coV_no {rs : List Cd} (h : coOk rs = false) : coV rs = [] := by unfold coV; rw [h]; rfl

/-- A corner: the solution of three rows, in their order, that fulfills all. -/
def Corner (rs : List Cd) (t : Cd) : Prop := ∃ i k m, i < k ∧ k < m ∧ m < rs.length ∧ soB (cd rs i) (cd rs k) (cd rs m) = true ∧ t = soT (cd rs i) (cd rs k) (cd rs m) ∧ coH rs t = true
theorem coStep_all {rs l : List Cd} {i k m : Nat} (h1 : i < k) (h2 : k < m) (h3 : m < rs.length) (hl : ∀ t ∈ l, Corner rs t) : ∀ t ∈ coStep rs l i k m, Corner rs t := by
  cases hc : coB rs l i k m
  · rw [coStep_no hc]; exact hl
  · rw [coStep_yes hc]
    intro t ht
    rcases List.mem_append.1 ht with ht | ht
    · exact hl t ht
    · simp only [List.mem_singleton] at ht
      unfold coB at hc
      simp only [Bool.and_eq_true] at hc
      exact ⟨i, k, m, h1, h2, h3, hc.1, ht, by rw [ht]; exact hc.2.2⟩
theorem coM_all {rs l : List Cd} {i k : Nat} (h1 : i < k) (hl : ∀ t ∈ l, Corner rs t) (n : Nat) (hn : n ≤ rs.length) : ∀ t ∈ coM rs i k l n, Corner rs t := by
  induction n with
  | zero => exact hl
  | succ n ih =>
    by_cases h : k < n
    · rw [coM_next _ _ _ _ _ h]; exact coStep_all h1 h (by omega) (ih (by omega))
    · rw [coM_low _ _ _ _ _ (by omega)]; exact hl
theorem coK_all {rs l : List Cd} {i : Nat} (hl : ∀ t ∈ l, Corner rs t) (n : Nat) (hn : n ≤ rs.length) : ∀ t ∈ coK rs i l n, Corner rs t := by
  induction n with
  | zero => exact hl
  | succ n ih =>
    by_cases h : i < n
    · rw [coK_next _ _ _ _ h]; exact coM_all h (ih (by omega)) _ (Nat.le_refl _)
    · rw [coK_low _ _ _ _ (by omega)]; exact hl
theorem coI_all (rs : List Cd) (n : Nat) (hn : n ≤ rs.length) : ∀ t ∈ coI rs n, Corner rs t := by
  induction n with
  | zero => intro t ht; cases ht
  | succ n ih => exact coK_all (ih (by omega)) _ (Nat.le_refl _)
theorem coV_all {rs : List Cd} : ∀ t ∈ coV rs, Corner rs t := by
  cases h : coOk rs
  · rw [coV_no h]; intro t ht; cases ht
  · rw [coV_yes h]; exact coI_all rs _ (Nat.le_refl _)
/-- A corner fulfills all rows, and just meets three of them. -/
theorem co_ful {rs : List Cd} (hok : coOk rs = true) {t : Cd} (h : Corner rs t) : fulAll t.1 t.2.1 t.2.2.1 t.2.2.2 rs = true ∧ 3 ≤ (jmTo t rs rs.length).length := by
  obtain ⟨i, k, m, h1, h2, h3, hs, rfl, hh⟩ := h
  obtain ⟨j1, j2, j3⟩ := so_just hs
  refine ⟨?_, jmTo_three h1 h2 h3 j1 j2 j3⟩
  unfold coOk at hok
  rw [Bool.and_eq_true] at hok
  have hn := inR_iff.1 hok.2
  have ht := soB_okT hs
  rw [fulAll_yes (inR_iff.2 (by omega)) ht, allV_iff]
  intro x hx
  have ha := allV_iff.1 hok.1 x hx
  have hb := allV_iff.1 hh x hx
  unfold cdFAt cdF
  rw [Bool.and_eq_true]
  exact ⟨ha, hb⟩

/-- The list grows by one a step at most. -/
theorem coStep_len (rs l : List Cd) (i k m : Nat) : (coStep rs l i k m).length ≤ l.length + 1 := by
  cases hc : coB rs l i k m
  · rw [coStep_no hc]; omega
  · rw [coStep_yes hc, List.length_append]; simp
theorem coM_len (rs l : List Cd) (i k n : Nat) : (coM rs i k l n).length ≤ l.length + n := by
  induction n with
  | zero => exact Nat.le_refl _
  | succ n ih =>
    show (if _ then _ else _ : List Cd).length ≤ _
    split
    · have := coStep_len rs (coM rs i k l n) i k n; omega
    · omega
theorem coK_len (rs l : List Cd) (i n : Nat) : (coK rs i l n).length ≤ l.length + n * rs.length := by
  induction n with
  | zero => simp [coK]
  | succ n ih =>
    show (if _ then _ else _ : List Cd).length ≤ _
    rw [Nat.succ_mul]
    split
    · have := coM_len rs (coK rs i l n) i n rs.length; omega
    · omega
theorem coI_len (rs : List Cd) (n : Nat) : (coI rs n).length ≤ n * (rs.length * rs.length) := by
  induction n with
  | zero => simp [coI]
  | succ n ih =>
    rw [coI_next, Nat.succ_mul]
    have := coK_len rs (coI rs n) n rs.length
    omega
theorem coV_len (rs : List Cd) : (coV rs).length ≤ 8000 := by
  cases h : coOk rs
  · rw [coV_no h]; simp
  · rw [coV_yes h]
    unfold coOk at h
    rw [Bool.and_eq_true] at h
    have hn := inR_iff.1 h.2
    have h1 : rs.length ≤ 20 := by omega
    have h2 : rs.length * rs.length ≤ 20 * 20 := Nat.mul_le_mul h1 h1
    have h3 : rs.length * (rs.length * rs.length) ≤ 20 * (20 * 20) := Nat.mul_le_mul h1 h2
    have := coI_len rs rs.length
    omega
/-- The determinant by its columns, as a sum over the first one. -/
def detC (a d g b e h c f i : Int) : Int := a * (e * i - h * f) + d * (h * c - b * i) + g * (b * f - e * c)
theorem detC_eq (a d g b e h c f i : Int) : detC a d g b e h c f i = det3 a b c d e f g h i := by unfold detC det3; grind
/-- The products of a determinant by its columns. -/
structure ColBd (a d g b e h c f i : Int) : Prop where
  ei : -100000000000 ≤ e * i ∧ e * i ≤ 100000000000
  hf : -100000000000 ≤ h * f ∧ h * f ≤ 100000000000
  hc : -100000000000 ≤ h * c ∧ h * c ≤ 100000000000
  bi : -100000000000 ≤ b * i ∧ b * i ≤ 100000000000
  bf : -100000000000 ≤ b * f ∧ b * f ≤ 100000000000
  ec : -100000000000 ≤ e * c ∧ e * c ≤ 100000000000
  a3 : -1000000000000000 ≤ a * (e * i - h * f) ∧ a * (e * i - h * f) ≤ 1000000000000000
  d3 : -1000000000000000 ≤ d * (h * c - b * i) ∧ d * (h * c - b * i) ≤ 1000000000000000
  g3 : -1000000000000000 ≤ g * (b * f - e * c) ∧ g * (b * f - e * c) ≤ 1000000000000000
theorem colP_bd {x y : Int} {a b : Nat} (hx : -(a : Int) ≤ x ∧ x ≤ a) (hy : -(b : Int) ≤ y ∧ y ≤ b) (hl : a * b ≤ 100000000000) : -100000000000 ≤ x * y ∧ x * y ≤ 100000000000 := by
  have := mulN_bd hx hy hl
  omega
theorem colD_bd {x y z : Int} {a b : Nat} (hx : -(a : Int) ≤ x ∧ x ≤ a) (hy : -(b : Int) ≤ y ∧ y ≤ b) (hz : -(b : Int) ≤ z ∧ z ≤ b) (hl : a * (2 * b) ≤ 1000000000000000) : -1000000000000000 ≤ x * (y - z) ∧ x * (y - z) ≤ 1000000000000000 :=
  mulI_bd hx (b := 2 * b) (by omega) hl
theorem col_bd {A B C : Nat} {a d g b e h c f i : Int} (ha : -(A : Int) ≤ a ∧ a ≤ A) (hd : -(A : Int) ≤ d ∧ d ≤ A) (hg : -(A : Int) ≤ g ∧ g ≤ A) (hb : -(B : Int) ≤ b ∧ b ≤ B) (he : -(B : Int) ≤ e ∧ e ≤ B) (hh : -(B : Int) ≤ h ∧ h ≤ B)
    (hc : -(C : Int) ≤ c ∧ c ≤ C) (hf : -(C : Int) ≤ f ∧ f ≤ C) (hi : -(C : Int) ≤ i ∧ i ≤ C) (h1 : B * C ≤ 100000000000) (h2 : A * (2 * (B * C)) ≤ 1000000000000000) : ColBd a d g b e h c f i := by
  have e1 := mulN_bd he hi (Nat.le_refl _)
  have e2 := mulN_bd hh hf (Nat.le_refl _)
  have e3 := mulN_bd hh hc (Nat.le_refl _)
  have e4 := mulN_bd hb hi (Nat.le_refl _)
  have e5 := mulN_bd hb hf (Nat.le_refl _)
  have e6 := mulN_bd he hc (Nat.le_refl _)
  exact ⟨colP_bd he hi h1, colP_bd hh hf h1, colP_bd hh hc h1, colP_bd hb hi h1, colP_bd hb hf h1, colP_bd he hc h1, colD_bd ha e1 e2 h2, colD_bd hd e3 e4 h2, colD_bd hg e5 e6 h2⟩
theorem col_zero : ColBd 0 0 0 0 0 0 0 0 0 := ⟨by decide, by decide, by decide, by decide, by decide, by decide, by decide, by decide, by decide⟩
/-- A row's numbers; zeros where one of three rows is not valid. -/
def lnR (ok : Bool) (p : Cd) : Cd := if ok then p else (0, 0, 0, 0)
theorem lnR_no (p : Cd) : lnR false p = (0, 0, 0, 0) := rfl
theorem lnR_yes (p : Cd) : lnR true p = p := rfl
def ok3 (p q r : Cd) : Bool := okR p && okR q && okR r
theorem ok3_iff {p q r : Cd} : ok3 p q r = true ↔ okR p = true ∧ okR q = true ∧ okR r = true := by unfold ok3; simp only [Bool.and_eq_true, and_assoc]
theorem col_R {p q r : Cd} (hp : okR p = true) (hq : okR q = true) (hr : okR r = true) : ColBd p.1 q.1 r.1 p.2.1 q.2.1 r.2.1 p.2.2.1 q.2.2.1 r.2.2.1 := by
  have a := okR_iff.1 hp
  have b := okR_iff.1 hq
  have c := okR_iff.1 hr
  exact col_bd (A := 100) (B := 100) (C := 1) (by omega) (by omega) (by omega) (by omega) (by omega) (by omega) (by omega) (by omega) (by omega) (by omega) (by omega)
theorem col_H {p q r : Cd} (hp : okR p = true) (hq : okR q = true) (hr : okR r = true) : ColBd p.2.2.2 q.2.2.2 r.2.2.2 p.2.1 q.2.1 r.2.1 p.2.2.1 q.2.2.1 r.2.2.1 := by
  have a := okR_iff.1 hp
  have b := okR_iff.1 hq
  have c := okR_iff.1 hr
  exact col_bd (A := 1000000000) (B := 100) (C := 1) (by omega) (by omega) (by omega) (by omega) (by omega) (by omega) (by omega) (by omega) (by omega) (by omega) (by omega)
theorem col_U {p q r : Cd} (hp : okR p = true) (hq : okR q = true) (hr : okR r = true) : ColBd p.1 q.1 r.1 p.2.2.2 q.2.2.2 r.2.2.2 p.2.2.1 q.2.2.1 r.2.2.1 := by
  have a := okR_iff.1 hp
  have b := okR_iff.1 hq
  have c := okR_iff.1 hr
  exact col_bd (A := 100) (B := 1000000000) (C := 1) (by omega) (by omega) (by omega) (by omega) (by omega) (by omega) (by omega) (by omega) (by omega) (by omega) (by omega)
theorem col_M {p q r : Cd} (hp : okR p = true) (hq : okR q = true) (hr : okR r = true) : ColBd p.1 q.1 r.1 p.2.1 q.2.1 r.2.1 p.2.2.2 q.2.2.2 r.2.2.2 := by
  have a := okR_iff.1 hp
  have b := okR_iff.1 hq
  have c := okR_iff.1 hr
  exact col_bd (A := 100) (B := 100) (C := 1000000000) (by omega) (by omega) (by omega) (by omega) (by omega) (by omega) (by omega) (by omega) (by omega) (by omega) (by omega)
/-- The bounds hold of the lines as linesOf answers them. -/
theorem ln_bd {ok : Bool} {p q r : Cd} (h : ok = true → okR p = true ∧ okR q = true ∧ okR r = true) :
    ColBd (lnR ok p).1 (lnR ok q).1 (lnR ok r).1 (lnR ok p).2.1 (lnR ok q).2.1 (lnR ok r).2.1 (lnR ok p).2.2.1 (lnR ok q).2.2.1 (lnR ok r).2.2.1 ∧
    ColBd (lnR ok p).2.2.2 (lnR ok q).2.2.2 (lnR ok r).2.2.2 (lnR ok p).2.1 (lnR ok q).2.1 (lnR ok r).2.1 (lnR ok p).2.2.1 (lnR ok q).2.2.1 (lnR ok r).2.2.1 ∧
    ColBd (lnR ok p).1 (lnR ok q).1 (lnR ok r).1 (lnR ok p).2.2.2 (lnR ok q).2.2.2 (lnR ok r).2.2.2 (lnR ok p).2.2.1 (lnR ok q).2.2.1 (lnR ok r).2.2.1 ∧
    ColBd (lnR ok p).1 (lnR ok q).1 (lnR ok r).1 (lnR ok p).2.1 (lnR ok q).2.1 (lnR ok r).2.1 (lnR ok p).2.2.2 (lnR ok q).2.2.2 (lnR ok r).2.2.2 := by
  cases ok with
  | false => exact ⟨col_zero, col_zero, col_zero, col_zero⟩
  | true =>
    obtain ⟨hp, hq, hr⟩ := h rfl
    exact ⟨col_R hp hq hr, col_H hp hq hr, col_U hp hq hr, col_M hp hq hr⟩
/-- What the program's determinants come to. -/
theorem ln_det (p q r : Cd) : detC (lnR (ok3 p q r) p).1 (lnR (ok3 p q r) q).1 (lnR (ok3 p q r) r).1 (lnR (ok3 p q r) p).2.1 (lnR (ok3 p q r) q).2.1 (lnR (ok3 p q r) r).2.1 (lnR (ok3 p q r) p).2.2.1 (lnR (ok3 p q r) q).2.2.1 (lnR (ok3 p q r) r).2.2.1 = dtV p q r := by
  rw [detC_eq]
  cases h : ok3 p q r
  · rw [show dtV p q r = 0 by unfold dtV; rw [show (okR p && okR q && okR r) = false from h]; rfl]; rfl
  · rw [dtV_yes (ok3_iff.1 h).1 (ok3_iff.1 h).2.1 (ok3_iff.1 h).2.2]; rfl
end Go.Proofs.Ytibcalpkmjjilaa

/- Three rows: the contracts of the program's linesOf, determinant, DetOfRows, SolveRows, isJustMetBy and IsJustMet. -/
namespace Go.Proofs.Ytibcalpkmjjilaa
set_option maxRecDepth 100000
open Go.ChangeShapes Go.WideShapes Go.ChangeAt Go.RowKit

set_option maxHeartbeats 4000000 in
theorem determinant (a d g b e h c f i : Int) (w : World) (hx : ColBd a d g b e h c f i) :
    Calls Try.prog 39 #[.agg #[.int .i64 a, .int .i64 d, .int .i64 g], .agg #[.int .i64 b, .int .i64 e, .int .i64 h], .agg #[.int .i64 c, .int .i64 f, .int .i64 i]] w fun e1 w' => e1 = .returned (.int .i64 (detC a d g b e h c f i)) ∧ Below w.heap.size w w' := by
  have HB0 := Lib.hid ((((Below.refl w.heap.size w).alloc (Nat.le_refl _) (.cells #[.int .i64 a, .int .i64 d, .int .i64 g] 74)).alloc (by simp) (.cells #[.int .i64 b, .int .i64 e, .int .i64 h] 74)).alloc (by simp <;> omega) (.cells #[.int .i64 c, .int .i64 f, .int .i64 i] 74))
  obtain ⟨h1, h2, h3, h4, h5, h6, h7, h8, h9⟩ := hx
  have HV := Lib.hid (show detC a d g b e h c f i = a * (e * i - h * f) + d * (h * c - b * i) + g * (b * f - e * c) from rfl)
  have w1 : IntKind.i64.wrap (e * i) = e * i := IntWalk.i64_in _ (by omega)
  have w2 : IntKind.i64.wrap (h * f) = h * f := IntWalk.i64_in _ (by omega)
  have w3 : IntKind.i64.wrap (h * c) = h * c := IntWalk.i64_in _ (by omega)
  have w4 : IntKind.i64.wrap (b * i) = b * i := IntWalk.i64_in _ (by omega)
  have w5 : IntKind.i64.wrap (b * f) = b * f := IntWalk.i64_in _ (by omega)
  have w6 : IntKind.i64.wrap (e * c) = e * c := IntWalk.i64_in _ (by omega)
  have v1 : IntKind.i64.wrap (e * i - h * f) = e * i - h * f := IntWalk.i64_in _ (by omega)
  have v2 : IntKind.i64.wrap (h * c - b * i) = h * c - b * i := IntWalk.i64_in _ (by omega)
  have v3 : IntKind.i64.wrap (b * f - e * c) = b * f - e * c := IntWalk.i64_in _ (by omega)
  have u1 : IntKind.i64.wrap (a * (e * i - h * f)) = a * (e * i - h * f) := IntWalk.i64_in _ (by omega)
  have u2 : IntKind.i64.wrap (d * (h * c - b * i)) = d * (h * c - b * i) := IntWalk.i64_in _ (by omega)
  have u3 : IntKind.i64.wrap (g * (b * f - e * c)) = g * (b * f - e * c) := IntWalk.i64_in _ (by omega)
  have s1 : IntKind.i64.wrap (a * (e * i - h * f) + d * (h * c - b * i)) = a * (e * i - h * f) + d * (h * c - b * i) := IntWalk.i64_in _ (by omega)
  have s2 : IntKind.i64.wrap (a * (e * i - h * f) + d * (h * c - b * i) + g * (b * f - e * c)) = a * (e * i - h * f) + d * (h * c - b * i) + g * (b * f - e * c) := IntWalk.i64_in _ (by omega)
  clear h1 h2 h3 h4 h5 h6 h7 h8 h9
  go_enter Try.func39, Try.ntmps39
  go_wp2_with fail
  refine wp_loop_rounds 4 ?_
  rw [rounds_succ]
  go_wp2_with fail
  go_quiet (fail)
  go_wp2_with fail
  rw [rounds_succ]
  go_wp2_with fail
  go_quiet (fail)
  go_wp2_with fail
  rw [rounds_succ]
  go_wp2_with fail
  go_quiet (fail)
  go_wp2_with fail
  rw [rounds_succ]
  go_wp2_with fail
  go_ret
  exact ⟨ret_i64 HV.out.symm, below_drewN HB0.out _⟩
/-- linesOf's answer: twelve cells. -/
def lnV (ok : Bool) (a1 b1 c1 d1 a2 b2 c2 d2 a3 b3 c3 d3 : Int) : Value := .agg #[.int .i64 (if ok then a1 else 0), .int .i64 (if ok then a2 else 0), .int .i64 (if ok then a3 else 0), .int .i64 (if ok then b1 else 0), .int .i64 (if ok then b2 else 0), .int .i64 (if ok then b3 else 0), .int .i64 (if ok then c1 else 0), .int .i64 (if ok then c2 else 0), .int .i64 (if ok then c3 else 0), .int .i64 (if ok then d1 else 0), .int .i64 (if ok then d2 else 0), .int .i64 (if ok then d3 else 0)]
theorem lnV_no (a1 b1 c1 d1 a2 b2 c2 d2 a3 b3 c3 d3 : Int) : lnV false a1 b1 c1 d1 a2 b2 c2 d2 a3 b3 c3 d3 = .agg #[.int .i64 0, .int .i64 0, .int .i64 0, .int .i64 0, .int .i64 0, .int .i64 0, .int .i64 0, .int .i64 0, .int .i64 0, .int .i64 0, .int .i64 0, .int .i64 0] := rfl
theorem lnV_yes (a1 b1 c1 d1 a2 b2 c2 d2 a3 b3 c3 d3 : Int) : lnV true a1 b1 c1 d1 a2 b2 c2 d2 a3 b3 c3 d3 = .agg #[.int .i64 a1, .int .i64 a2, .int .i64 a3, .int .i64 b1, .int .i64 b2, .int .i64 b3, .int .i64 c1, .int .i64 c2, .int .i64 c3, .int .i64 d1, .int .i64 d2, .int .i64 d3] := rfl
theorem rows3_ok (a1 b1 c1 d1 a2 b2 c2 d2 a3 b3 c3 d3 : Int) : cdsOk [(a1, b1, c1, d1), (a2, b2, c2, d2), (a3, b3, c3, d3)] = ok3 (a1, b1, c1, d1) (a2, b2, c2, d2) (a3, b3, c3, d3) := by
  have h : ∀ j : Nat, j < 3 → j = 0 ∨ j = 1 ∨ j = 2 := fun j hj => by omega
  rw [Bool.eq_iff_iff, ok3_iff]
  unfold cdsOk
  rw [allV_iff]
  constructor
  · intro hh
    exact ⟨hh 0 (by simp), hh 1 (by simp), hh 2 (by simp)⟩
  · rintro ⟨h0, h1, h2⟩ j hj
    rcases h j (by simpa using hj) with rfl | rfl | rfl
    · exact h0
    · exact h1
    · exact h2
set_option maxRecDepth 100000 in
set_option maxHeartbeats 8000000 in
theorem linesOf (a1 b1 c1 d1 a2 b2 c2 d2 a3 b3 c3 d3 : Int) (w : World) :
    Calls Try.prog 37 #[.agg #[.int .i64 a1, .int .i64 b1, .int .i64 c1, .int .i64 d1, .int .i64 a2, .int .i64 b2, .int .i64 c2, .int .i64 d2, .int .i64 a3, .int .i64 b3, .int .i64 c3, .int .i64 d3]] w fun e1 w' => e1 = .returned (lnV (ok3 (a1, b1, c1, d1) (a2, b2, c2, d2) (a3, b3, c3, d3)) a1 b1 c1 d1 a2 b2 c2 d2 a3 b3 c3 d3) ∧ Below w.heap.size w w' := by
  have HB0 := Lib.hid ((((Below.refl w.heap.size w).alloc (Nat.le_refl _) (.cells #[.int .i64 a1, .int .i64 b1, .int .i64 c1, .int .i64 d1, .int .i64 a2, .int .i64 b2, .int .i64 c2, .int .i64 d2, .int .i64 a3, .int .i64 b3, .int .i64 c3, .int .i64 d3] 77)).alloc (by simp) (.cells #[.int .i64 0, .int .i64 0, .int .i64 0, .int .i64 0, .int .i64 0, .int .i64 0, .int .i64 0, .int .i64 0, .int .i64 0, .int .i64 0, .int .i64 0, .int .i64 0] 75)).alloc (by simp <;> omega) (.cells #[.int .i64 0, .int .i64 0, .int .i64 0, .int .i64 0, .int .i64 0, .int .i64 0, .int .i64 0, .int .i64 0, .int .i64 0, .int .i64 0, .int .i64 0, .int .i64 0] 75))
  have HCC : RowKit.Hid (CdCells (((w.alloc (.cells #[.int .i64 a1, .int .i64 b1, .int .i64 c1, .int .i64 d1, .int .i64 a2, .int .i64 b2, .int .i64 c2, .int .i64 d2, .int .i64 a3, .int .i64 b3, .int .i64 c3, .int .i64 d3] 77)).alloc (.cells #[.int .i64 0, .int .i64 0, .int .i64 0, .int .i64 0, .int .i64 0, .int .i64 0, .int .i64 0, .int .i64 0, .int .i64 0, .int .i64 0, .int .i64 0, .int .i64 0] 75)).alloc (.cells #[.int .i64 0, .int .i64 0, .int .i64 0, .int .i64 0, .int .i64 0, .int .i64 0, .int .i64 0, .int .i64 0, .int .i64 0, .int .i64 0, .int .i64 0, .int .i64 0] 75)) (some ⟨w.heap.size, 0, none⟩) 3 3 [(a1, b1, c1, d1), (a2, b2, c2, d2), (a3, b3, c3, d3)]) := Lib.hid ⟨⟨Nat.le_refl _, by unfold maxLen; omega⟩, rfl, fun j hj => ⟨w.heap.size, rfl, trivial, by
    have : j = 0 ∨ j = 1 ∨ j = 2 := by omega
    rcases this with rfl | rfl | rfl
    · refine ⟨?_, ?_, ?_, ?_⟩ <;> go_simp <;> rfl
    · refine ⟨?_, ?_, ?_, ?_⟩ <;> go_simp <;> rfl
    · refine ⟨?_, ?_, ?_, ?_⟩ <;> go_simp <;> rfl⟩⟩
  have HOK := Lib.hid (rows3_ok a1 b1 c1 d1 a2 b2 c2 d2 a3 b3 c3 d3)
  obtain ⟨ok, hok⟩ : ∃ ok, ok3 (a1, b1, c1, d1) (a2, b2, c2, d2) (a3, b3, c3, d3) = ok := ⟨_, rfl⟩
  rw [hok] at HOK ⊢
  clear hok
  have ir0 : ∀ w, (Instr.index 77 (.agg #[.int .i64 a1, .int .i64 b1, .int .i64 c1, .int .i64 d1, .int .i64 a2, .int .i64 b2, .int .i64 c2, .int .i64 d2, .int .i64 a3, .int .i64 b3, .int .i64 c3, .int .i64 d3]) (.int .i64 0)).run Try.prog w = .ok (.agg #[.int .i64 a1, .int .i64 b1, .int .i64 c1, .int .i64 d1]) w := fun _ => by kernel_rfl
  have ir1 : ∀ w, (Instr.index 77 (.agg #[.int .i64 a1, .int .i64 b1, .int .i64 c1, .int .i64 d1, .int .i64 a2, .int .i64 b2, .int .i64 c2, .int .i64 d2, .int .i64 a3, .int .i64 b3, .int .i64 c3, .int .i64 d3]) (.int .i64 1)).run Try.prog w = .ok (.agg #[.int .i64 a2, .int .i64 b2, .int .i64 c2, .int .i64 d2]) w := fun _ => by kernel_rfl
  have ir2 : ∀ w, (Instr.index 77 (.agg #[.int .i64 a1, .int .i64 b1, .int .i64 c1, .int .i64 d1, .int .i64 a2, .int .i64 b2, .int .i64 c2, .int .i64 d2, .int .i64 a3, .int .i64 b3, .int .i64 c3, .int .i64 d3]) (.int .i64 2)).run Try.prog w = .ok (.agg #[.int .i64 a3, .int .i64 b3, .int .i64 c3, .int .i64 d3]) w := fun _ => by kernel_rfl
  have in0 : ∀ a b c d w, (Instr.index 110 (.agg #[.int .i64 a, .int .i64 b, .int .i64 c, .int .i64 d]) (.int .i64 0)).run Try.prog w = .ok (.int .i64 a) w := fun _ _ _ _ _ => by kernel_rfl
  have in1 : ∀ a b c d w, (Instr.index 110 (.agg #[.int .i64 a, .int .i64 b, .int .i64 c, .int .i64 d]) (.int .i64 1)).run Try.prog w = .ok (.int .i64 b) w := fun _ _ _ _ _ => by kernel_rfl
  have in2 : ∀ a b c d w, (Instr.index 110 (.agg #[.int .i64 a, .int .i64 b, .int .i64 c, .int .i64 d]) (.int .i64 2)).run Try.prog w = .ok (.int .i64 c) w := fun _ _ _ _ _ => by kernel_rfl
  have in3 : ∀ a b c d w, (Instr.index 110 (.agg #[.int .i64 a, .int .i64 b, .int .i64 c, .int .i64 d]) (.int .i64 3)).run Try.prog w = .ok (.int .i64 d) w := fun _ _ _ _ _ => by kernel_rfl
  go_enter Try.func37, Try.ntmps37
  go_wp2_with fail
  refine (areValidCells _ _ _ _ _ HCC.out).mono ?_
  rintro e w1 ⟨rfl, hb1⟩
  rw [HOK.out]
  have HB1 := Lib.hid (HB0.out.trans (hb1.mono HB0.out.size))
  have l0 : w1.cell? ⟨w.heap.size + 1 + 1, 0, none⟩ = some (.int .i64 0) := tcell (by go_simp) hb1
  have l1 : w1.cell? ⟨w.heap.size + 1 + 1, 1, none⟩ = some (.int .i64 0) := tcell (by go_simp) hb1
  have l2 : w1.cell? ⟨w.heap.size + 1 + 1, 2, none⟩ = some (.int .i64 0) := tcell (by go_simp) hb1
  have l3 : w1.cell? ⟨w.heap.size + 1 + 1, 3, none⟩ = some (.int .i64 0) := tcell (by go_simp) hb1
  have l4 : w1.cell? ⟨w.heap.size + 1 + 1, 4, none⟩ = some (.int .i64 0) := tcell (by go_simp) hb1
  have l5 : w1.cell? ⟨w.heap.size + 1 + 1, 5, none⟩ = some (.int .i64 0) := tcell (by go_simp) hb1
  have l6 : w1.cell? ⟨w.heap.size + 1 + 1, 6, none⟩ = some (.int .i64 0) := tcell (by go_simp) hb1
  have l7 : w1.cell? ⟨w.heap.size + 1 + 1, 7, none⟩ = some (.int .i64 0) := tcell (by go_simp) hb1
  have l8 : w1.cell? ⟨w.heap.size + 1 + 1, 8, none⟩ = some (.int .i64 0) := tcell (by go_simp) hb1
  have l9 : w1.cell? ⟨w.heap.size + 1 + 1, 9, none⟩ = some (.int .i64 0) := tcell (by go_simp) hb1
  have l10 : w1.cell? ⟨w.heap.size + 1 + 1, 10, none⟩ = some (.int .i64 0) := tcell (by go_simp) hb1
  have l11 : w1.cell? ⟨w.heap.size + 1 + 1, 11, none⟩ = some (.int .i64 0) := tcell (by go_simp) hb1
  have r0 : w1.cell? ⟨w.heap.size + 1, 0, none⟩ = some (.int .i64 0) := tcell (by go_simp) hb1
  have r1 : w1.cell? ⟨w.heap.size + 1, 1, none⟩ = some (.int .i64 0) := tcell (by go_simp) hb1
  have r2 : w1.cell? ⟨w.heap.size + 1, 2, none⟩ = some (.int .i64 0) := tcell (by go_simp) hb1
  have r3 : w1.cell? ⟨w.heap.size + 1, 3, none⟩ = some (.int .i64 0) := tcell (by go_simp) hb1
  have r4 : w1.cell? ⟨w.heap.size + 1, 4, none⟩ = some (.int .i64 0) := tcell (by go_simp) hb1
  have r5 : w1.cell? ⟨w.heap.size + 1, 5, none⟩ = some (.int .i64 0) := tcell (by go_simp) hb1
  have r6 : w1.cell? ⟨w.heap.size + 1, 6, none⟩ = some (.int .i64 0) := tcell (by go_simp) hb1
  have r7 : w1.cell? ⟨w.heap.size + 1, 7, none⟩ = some (.int .i64 0) := tcell (by go_simp) hb1
  have r8 : w1.cell? ⟨w.heap.size + 1, 8, none⟩ = some (.int .i64 0) := tcell (by go_simp) hb1
  have r9 : w1.cell? ⟨w.heap.size + 1, 9, none⟩ = some (.int .i64 0) := tcell (by go_simp) hb1
  have r10 : w1.cell? ⟨w.heap.size + 1, 10, none⟩ = some (.int .i64 0) := tcell (by go_simp) hb1
  have r11 : w1.cell? ⟨w.heap.size + 1, 11, none⟩ = some (.int .i64 0) := tcell (by go_simp) hb1
  have p0 : w1.cell? ⟨w.heap.size, 0, none⟩ = some (.int .i64 a1) := tcell (by go_simp) hb1
  have p1 : w1.cell? ⟨w.heap.size, 1, none⟩ = some (.int .i64 b1) := tcell (by go_simp) hb1
  have p2 : w1.cell? ⟨w.heap.size, 2, none⟩ = some (.int .i64 c1) := tcell (by go_simp) hb1
  have p3 : w1.cell? ⟨w.heap.size, 3, none⟩ = some (.int .i64 d1) := tcell (by go_simp) hb1
  have p4 : w1.cell? ⟨w.heap.size, 4, none⟩ = some (.int .i64 a2) := tcell (by go_simp) hb1
  have p5 : w1.cell? ⟨w.heap.size, 5, none⟩ = some (.int .i64 b2) := tcell (by go_simp) hb1
  have p6 : w1.cell? ⟨w.heap.size, 6, none⟩ = some (.int .i64 c2) := tcell (by go_simp) hb1
  have p7 : w1.cell? ⟨w.heap.size, 7, none⟩ = some (.int .i64 d2) := tcell (by go_simp) hb1
  have p8 : w1.cell? ⟨w.heap.size, 8, none⟩ = some (.int .i64 a3) := tcell (by go_simp) hb1
  have p9 : w1.cell? ⟨w.heap.size, 9, none⟩ = some (.int .i64 b3) := tcell (by go_simp) hb1
  have p10 : w1.cell? ⟨w.heap.size, 10, none⟩ = some (.int .i64 c3) := tcell (by go_simp) hb1
  have p11 : w1.cell? ⟨w.heap.size, 11, none⟩ = some (.int .i64 d3) := tcell (by go_simp) hb1
  have hfl : ∀ o, w1.frozen? ⟨w.heap.size + 1 + 1, o, none⟩ = false := fun o => (hb1.frozen (p := ⟨w.heap.size + 1 + 1, o, none⟩) (by simp <;> omega)).trans (by go_simp)
  have hfr : ∀ o, w1.frozen? ⟨w.heap.size + 1, o, none⟩ = false := fun o => (hb1.frozen (p := ⟨w.heap.size + 1, o, none⟩) (by simp <;> omega)).trans (by go_simp)
  have hlt : w.heap.size + 1 + 1 < w1.heap.size := cell_block_lt l0
  have HRR := Lib.hid (And.intro hfr (And.intro r0 (And.intro r1 (And.intro r2 (And.intro r3 (And.intro r4 (And.intro r5 (And.intro r6 (And.intro r7 (And.intro r8 (And.intro r9 (And.intro r10 r11))))))))))))
  clear hb1 HB0 HCC HOK
  cases ok
  · go_wp2_with fail
    refine World.any (p := fun W => bodyPost _ _ _ _ _ W) (fun Z hW => ?_)
    have z0 : Z.cell? ⟨w.heap.size + 1, 0, none⟩ = some (.int .i64 0) := by subst hW; go_simp
    have z1 : Z.cell? ⟨w.heap.size + 1, 1, none⟩ = some (.int .i64 0) := by subst hW; go_simp
    have z2 : Z.cell? ⟨w.heap.size + 1, 2, none⟩ = some (.int .i64 0) := by subst hW; go_simp
    have z3 : Z.cell? ⟨w.heap.size + 1, 3, none⟩ = some (.int .i64 0) := by subst hW; go_simp
    have z4 : Z.cell? ⟨w.heap.size + 1, 4, none⟩ = some (.int .i64 0) := by subst hW; go_simp
    have z5 : Z.cell? ⟨w.heap.size + 1, 5, none⟩ = some (.int .i64 0) := by subst hW; go_simp
    have z6 : Z.cell? ⟨w.heap.size + 1, 6, none⟩ = some (.int .i64 0) := by subst hW; go_simp
    have z7 : Z.cell? ⟨w.heap.size + 1, 7, none⟩ = some (.int .i64 0) := by subst hW; go_simp
    have z8 : Z.cell? ⟨w.heap.size + 1, 8, none⟩ = some (.int .i64 0) := by subst hW; go_simp
    have z9 : Z.cell? ⟨w.heap.size + 1, 9, none⟩ = some (.int .i64 0) := by subst hW; go_simp
    have z10 : Z.cell? ⟨w.heap.size + 1, 10, none⟩ = some (.int .i64 0) := by subst hW; go_simp
    have z11 : Z.cell? ⟨w.heap.size + 1, 11, none⟩ = some (.int .i64 0) := by subst hW; go_simp
    have HBW : Below w.heap.size w Z := by
      subst hW
      repeat refine Below.setCell ?_ (by simp <;> omega) _
      exact HB1.out
    refine bodyPost_ret (v := .agg #[.int .i64 0, .int .i64 0, .int .i64 0, .int .i64 0, .int .i64 0, .int .i64 0, .int .i64 0, .int .i64 0, .int .i64 0, .int .i64 0, .int .i64 0, .int .i64 0]) (by simp [results, Try.results37, go_sem, z0, z1, z2, z3, z4, z5, z6, z7, z8, z9, z10, z11]) rfl ⟨rfl, HBW⟩
  · have HBL := Lib.hid (Below.refl (w.heap.size + 1 + 1) w1)
    clear hfr r0 r1 r2 r3 r4 r5 r6 r7 r8 r9 r10 r11
    go_wp2_with fail
    refine wp_loop_rounds 4 ?_
    rw [rounds_succ]
    go_wp2_with fail
    refine (rowNumbers _ _ _ _ _).mono ?_
    rintro e w2 ⟨rfl, hb_2⟩
    have l0_2 : w2.cell? ⟨w.heap.size + 1 + 1, 0, none⟩ = some (.int .i64 0) := tcell (by go_simp) hb_2
    have l1_2 : w2.cell? ⟨w.heap.size + 1 + 1, 1, none⟩ = some (.int .i64 0) := tcell (by go_simp) hb_2
    have l2_2 : w2.cell? ⟨w.heap.size + 1 + 1, 2, none⟩ = some (.int .i64 0) := tcell (by go_simp) hb_2
    have l3_2 : w2.cell? ⟨w.heap.size + 1 + 1, 3, none⟩ = some (.int .i64 0) := tcell (by go_simp) hb_2
    have l4_2 : w2.cell? ⟨w.heap.size + 1 + 1, 4, none⟩ = some (.int .i64 0) := tcell (by go_simp) hb_2
    have l5_2 : w2.cell? ⟨w.heap.size + 1 + 1, 5, none⟩ = some (.int .i64 0) := tcell (by go_simp) hb_2
    have l6_2 : w2.cell? ⟨w.heap.size + 1 + 1, 6, none⟩ = some (.int .i64 0) := tcell (by go_simp) hb_2
    have l7_2 : w2.cell? ⟨w.heap.size + 1 + 1, 7, none⟩ = some (.int .i64 0) := tcell (by go_simp) hb_2
    have l8_2 : w2.cell? ⟨w.heap.size + 1 + 1, 8, none⟩ = some (.int .i64 0) := tcell (by go_simp) hb_2
    have l9_2 : w2.cell? ⟨w.heap.size + 1 + 1, 9, none⟩ = some (.int .i64 0) := tcell (by go_simp) hb_2
    have l10_2 : w2.cell? ⟨w.heap.size + 1 + 1, 10, none⟩ = some (.int .i64 0) := tcell (by go_simp) hb_2
    have l11_2 : w2.cell? ⟨w.heap.size + 1 + 1, 11, none⟩ = some (.int .i64 0) := tcell (by go_simp) hb_2
    have hfl_2 : ∀ o, w2.frozen? ⟨w.heap.size + 1 + 1, o, none⟩ = false := fun o => (hb_2.frozen (p := ⟨w.heap.size + 1 + 1, o, none⟩) (by simp <;> omega)).trans (by simp only [frozen?_alloc_cells]; exact hfl o)
    have HBL_2 : RowKit.Hid (Below (w.heap.size + 1 + 1) w1 w2) := Lib.hid (Below.trans (by exact (HBL.out).alloc (by first | omega | (simp; omega)) _) (hb_2.mono (by simp <;> omega)))
    have hlt_2 : w.heap.size + 1 + 1 < w2.heap.size := cell_block_lt l0_2
    clear hb_2 HBL hlt hfl l0 l1 l2 l3 l4 l5 l6 l7 l8 l9 l10 l11
    clear p0 p1 p2 p3 p4 p5 p6 p7 p8 p9 p10 p11
    go_wp2_with fail
    refine wp_loop_rounds 5 ?_
    rw [rounds_succ]
    go_wp2_with fail
    rw [rounds_succ]
    go_wp2_with fail
    rw [rounds_succ]
    go_wp2_with fail
    rw [rounds_succ]
    go_wp2_with fail
    rw [rounds_succ]
    go_wp2_with fail
    rw [rounds_succ]
    go_wp2_with fail
    refine (rowNumbers _ _ _ _ _).mono ?_
    rintro e w3 ⟨rfl, hb_3⟩
    have l0_3 : w3.cell? ⟨w.heap.size + 1 + 1, 0, none⟩ = some (.int .i64 a1) := tcell (by go_simp) hb_3
    have l1_3 : w3.cell? ⟨w.heap.size + 1 + 1, 1, none⟩ = some (.int .i64 0) := tcell (by go_simp) hb_3
    have l2_3 : w3.cell? ⟨w.heap.size + 1 + 1, 2, none⟩ = some (.int .i64 0) := tcell (by go_simp) hb_3
    have l3_3 : w3.cell? ⟨w.heap.size + 1 + 1, 3, none⟩ = some (.int .i64 b1) := tcell (by go_simp) hb_3
    have l4_3 : w3.cell? ⟨w.heap.size + 1 + 1, 4, none⟩ = some (.int .i64 0) := tcell (by go_simp) hb_3
    have l5_3 : w3.cell? ⟨w.heap.size + 1 + 1, 5, none⟩ = some (.int .i64 0) := tcell (by go_simp) hb_3
    have l6_3 : w3.cell? ⟨w.heap.size + 1 + 1, 6, none⟩ = some (.int .i64 c1) := tcell (by go_simp) hb_3
    have l7_3 : w3.cell? ⟨w.heap.size + 1 + 1, 7, none⟩ = some (.int .i64 0) := tcell (by go_simp) hb_3
    have l8_3 : w3.cell? ⟨w.heap.size + 1 + 1, 8, none⟩ = some (.int .i64 0) := tcell (by go_simp) hb_3
    have l9_3 : w3.cell? ⟨w.heap.size + 1 + 1, 9, none⟩ = some (.int .i64 d1) := tcell (by go_simp) hb_3
    have l10_3 : w3.cell? ⟨w.heap.size + 1 + 1, 10, none⟩ = some (.int .i64 0) := tcell (by go_simp) hb_3
    have l11_3 : w3.cell? ⟨w.heap.size + 1 + 1, 11, none⟩ = some (.int .i64 0) := tcell (by go_simp) hb_3
    have hfl_3 : ∀ o, w3.frozen? ⟨w.heap.size + 1 + 1, o, none⟩ = false := fun o => (hb_3.frozen (p := ⟨w.heap.size + 1 + 1, o, none⟩) (by simp <;> omega)).trans (by simp only [World.frozen?_setCell, frozen?_alloc_cells]; exact hfl_2 o)
    have HBL_3 : RowKit.Hid (Below (w.heap.size + 1 + 1) w1 w3) := Lib.hid (Below.trans (by exact (((((HBL_2.out).setCell (Nat.le_refl _) _).setCell (Nat.le_refl _) _).setCell (Nat.le_refl _) _).setCell (Nat.le_refl _) _).alloc (by first | omega | (simp; omega)) _) (hb_3.mono (by simp <;> omega)))
    have hlt_3 : w.heap.size + 1 + 1 < w3.heap.size := cell_block_lt l0_3
    clear hb_3 HBL_2 hlt_2 hfl_2 l0_2 l1_2 l2_2 l3_2 l4_2 l5_2 l6_2 l7_2 l8_2 l9_2 l10_2 l11_2
    go_wp2_with fail
    refine wp_loop_rounds 5 ?_
    rw [rounds_succ]
    go_wp2_with fail
    rw [rounds_succ]
    go_wp2_with fail
    rw [rounds_succ]
    go_wp2_with fail
    rw [rounds_succ]
    go_wp2_with fail
    rw [rounds_succ]
    go_wp2_with fail
    rw [rounds_succ]
    go_wp2_with fail
    refine (rowNumbers _ _ _ _ _).mono ?_
    rintro e w4 ⟨rfl, hb_4⟩
    have l0_4 : w4.cell? ⟨w.heap.size + 1 + 1, 0, none⟩ = some (.int .i64 a1) := tcell (by go_simp) hb_4
    have l1_4 : w4.cell? ⟨w.heap.size + 1 + 1, 1, none⟩ = some (.int .i64 a2) := tcell (by go_simp) hb_4
    have l2_4 : w4.cell? ⟨w.heap.size + 1 + 1, 2, none⟩ = some (.int .i64 0) := tcell (by go_simp) hb_4
    have l3_4 : w4.cell? ⟨w.heap.size + 1 + 1, 3, none⟩ = some (.int .i64 b1) := tcell (by go_simp) hb_4
    have l4_4 : w4.cell? ⟨w.heap.size + 1 + 1, 4, none⟩ = some (.int .i64 b2) := tcell (by go_simp) hb_4
    have l5_4 : w4.cell? ⟨w.heap.size + 1 + 1, 5, none⟩ = some (.int .i64 0) := tcell (by go_simp) hb_4
    have l6_4 : w4.cell? ⟨w.heap.size + 1 + 1, 6, none⟩ = some (.int .i64 c1) := tcell (by go_simp) hb_4
    have l7_4 : w4.cell? ⟨w.heap.size + 1 + 1, 7, none⟩ = some (.int .i64 c2) := tcell (by go_simp) hb_4
    have l8_4 : w4.cell? ⟨w.heap.size + 1 + 1, 8, none⟩ = some (.int .i64 0) := tcell (by go_simp) hb_4
    have l9_4 : w4.cell? ⟨w.heap.size + 1 + 1, 9, none⟩ = some (.int .i64 d1) := tcell (by go_simp) hb_4
    have l10_4 : w4.cell? ⟨w.heap.size + 1 + 1, 10, none⟩ = some (.int .i64 d2) := tcell (by go_simp) hb_4
    have l11_4 : w4.cell? ⟨w.heap.size + 1 + 1, 11, none⟩ = some (.int .i64 0) := tcell (by go_simp) hb_4
    have hfl_4 : ∀ o, w4.frozen? ⟨w.heap.size + 1 + 1, o, none⟩ = false := fun o => (hb_4.frozen (p := ⟨w.heap.size + 1 + 1, o, none⟩) (by simp <;> omega)).trans (by simp only [World.frozen?_setCell, frozen?_alloc_cells]; exact hfl_3 o)
    have HBL_4 : RowKit.Hid (Below (w.heap.size + 1 + 1) w1 w4) := Lib.hid (Below.trans (by exact (((((HBL_3.out).setCell (Nat.le_refl _) _).setCell (Nat.le_refl _) _).setCell (Nat.le_refl _) _).setCell (Nat.le_refl _) _).alloc (by first | omega | (simp; omega)) _) (hb_4.mono (by simp <;> omega)))
    have hlt_4 : w.heap.size + 1 + 1 < w4.heap.size := cell_block_lt l0_4
    clear hb_4 HBL_3 hlt_3 hfl_3 l0_3 l1_3 l2_3 l3_3 l4_3 l5_3 l6_3 l7_3 l8_3 l9_3 l10_3 l11_3
    go_wp2_with fail
    refine wp_loop_rounds 5 ?_
    rw [rounds_succ]
    go_wp2_with fail
    rw [rounds_succ]
    go_wp2_with fail
    rw [rounds_succ]
    go_wp2_with fail
    rw [rounds_succ]
    go_wp2_with fail
    rw [rounds_succ]
    go_wp2_with fail
    obtain ⟨hfr, r0, r1, r2, r3, r4, r5, r6, r7, r8, r9, r10, r11⟩ := HRR.out
    have r0 := (HBL_4.out.cell (p := ⟨w.heap.size + 1, 0, none⟩) (Nat.lt_succ_self _)).trans r0
    have r1 := (HBL_4.out.cell (p := ⟨w.heap.size + 1, 1, none⟩) (Nat.lt_succ_self _)).trans r1
    have r2 := (HBL_4.out.cell (p := ⟨w.heap.size + 1, 2, none⟩) (Nat.lt_succ_self _)).trans r2
    have r3 := (HBL_4.out.cell (p := ⟨w.heap.size + 1, 3, none⟩) (Nat.lt_succ_self _)).trans r3
    have r4 := (HBL_4.out.cell (p := ⟨w.heap.size + 1, 4, none⟩) (Nat.lt_succ_self _)).trans r4
    have r5 := (HBL_4.out.cell (p := ⟨w.heap.size + 1, 5, none⟩) (Nat.lt_succ_self _)).trans r5
    have r6 := (HBL_4.out.cell (p := ⟨w.heap.size + 1, 6, none⟩) (Nat.lt_succ_self _)).trans r6
    have r7 := (HBL_4.out.cell (p := ⟨w.heap.size + 1, 7, none⟩) (Nat.lt_succ_self _)).trans r7
    have r8 := (HBL_4.out.cell (p := ⟨w.heap.size + 1, 8, none⟩) (Nat.lt_succ_self _)).trans r8
    have r9 := (HBL_4.out.cell (p := ⟨w.heap.size + 1, 9, none⟩) (Nat.lt_succ_self _)).trans r9
    have r10 := (HBL_4.out.cell (p := ⟨w.heap.size + 1, 10, none⟩) (Nat.lt_succ_self _)).trans r10
    have r11 := (HBL_4.out.cell (p := ⟨w.heap.size + 1, 11, none⟩) (Nat.lt_succ_self _)).trans r11
    have hfr := fun o => (HBL_4.out.frozen (p := ⟨w.heap.size + 1, o, none⟩) (Nat.lt_succ_self _)).trans (hfr o)
    have HB4 := Lib.hid (HB1.out.trans (HBL_4.out.mono (show w.heap.size ≤ w.heap.size + 1 + 1 by omega)))
    clear HRR HBL_4
    rw [rounds_succ]
    go_wp2_with fail
    refine World.any (p := fun W => bodyPost _ _ _ _ _ W) (fun Z hW => ?_)
    have z0 : Z.cell? ⟨w.heap.size + 1, 0, none⟩ = some (.int .i64 a1) := by subst hW; go_simp
    have z1 : Z.cell? ⟨w.heap.size + 1, 1, none⟩ = some (.int .i64 a2) := by subst hW; go_simp
    have z2 : Z.cell? ⟨w.heap.size + 1, 2, none⟩ = some (.int .i64 a3) := by subst hW; go_simp
    have z3 : Z.cell? ⟨w.heap.size + 1, 3, none⟩ = some (.int .i64 b1) := by subst hW; go_simp
    have z4 : Z.cell? ⟨w.heap.size + 1, 4, none⟩ = some (.int .i64 b2) := by subst hW; go_simp
    have z5 : Z.cell? ⟨w.heap.size + 1, 5, none⟩ = some (.int .i64 b3) := by subst hW; go_simp
    have z6 : Z.cell? ⟨w.heap.size + 1, 6, none⟩ = some (.int .i64 c1) := by subst hW; go_simp
    have z7 : Z.cell? ⟨w.heap.size + 1, 7, none⟩ = some (.int .i64 c2) := by subst hW; go_simp
    have z8 : Z.cell? ⟨w.heap.size + 1, 8, none⟩ = some (.int .i64 c3) := by subst hW; go_simp
    have z9 : Z.cell? ⟨w.heap.size + 1, 9, none⟩ = some (.int .i64 d1) := by subst hW; go_simp
    have z10 : Z.cell? ⟨w.heap.size + 1, 10, none⟩ = some (.int .i64 d2) := by subst hW; go_simp
    have z11 : Z.cell? ⟨w.heap.size + 1, 11, none⟩ = some (.int .i64 d3) := by subst hW; go_simp
    have HBW : Below w.heap.size w Z := by
      subst hW
      repeat refine Below.setCell ?_ (by simp <;> omega) _
      exact HB4.out
    refine bodyPost_ret (v := .agg #[.int .i64 a1, .int .i64 a2, .int .i64 a3, .int .i64 b1, .int .i64 b2, .int .i64 b3, .int .i64 c1, .int .i64 c2, .int .i64 c3, .int .i64 d1, .int .i64 d2, .int .i64 d3]) (by simp [results, Try.results37, go_sem, z0, z1, z2, z3, z4, z5, z6, z7, z8, z9, z10, z11]) rfl ⟨rfl, HBW⟩
end Go.Proofs.Ytibcalpkmjjilaa

/- Three rows: the contracts of the program's isJustMetBy, IsJustMet, DetOfRows and SolveRows. -/
namespace Go.Proofs.Ytibcalpkmjjilaa
set_option maxRecDepth 100000
open Go.ChangeShapes Go.WideShapes Go.ChangeAt Go.RowKit

/-- What isJustMetBy answers of a valid thrust. -/
def jmR (h v m d a b c e : Int) : Bool := cdOk a b c e && decide (a * h + b * v + c * m = e * d)
theorem jmR_no {h v m d a b c e : Int} (hr : cdOk a b c e = false) : jmR h v m d a b c e = false := by unfold jmR; rw [hr]; rfl
theorem jmR_yes {h v m d a b c e : Int} (hr : cdOk a b c e = true) : jmR h v m d a b c e = decide (cdX h v m d a b c e = 0) := by
  unfold jmR cdX; rw [hr, Bool.true_and]
  rw [Bool.eq_iff_iff, decide_eq_true_iff, decide_eq_true_iff]
  omega
theorem jmB_R {h v m d a b c e : Int} (ht : okT h v m d = true) : jmB (h, v, m, d) (a, b, c, e) = jmR h v m d a b c e := by unfold jmB okTh; dsimp only; rw [ht]; rfl

set_option maxHeartbeats 1000000 in
theorem rowJustMet (h v m d a b c e : Int) (w : World) (ht : okT h v m d = true) :
    Calls Try.prog 42 #[.agg #[.int .i64 a, .int .i64 b, .int .i64 c, .int .i64 e], .agg #[.int .i64 h, .int .i64 v, .int .i64 m, .int .i64 d]] w fun e1 w' => e1 = .returned (.bool (jmR h v m d a b c e)) ∧ Below w.heap.size w w' := by
  have hb0 := ((Below.refl w.heap.size w).alloc (Nat.le_refl _) (.cells #[.int .i64 a, .int .i64 b, .int .i64 c, .int .i64 e] 25)).alloc (by simp) (.cells #[.int .i64 h, .int .i64 v, .int .i64 m, .int .i64 d] 29)
  have HB0 := Lib.hid hb0
  clear hb0
  cases hr : cdOk a b c e
  · have HV := Lib.hid (jmR_no (h := h) (v := v) (m := m) (d := d) hr)
    clear ht
    go_enter Try.func42, Try.ntmps42
    go_wp2_with fail
    refine (rowValid _ _ _ _ _).mono ?_
    rintro e1 w1 ⟨rfl, hb1⟩
    rw [hr]
    go_wp2_with fail
    go_ret
    exact ⟨ret_bool HV.out.symm, HB0.out.trans (hb1.mono HB0.out.size)⟩
  · have HV := Lib.hid (jmR_yes (h := h) (v := v) (m := m) (d := d) hr)
    have hd := (okT_iff.1 ht).1
    have HC := Lib.hid (fun w => rowExcess h v m d a b c e w (cd_bd ht hr) (by omega))
    clear ht hd
    generalize cdX h v m d a b c e = X at *
    go_enter Try.func42, Try.ntmps42
    go_wp2_with fail
    refine (rowValid _ _ _ _ _).mono ?_
    rintro e1 w1 ⟨rfl, hb1⟩
    rw [hr]
    have HB1 := Lib.hid (HB0.out.trans (hb1.mono HB0.out.size))
    have a0 : w1.cell? ⟨w.heap.size, 0, none⟩ = some (.int .i64 a) := tcell (by go_simp) hb1
    have a1 : w1.cell? ⟨w.heap.size, 1, none⟩ = some (.int .i64 b) := tcell (by go_simp) hb1
    have a2 : w1.cell? ⟨w.heap.size, 2, none⟩ = some (.int .i64 c) := tcell (by go_simp) hb1
    have a3 : w1.cell? ⟨w.heap.size, 3, none⟩ = some (.int .i64 e) := tcell (by go_simp) hb1
    have b0 : w1.cell? ⟨w.heap.size + 1, 0, none⟩ = some (.int .i64 h) := tcell (by go_simp) hb1
    have b1 : w1.cell? ⟨w.heap.size + 1, 1, none⟩ = some (.int .i64 v) := tcell (by go_simp) hb1
    have b2 : w1.cell? ⟨w.heap.size + 1, 2, none⟩ = some (.int .i64 m) := tcell (by go_simp) hb1
    have b3 : w1.cell? ⟨w.heap.size + 1, 3, none⟩ = some (.int .i64 d) := tcell (by go_simp) hb1
    clear hb1 HB0
    go_wp2_with fail
    refine (HC.out _).mono ?_
    rintro e1 w2 ⟨rfl, hb2⟩
    have HBE := Lib.hid (HB1.out.trans (hb2.mono HB1.out.size))
    clear hb2 HB1
    go_wp2_with fail
    go_ret
    exact ⟨ret_bool (by rw [HV.out]; first | rfl | (rw [Bool.eq_iff_iff]; simp)), HBE.out⟩

set_option maxHeartbeats 1000000 in
theorem implIsJustMet (h v m d a b c e : Int) (w : World) :
    Calls Try.prog 11 #[.agg #[.int .i64 h, .int .i64 v, .int .i64 m, .int .i64 d], .agg #[.int .i64 a, .int .i64 b, .int .i64 c, .int .i64 e]] w fun e1 w' => e1 = .returned (.bool (jmB (h, v, m, d) (a, b, c, e))) ∧ Below w.heap.size w w' := by
  have hb0 := ((Below.refl w.heap.size w).alloc (Nat.le_refl _) (.cells #[.int .i64 h, .int .i64 v, .int .i64 m, .int .i64 d] 29)).alloc (by simp) (.cells #[.int .i64 a, .int .i64 b, .int .i64 c, .int .i64 e] 25)
  have HB0 := Lib.hid hb0
  clear hb0
  cases ht : okT h v m d
  · have HV := Lib.hid (jmB_t (p := (a, b, c, e)) (show okTh (h, v, m, d) = false from ht))
    go_enter Try.func11, Try.ntmps11
    go_wp2_with fail
    refine (isValidT _ _ _ _ _).mono ?_
    rintro e1 w1 ⟨rfl, hb1⟩
    rw [ht]
    go_wp2_with fail
    go_ret
    exact ⟨ret_bool HV.out.symm, HB0.out.trans (hb1.mono HB0.out.size)⟩
  · have HV := Lib.hid (jmB_R (a := a) (b := b) (c := c) (e := e) ht)
    have HC := Lib.hid (fun w => rowJustMet h v m d a b c e w ht)
    go_enter Try.func11, Try.ntmps11
    go_wp2_with fail
    refine (isValidT _ _ _ _ _).mono ?_
    rintro e1 w1 ⟨rfl, hb1⟩
    rw [ht]
    have HB1 := Lib.hid (HB0.out.trans (hb1.mono HB0.out.size))
    have b0 : w1.cell? ⟨w.heap.size, 0, none⟩ = some (.int .i64 h) := tcell (by go_simp) hb1
    have b1 : w1.cell? ⟨w.heap.size, 1, none⟩ = some (.int .i64 v) := tcell (by go_simp) hb1
    have b2 : w1.cell? ⟨w.heap.size, 2, none⟩ = some (.int .i64 m) := tcell (by go_simp) hb1
    have b3 : w1.cell? ⟨w.heap.size, 3, none⟩ = some (.int .i64 d) := tcell (by go_simp) hb1
    have a0 : w1.cell? ⟨w.heap.size + 1, 0, none⟩ = some (.int .i64 a) := tcell (by go_simp) hb1
    have a1 : w1.cell? ⟨w.heap.size + 1, 1, none⟩ = some (.int .i64 b) := tcell (by go_simp) hb1
    have a2 : w1.cell? ⟨w.heap.size + 1, 2, none⟩ = some (.int .i64 c) := tcell (by go_simp) hb1
    have a3 : w1.cell? ⟨w.heap.size + 1, 3, none⟩ = some (.int .i64 e) := tcell (by go_simp) hb1
    clear hb1 HB0
    go_wp2_with fail
    refine (HC.out _).mono ?_
    rintro e1 w2 ⟨rfl, hb2⟩
    go_wp2_with fail
    go_ret
    exact ⟨ret_bool HV.out.symm, HB1.out.trans (hb2.mono HB1.out.size)⟩

/-- linesOf's answer as letters with the bounds and the sums that the determinants come to. -/
theorem lines_any (p q r : Cd) : ∃ (ok : Bool) (A1 A2 A3 B1 B2 B3 C1 C2 C3 D1 D2 D3 : Int), ok3 p q r = ok ∧
    lnV ok p.1 p.2.1 p.2.2.1 p.2.2.2 q.1 q.2.1 q.2.2.1 q.2.2.2 r.1 r.2.1 r.2.2.1 r.2.2.2 = .agg #[.int .i64 A1, .int .i64 A2, .int .i64 A3, .int .i64 B1, .int .i64 B2, .int .i64 B3, .int .i64 C1, .int .i64 C2, .int .i64 C3, .int .i64 D1, .int .i64 D2, .int .i64 D3] ∧
    ColBd A1 A2 A3 B1 B2 B3 C1 C2 C3 ∧ ColBd D1 D2 D3 B1 B2 B3 C1 C2 C3 ∧ ColBd A1 A2 A3 D1 D2 D3 C1 C2 C3 ∧ ColBd A1 A2 A3 B1 B2 B3 D1 D2 D3 ∧
    detC A1 A2 A3 B1 B2 B3 C1 C2 C3 = dtV p q r ∧
    mkV (detC D1 D2 D3 B1 B2 B3 C1 C2 C3) (detC A1 A2 A3 D1 D2 D3 C1 C2 C3) (detC A1 A2 A3 B1 B2 B3 D1 D2 D3) (dtV p q r) = mkV (dtH p q r) (dtU p q r) (dtM p q r) (dtV p q r) := by
  have hb := ln_bd (ok := ok3 p q r) (p := p) (q := q) (r := r) (fun h => ok3_iff.1 h)
  have hd := ln_det p q r
  obtain ⟨ok, hok⟩ : ∃ ok, ok3 p q r = ok := ⟨_, rfl⟩
  rw [hok] at hb hd
  refine ⟨ok, (lnR ok p).1, (lnR ok q).1, (lnR ok r).1, (lnR ok p).2.1, (lnR ok q).2.1, (lnR ok r).2.1, (lnR ok p).2.2.1, (lnR ok q).2.2.1, (lnR ok r).2.2.1, (lnR ok p).2.2.2, (lnR ok q).2.2.2, (lnR ok r).2.2.2, hok, ?_, hb.1, hb.2.1, hb.2.2.1, hb.2.2.2, hd, ?_⟩
  · cases ok <;> rfl
  · cases ok with
    | true => rw [detC_eq, detC_eq, detC_eq]; rfl
    | false =>
      have hz : dtV p q r = 0 := by rw [← hd]; rfl
      rw [hz, mkV_no mkB_zero, mkV_no mkB_zero]

set_option maxHeartbeats 2000000 in
theorem implDetOfRows (a1 b1 c1 d1 a2 b2 c2 d2 a3 b3 c3 d3 : Int) (w : World) :
    Calls Try.prog 9 #[.agg #[.int .i64 a1, .int .i64 b1, .int .i64 c1, .int .i64 d1], .agg #[.int .i64 a2, .int .i64 b2, .int .i64 c2, .int .i64 d2], .agg #[.int .i64 a3, .int .i64 b3, .int .i64 c3, .int .i64 d3]] w fun e1 w' => e1 = .returned (.int .i64 (dtV (a1, b1, c1, d1) (a2, b2, c2, d2) (a3, b3, c3, d3))) ∧ Below w.heap.size w w' := by
  have HB0 := Lib.hid ((((Below.refl w.heap.size w).alloc (Nat.le_refl _) (.cells #[.int .i64 a1, .int .i64 b1, .int .i64 c1, .int .i64 d1] 25)).alloc (by simp) (.cells #[.int .i64 a2, .int .i64 b2, .int .i64 c2, .int .i64 d2] 25)).alloc (by simp <;> omega) (.cells #[.int .i64 a3, .int .i64 b3, .int .i64 c3, .int .i64 d3] 25))
  obtain ⟨ok, A1, A2, A3, B1, B2, B3, C1, C2, C3, D1, D2, D3, hok, hv, h1, -, -, -, hd, -⟩ := lines_any (a1, b1, c1, d1) (a2, b2, c2, d2) (a3, b3, c3, d3)
  have HL := Lib.hid (fun w => linesOf a1 b1 c1 d1 a2 b2 c2 d2 a3 b3 c3 d3 w)
  rw [hok] at HL
  dsimp only at hv
  rw [hv] at HL
  have HD := Lib.hid (fun w => determinant A1 A2 A3 B1 B2 B3 C1 C2 C3 w h1)
  rw [hd] at HD
  clear hv h1 hd hok
  go_enter Try.func9, Try.ntmps9
  go_wp2_with fail
  refine (HL.out _).mono ?_
  rintro e1 w1 ⟨rfl, hb1⟩
  have HB1 := Lib.hid (HB0.out.trans (hb1.mono HB0.out.size))
  have HB2 := Lib.hid (HB1.out.alloc HB1.out.size (.cells #[.int .i64 A1, .int .i64 A2, .int .i64 A3, .int .i64 B1, .int .i64 B2, .int .i64 B3, .int .i64 C1, .int .i64 C2, .int .i64 C3, .int .i64 D1, .int .i64 D2, .int .i64 D3] 75))
  clear hb1 HB0
  go_wp2_with fail
  refine (HD.out _).mono ?_
  rintro e1 w2 ⟨rfl, hb2⟩
  go_wp2_with fail
  go_ret
  exact ⟨rfl, HB2.out.trans (hb2.mono HB2.out.size)⟩
end Go.Proofs.Ytibcalpkmjjilaa
