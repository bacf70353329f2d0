/- Three rows, plainly: their determinant, the thrust by which they are just met, which rows a thrust just meets, the corners of a list of rows, as functions of the numbers. -/
import Derived.Test.YtidmhpeaehmmhaaDoorCondP
namespace Go.Proofs.YtidmhpeaehmmhaaDoor
set_option maxRecDepth 100000

/-- The determinant of three lines of three numbers. -/
def det3 (a b c d e f g h i : Int) : Int := a * (e * i - f * h) - b * (d * i - f * g) + c * (d * h - e * g)
theorem det_turn (a b c d e f g h i : Int) : det3 d e f g h i a b c = det3 a b c d e f g h i := by unfold det3; grind
theorem det_swap (a b c d e f g h i : Int) : det3 d e f a b c g h i = -det3 a b c d e f g h i := by unfold det3; grind
theorem cramer1 (a b c x d e f y g h i z : Int) : a * det3 x b c y e f z h i + b * det3 a x c d y f g z i + c * det3 a b x d e y g h z = x * det3 a b c d e f g h i := by unfold det3; grind
theorem cramer2 (a b c x d e f y g h i z : Int) : d * det3 x b c y e f z h i + e * det3 a x c d y f g z i + f * det3 a b x d e y g h z = y * det3 a b c d e f g h i := by unfold det3; grind
theorem cramer3 (a b c x d e f y g h i z : Int) : g * det3 x b c y e f z h i + h * det3 a x c d y f g z i + i * det3 a b x d e y g h z = z * det3 a b c d e f g h i := by unfold det3; grind

def okR (p : Cd) : Bool := cdOk p.1 p.2.1 p.2.2.1 p.2.2.2
def dtR (p q r : Cd) : Int := det3 p.1 p.2.1 p.2.2.1 q.1 q.2.1 q.2.2.1 r.1 r.2.1 r.2.2.1
def dtH (p q r : Cd) : Int := det3 p.2.2.2 p.2.1 p.2.2.1 q.2.2.2 q.2.1 q.2.2.1 r.2.2.2 r.2.1 r.2.2.1
def dtU (p q r : Cd) : Int := det3 p.1 p.2.2.2 p.2.2.1 q.1 q.2.2.2 q.2.2.1 r.1 r.2.2.2 r.2.2.1
def dtM (p q r : Cd) : Int := det3 p.1 p.2.1 p.2.2.2 q.1 q.2.1 q.2.2.2 r.1 r.2.1 r.2.2.2
/-- What DetOfRows answers. -/
def dtV (p q r : Cd) : Int := if okR p && okR q && okR r then dtR p q r else 0
theorem dtV_yes {p q r : Cd} (hp : okR p = true) (hq : okR q = true) (hr : okR r = true) : dtV p q r = dtR p q r := by unfold dtV; rw [hp, hq, hr]; rfl
theorem dtV_p {p q r : Cd} (hp : okR p = false) : dtV p q r = 0 := by unfold dtV; rw [hp]; rfl
theorem dtV_q {p q r : Cd} (hq : okR q = false) : dtV p q r = 0 := by unfold dtV; rw [hq]; simp
theorem dtV_r {p q r : Cd} (hr : okR r = false) : dtV p q r = 0 := by unfold dtV; rw [hr]; simp
theorem dtV_ok {p q r : Cd} (h : dtV p q r ≠ 0) : okR p = true ∧ okR q = true ∧ okR r = true := by
  unfold dtV at h
  split at h
  · rename_i hh; simp only [Bool.and_eq_true] at hh; exact ⟨hh.1.1, hh.1.2, hh.2⟩
  · exact absurd rfl h
theorem dtV_turn (p q r : Cd) : dtV q r p = dtV p q r := by
  unfold dtV dtR
  rw [det_turn, Bool.and_comm (okR q && okR r), ← Bool.and_assoc]
theorem dtV_swap (p q r : Cd) : dtV q p r = -dtV p q r := by
  unfold dtV dtR
  rw [det_swap, Bool.and_comm (okR q)]
  split <;> simp

theorem okR_iff {p : Cd} : okR p = true ↔ (-100 ≤ p.1 ∧ p.1 ≤ 100) ∧ (-100 ≤ p.2.1 ∧ p.2.1 ≤ 100) ∧ (-1 ≤ p.2.2.1 ∧ p.2.2.1 ≤ 1) ∧ (-1000000000 ≤ p.2.2.2 ∧ p.2.2.2 ≤ 1000000000) := cdOk_iff
/-- A determinant's products, of numbers with bounds. -/
structure DetBd (L : Nat) (a b c d e f g h i : Int) : Prop where
  ei : -(L : Int) ≤ e * i ∧ e * i ≤ L
  fh : -(L : Int) ≤ f * h ∧ f * h ≤ L
  di : -(L : Int) ≤ d * i ∧ d * i ≤ L
  fg : -(L : Int) ≤ f * g ∧ f * g ≤ L
  dh : -(L : Int) ≤ d * h ∧ d * h ≤ L
  eg : -(L : Int) ≤ e * g ∧ e * g ≤ L
  a3 : -(1000000000000000 : Int) ≤ a * (e * i - f * h) ∧ a * (e * i - f * h) ≤ 1000000000000000
  b3 : -(1000000000000000 : Int) ≤ b * (d * i - f * g) ∧ b * (d * i - f * g) ≤ 1000000000000000
  c3 : -(1000000000000000 : Int) ≤ c * (d * h - e * g) ∧ c * (d * h - e * g) ≤ 1000000000000000
theorem mulN_bd {x y : Int} {a b : Nat} (hx : -(a : Int) ≤ x ∧ x ≤ a) (hy : -(b : Int) ≤ y ∧ y ≤ b) {L : Nat} (hl : a * b ≤ L) : -(L : Int) ≤ x * y ∧ x * y ≤ L := by
  have := mulT_bd (x := x) (y := y) a b hx hy
  have hl' : ((a * b : Nat) : Int) ≤ (L : Int) := Int.ofNat_le.2 hl
  omega
theorem mulI_bd {x y : Int} {a b : Nat} (hx : -(a : Int) ≤ x ∧ x ≤ a) (hy : -(b : Int) ≤ y ∧ y ≤ b) (hl : a * b ≤ 1000000000000000) : -(1000000000000000 : Int) ≤ x * y ∧ x * y ≤ 1000000000000000 := by
  have := mulN_bd hx hy hl
  omega
/-- The first column's numbers are at most A, the second's B, the third's C. -/
theorem det_bd {A B C : Nat} {a b c d e f g h i : Int} (ha : -(A : Int) ≤ a ∧ a ≤ A) (hb : -(B : Int) ≤ b ∧ b ≤ B) (hc : -(C : Int) ≤ c ∧ c ≤ C) (hd : -(A : Int) ≤ d ∧ d ≤ A) (he : -(B : Int) ≤ e ∧ e ≤ B) (hf : -(C : Int) ≤ f ∧ f ≤ C)
    (hg : -(A : Int) ≤ g ∧ g ≤ A) (hh : -(B : Int) ≤ h ∧ h ≤ B) (hi : -(C : Int) ≤ i ∧ i ≤ C) {L : Nat} (h1 : B * C ≤ L) (h2 : A * C ≤ L) (h3 : A * B ≤ L) (k1 : A * (2 * L) ≤ 1000000000000000) (k2 : B * (2 * L) ≤ 1000000000000000) (k3 : C * (2 * L) ≤ 1000000000000000) :
    DetBd L a b c d e f g h i := by
  have ei := mulN_bd he hi h1
  have fh := mulN_bd hf hh (show C * B ≤ L by rw [Nat.mul_comm]; exact h1)
  have di := mulN_bd hd hi h2
  have fg := mulN_bd hf hg (show C * A ≤ L by rw [Nat.mul_comm]; exact h2)
  have dh := mulN_bd hd hh h3
  have eg := mulN_bd he hg (show B * A ≤ L by rw [Nat.mul_comm]; exact h3)
  exact ⟨ei, fh, di, fg, dh, eg, mulI_bd ha (b := 2 * L) (by omega) k1, mulI_bd hb (b := 2 * L) (by omega) k2, mulI_bd hc (b := 2 * L) (by omega) k3⟩
theorem dtR_bd {p q r : Cd} (hp : okR p = true) (hq : okR q = true) (hr : okR r = true) : DetBd 10000 p.1 p.2.1 p.2.2.1 q.1 q.2.1 q.2.2.1 r.1 r.2.1 r.2.2.1 := by
  have a := okR_iff.1 hp
  have b := okR_iff.1 hq
  have c := okR_iff.1 hr
  exact det_bd (A := 100) (B := 100) (C := 1) (by omega) (by omega) (by omega) (by omega) (by omega) (by omega) (by omega) (by omega) (by omega) (by omega) (by omega) (by omega) (by omega) (by omega) (by omega)
theorem dtH_bd {p q r : Cd} (hp : okR p = true) (hq : okR q = true) (hr : okR r = true) : DetBd 100000000000 p.2.2.2 p.2.1 p.2.2.1 q.2.2.2 q.2.1 q.2.2.1 r.2.2.2 r.2.1 r.2.2.1 := by
  have a := okR_iff.1 hp
  have b := okR_iff.1 hq
  have c := okR_iff.1 hr
  -- the first column is the great one
  have e1 := mulN_bd (x := q.2.1) (y := r.2.2.1) (a := 100) (b := 1) (by omega) (by omega) (L := 100) (by omega)
  have e2 := mulN_bd (x := q.2.2.1) (y := r.2.1) (a := 1) (b := 100) (by omega) (by omega) (L := 100) (by omega)
  have e3 := mulN_bd (x := q.2.2.2) (y := r.2.2.1) (a := 1000000000) (b := 1) (by omega) (by omega) (L := 1000000000) (by omega)
  have e4 := mulN_bd (x := q.2.2.1) (y := r.2.2.2) (a := 1) (b := 1000000000) (by omega) (by omega) (L := 1000000000) (by omega)
  have e5 := mulN_bd (x := q.2.2.2) (y := r.2.1) (a := 1000000000) (b := 100) (by omega) (by omega) (L := 100000000000) (by omega)
  have e6 := mulN_bd (x := q.2.1) (y := r.2.2.2) (a := 100) (b := 1000000000) (by omega) (by omega) (L := 100000000000) (by omega)
  exact ⟨by omega, by omega, by omega, by omega, by omega, by omega, mulI_bd (a := 1000000000) (b := 200) (by omega) (by omega) (by omega), mulI_bd (a := 100) (b := 2000000000) (by omega) (by omega) (by omega), mulI_bd (a := 1) (b := 200000000000) (by omega) (by omega) (by omega)⟩
theorem dtU_bd {p q r : Cd} (hp : okR p = true) (hq : okR q = true) (hr : okR r = true) : DetBd 100000000000 p.1 p.2.2.2 p.2.2.1 q.1 q.2.2.2 q.2.2.1 r.1 r.2.2.2 r.2.2.1 := by
  have a := okR_iff.1 hp
  have b := okR_iff.1 hq
  have c := okR_iff.1 hr
  have e1 := mulN_bd (x := q.2.2.2) (y := r.2.2.1) (a := 1000000000) (b := 1) (by omega) (by omega) (L := 1000000000) (by omega)
  have e2 := mulN_bd (x := q.2.2.1) (y := r.2.2.2) (a := 1) (b := 1000000000) (by omega) (by omega) (L := 1000000000) (by omega)
  have e3 := mulN_bd (x := q.1) (y := r.2.2.1) (a := 100) (b := 1) (by omega) (by omega) (L := 100) (by omega)
  have e4 := mulN_bd (x := q.2.2.1) (y := r.1) (a := 1) (b := 100) (by omega) (by omega) (L := 100) (by omega)
  have e5 := mulN_bd (x := q.1) (y := r.2.2.2) (a := 100) (b := 1000000000) (by omega) (by omega) (L := 100000000000) (by omega)
  have e6 := mulN_bd (x := q.2.2.2) (y := r.1) (a := 1000000000) (b := 100) (by omega) (by omega) (L := 100000000000) (by omega)
  exact ⟨by omega, by omega, by omega, by omega, by omega, by omega, mulI_bd (a := 100) (b := 2000000000) (by omega) (by omega) (by omega), mulI_bd (a := 1000000000) (b := 200) (by omega) (by omega) (by omega), mulI_bd (a := 1) (b := 200000000000) (by omega) (by omega) (by omega)⟩
theorem dtM_bd {p q r : Cd} (hp : okR p = true) (hq : okR q = true) (hr : okR r = true) : DetBd 100000000000 p.1 p.2.1 p.2.2.2 q.1 q.2.1 q.2.2.2 r.1 r.2.1 r.2.2.2 := by
  have a := okR_iff.1 hp
  have b := okR_iff.1 hq
  have c := okR_iff.1 hr
  have e1 := mulN_bd (x := q.2.1) (y := r.2.2.2) (a := 100) (b := 1000000000) (by omega) (by omega) (L := 100000000000) (by omega)
  have e2 := mulN_bd (x := q.2.2.2) (y := r.2.1) (a := 1000000000) (b := 100) (by omega) (by omega) (L := 100000000000) (by omega)
  have e3 := mulN_bd (x := q.1) (y := r.2.2.2) (a := 100) (b := 1000000000) (by omega) (by omega) (L := 100000000000) (by omega)
  have e4 := mulN_bd (x := q.2.2.2) (y := r.1) (a := 1000000000) (b := 100) (by omega) (by omega) (L := 100000000000) (by omega)
  have e5 := mulN_bd (x := q.1) (y := r.2.1) (a := 100) (b := 100) (by omega) (by omega) (L := 10000) (by omega)
  have e6 := mulN_bd (x := q.2.1) (y := r.1) (a := 100) (b := 100) (by omega) (by omega) (L := 10000) (by omega)
  exact ⟨by omega, by omega, by omega, by omega, by omega, by omega, mulI_bd (a := 100) (b := 200000000000) (by omega) (by omega) (by omega), mulI_bd (a := 100) (b := 200000000000) (by omega) (by omega) (by omega), mulI_bd (a := 1000000000) (b := 20000) (by omega) (by omega) (by omega)⟩
theorem DetBd.val {L : Nat} {a b c d e f g h i : Int} (x : DetBd L a b c d e f g h i) : -3000000000000000 ≤ det3 a b c d e f g h i ∧ det3 a b c d e f g h i ≤ 3000000000000000 := by
  obtain ⟨-, -, -, -, -, -, h1, h2, h3⟩ := x
  unfold det3
  omega

/-- Whether SolveRows answers a thrust; the thrust (zeros where there is none). -/
def soB (p q r : Cd) : Bool := mkB (dtH p q r) (dtU p q r) (dtM p q r) (dtV p q r)
def soT (p q r : Cd) : Cd := (mkN (dtH p q r) (dtH p q r) (dtU p q r) (dtM p q r) (dtV p q r), mkN (dtU p q r) (dtH p q r) (dtU p q r) (dtM p q r) (dtV p q r), mkN (dtM p q r) (dtH p q r) (dtU p q r) (dtM p q r) (dtV p q r), mkN (dtV p q r) (dtH p q r) (dtU p q r) (dtM p q r) (dtV p q r))
def okTh (t : Cd) : Bool := okT t.1 t.2.1 t.2.2.1 t.2.2.2
theorem soB_d {p q r : Cd} (h : soB p q r = true) : dtV p q r ≠ 0 := by
  intro h0
  unfold soB at h
  rw [h0] at h
  simp [mkB] at h
theorem soB_okT {p q r : Cd} (h : soB p q r = true) : okTh (soT p q r) = true := by
  have hd := soB_d h
  unfold soB at h
  unfold okTh soT
  dsimp only
  rw [mkN_yes h, mkN_yes h, mkN_yes h, mkN_yes h]
  unfold mkB at h
  simp only [Bool.and_eq_true] at h
  exact h.2.2

/-- What IsJustMet answers. -/
def jmB (t p : Cd) : Bool := okTh t && (okR p && decide (p.1 * t.1 + p.2.1 * t.2.1 + p.2.2.1 * t.2.2.1 = p.2.2.2 * t.2.2.2))
theorem jmB_t {t p : Cd} (h : okTh t = false) : jmB t p = false := by unfold jmB; rw [h]; rfl
theorem jmB_r {t p : Cd} (h : okR p = false) : jmB t p = false := by unfold jmB; rw [h]; simp
theorem jmB_yes {t p : Cd} (h : okTh t = true) (hr : okR p = true) : jmB t p = decide (p.1 * t.1 + p.2.1 * t.2.1 + p.2.2.1 * t.2.2.1 = p.2.2.2 * t.2.2.2) := by unfold jmB; rw [h, hr]; rfl
theorem just_of {s a b c x H V M D h v m d : Int} (hs : s ≠ 0) (h1 : s * H = h) (h2 : s * V = v) (h3 : s * M = m) (h4 : s * D = d) (he : a * h + b * v + c * m = x * d) : a * H + b * V + c * M = x * D := by
  subst h1 h2 h3 h4
  have : s * (a * H + b * V + c * M) = s * (x * D) := by grind
  exact Int.eq_of_mul_eq_mul_left hs this
/-- Three rows are just met by their solution. -/
theorem so_just {p q r : Cd} (h : soB p q r = true) : jmB (soT p q r) p = true ∧ jmB (soT p q r) q = true ∧ jmB (soT p q r) r = true := by
  have hd := soB_d h
  have hok := soB_okT h
  obtain ⟨hp, hq, hr⟩ := dtV_ok hd
  have hdR := dtV_yes hp hq hr
  have hh := h
  unfold soB at hh
  obtain ⟨e1, e2, e3, e4, -⟩ := parts (h := dtH p q r) (v := dtU p q r) (m := dtM p q r) hd
  have hs := sgn_ne (h := dtH p q r) (v := dtU p q r) (m := dtM p q r) hd
  rw [← mkN_yes (x := dtH p q r) hh] at e1
  rw [← mkN_yes (x := dtU p q r) hh] at e2
  rw [← mkN_yes (x := dtM p q r) hh] at e3
  rw [← mkN_yes (x := dtV p q r) hh] at e4
  refine ⟨?_, ?_, ?_⟩
  · rw [jmB_yes hok hp, decide_eq_true_iff]
    exact just_of hs e1 e2 e3 e4 (by rw [hdR]; exact cramer1 ..)
  · rw [jmB_yes hok hq, decide_eq_true_iff]
    exact just_of hs e1 e2 e3 e4 (by rw [hdR]; exact cramer2 ..)
  · rw [jmB_yes hok hr, decide_eq_true_iff]
    exact just_of hs e1 e2 e3 e4 (by rw [hdR]; exact cramer3 ..)
theorem jm_ful {t p : Cd} (h : jmB t p = true) : fulV t.1 t.2.1 t.2.2.1 t.2.2.2 p.1 p.2.1 p.2.2.1 p.2.2.2 = true := by
  unfold jmB at h
  simp only [Bool.and_eq_true, decide_eq_true_eq] at h
  unfold fulV cdF
  rw [Bool.and_eq_true, Bool.and_eq_true, cdH_iff]
  exact ⟨h.1, h.2.1, by omega⟩

/-- The indices below k of the rows that are just met: what JustMetBy answers. -/
def jmTo (t : Cd) (rs : List Cd) : Nat → List Int
  | 0 => []
  | k + 1 => if jmB t (cd rs k) then jmTo t rs k ++ [(k : Int)] else jmTo t rs k
theorem jmTo_yes {t : Cd} {rs : List Cd} {k : Nat} (h : jmB t (cd rs k) = true) : jmTo t rs (k + 1) = jmTo t rs k ++ [(k : Int)] := by show (if _ then _ else _) = _; rw [h]; rfl
theorem jmTo_no {t : Cd} {rs : List Cd} {k : Nat} (h : jmB t (cd rs k) = false) : jmTo t rs (k + 1) = jmTo t rs k := by show (if _ then _ else _) = _; rw [h]; rfl
theorem jmTo_le (t : Cd) (rs : List Cd) (k : Nat) : (jmTo t rs k).length ≤ k := by
  induction k with
  | zero => exact Nat.le_refl _
  | succ k ih =>
    cases h : jmB t (cd rs k)
    · rw [jmTo_no h]; omega
    · rw [jmTo_yes h, List.length_append]; simp; omega
theorem jmTo_mono (t : Cd) (rs : List Cd) (a b : Nat) (h : a ≤ b) : (jmTo t rs a).length ≤ (jmTo t rs b).length := by
  induction b with
  | zero => rw [show a = 0 by omega]; exact Nat.le_refl _
  | succ b ih =>
    by_cases he : a = b + 1
    · rw [he]; exact Nat.le_refl _
    · have := ih (by omega)
      cases hj : jmB t (cd rs b)
      · rw [jmTo_no hj]; exact this
      · rw [jmTo_yes hj, List.length_append]; omega
theorem jmTo_one {t : Cd} {rs : List Cd} {i n : Nat} (hi : i < n) (h : jmB t (cd rs i) = true) : (jmTo t rs i).length + 1 ≤ (jmTo t rs n).length := by
  have h1 := jmTo_mono t rs (i + 1) n hi
  rw [jmTo_yes h, List.length_append] at h1
  simpa using h1
/-- Three rows that are just met are three indices. -/
theorem jmTo_three {t : Cd} {rs : List Cd} {i k m n : Nat} (h1 : i < k) (h2 : k < m) (h3 : m < n) (hi : jmB t (cd rs i) = true) (hk : jmB t (cd rs k) = true) (hm : jmB t (cd rs m) = true) : 3 ≤ (jmTo t rs n).length := by
  have a := jmTo_one h1 hi
  have b := jmTo_one h2 hk
  have c := jmTo_one h3 hm
  omega

/-- A valid thrust fulfills all rows, which are valid. -/
def coH (rs : List Cd) (t : Cd) : Bool := allV rs.length (fun x => cdH t.1 t.2.1 t.2.2.1 t.2.2.2 (cd rs x).1 (cd rs x).2.1 (cd rs x).2.2.1 (cd rs x).2.2.2)
/-- Whether the solution of rows i, k and m is a corner that is not there yet; the list behind it. -/
def coB (rs l : List Cd) (i k m : Nat) : Bool := soB (cd rs i) (cd rs k) (cd rs m) && (!decide (soT (cd rs i) (cd rs k) (cd rs m) ∈ l) && coH rs (soT (cd rs i) (cd rs k) (cd rs m)))
def coStep (rs l : List Cd) (i k m : Nat) : List Cd := if coB rs l i k m then l ++ [soT (cd rs i) (cd rs k) (cd rs m)] else l
theorem coStep_yes {rs l : List Cd} {i k m : Nat} (h : coB rs l i k m = true) : coStep rs l i k m = l ++ [soT (cd rs i) (cd rs k) (cd rs m)] := by unfold coStep; rw [h]; rfl
theorem coStep_no {rs l : List Cd} {i k m : Nat} (h : coB rs l i k m = false) : coStep rs l i k m = l := by unfold coStep; rw [h]; rfl
/-- The corners by the third index below n, by the second, by the first. -/
def coM (rs : List Cd) (i k : Nat) (l : List Cd) : Nat → List Cd
  | 0 => l
  | m + 1 => if k < m then coStep rs (coM rs i k l m) i k m else coM rs i k l m
def coK (rs : List Cd) (i : Nat) (l : List Cd) : Nat → List Cd
  | 0 => l
  | k + 1 => if i < k then coM rs i k (coK rs i l k) rs.length else coK rs i l k
def coI (rs : List Cd) : Nat → List Cd
  | 0 => []
  | i + 1 => coK rs i (coI rs i) rs.length
theorem coM_low (rs : List Cd) (i k : Nat) (l : List Cd) (n : Nat) (h : n ≤ k + 1) : coM rs i k l n = l := by
  induction n with
  | zero => rfl
  | succ n ih => show (if _ then _ else _) = _; rw [if_neg (by omega)]; exact ih (by omega)
theorem coM_next (rs : List Cd) (i k : Nat) (l : List Cd) (m : Nat) (h : k < m) : coM rs i k l (m + 1) = coStep rs (coM rs i k l m) i k m := by show (if _ then _ else _) = _; rw [if_pos h]
theorem coK_low (rs : List Cd) (i : Nat) (l : List Cd) (n : Nat) (h : n ≤ i + 1) : coK rs i l n = l := by
  induction n with
  | zero => rfl
  | succ n ih => show (if _ then _ else _) = _; rw [if_neg (by omega)]; exact ih (by omega)
theorem coK_next (rs : List Cd) (i : Nat) (l : List Cd) (k : Nat) (h : i < k) : coK rs i l (k + 1) = coM rs i k (coK rs i l k) rs.length := by show (if _ then _ else _) = _; rw [if_pos h]
theorem coI_next (rs : List Cd) (i : Nat) : coI rs (i + 1) = coK rs i (coI rs i) rs.length := rfl
/-- What CornersOf answers. -/
def coOk (rs : List Cd) : Bool := allV rs.length (fun x => okR (cd rs x)) && inR rs.length 3 20
def coV (rs : List Cd) : List Cd := if coOk rs then coI rs rs.length else []
theorem coV_yes {rs : List Cd} (h : coOk rs = true) : coV rs = coI rs rs.length := by unfold coV; rw [h]; rfl
theorem coV_no {rs : List Cd} (h : coOk rs = false) : coV rs = [] := by unfold coV; rw [h]; rfl

/-- A corner: the solution of three rows, in their order, that fulfills all. -/
def Corner (rs : List Cd) (t : Cd) : Prop := ∃ i k m, i < k ∧ k < m ∧ m < rs.length ∧ soB (cd rs i) (cd rs k) (cd rs m) = true ∧ t = soT (cd rs i) (cd rs k) (cd rs m) ∧ coH rs t = true
theorem coStep_all {rs l : List Cd} {i k m : Nat} (h1 : i < k) (h2 : k < m) (h3 : m < rs.length) (hl : ∀ t ∈ l, Corner rs t) : ∀ t ∈ coStep rs l i k m, Corner rs t := by
  cases hc : coB rs l i k m
  · rw [coStep_no hc]; exact hl
  · rw [coStep_yes hc]
    intro t ht
    rcases List.mem_append.1 ht with ht | ht
    · exact hl t ht
    · simp only [List.mem_singleton] at ht
      unfold coB at hc
      simp only [Bool.and_eq_true] at hc
      exact ⟨i, k, m, h1, h2, h3, hc.1, ht, by rw [ht]; exact hc.2.2⟩
theorem coM_all {rs l : List Cd} {i k : Nat} (h1 : i < k) (hl : ∀ t ∈ l, Corner rs t) (n : Nat) (hn : n ≤ rs.length) : ∀ t ∈ coM rs i k l n, Corner rs t := by
  induction n with
  | zero => exact hl
  | succ n ih =>
    by_cases h : k < n
    · rw [coM_next _ _ _ _ _ h]; exact coStep_all h1 h (by omega) (ih (by omega))
    · rw [coM_low _ _ _ _ _ (by omega)]; exact hl
theorem coK_all {rs l : List Cd} {i : Nat} (hl : ∀ t ∈ l, Corner rs t) (n : Nat) (hn : n ≤ rs.length) : ∀ t ∈ coK rs i l n, Corner rs t := by
  induction n with
  | zero => exact hl
  | succ n ih =>
    by_cases h : i < n
    · rw [coK_next _ _ _ _ h]; exact coM_all h (ih (by omega)) _ (Nat.le_refl _)
    · rw [coK_low _ _ _ _ (by omega)]; exact hl
theorem coI_all (rs : List Cd) (n : Nat) (hn : n ≤ rs.length) : ∀ t ∈ coI rs n, Corner rs t := by
  induction n with
  | zero => intro t ht; cases ht
  | succ n ih => exact coK_all (ih (by omega)) _ (Nat.le_refl _)
theorem coV_all {rs : List Cd} : ∀ t ∈ coV rs, Corner rs t := by
  cases h : coOk rs
  · rw [coV_no h]; intro t ht; cases ht
  · rw [coV_yes h]; exact coI_all rs _ (Nat.le_refl _)
/-- A corner fulfills all rows, and just meets three of them. -/
theorem co_ful {rs : List Cd} (hok : coOk rs = true) {t : Cd} (h : Corner rs t) : fulAll t.1 t.2.1 t.2.2.1 t.2.2.2 rs = true ∧ 3 ≤ (jmTo t rs rs.length).length := by
  obtain ⟨i, k, m, h1, h2, h3, hs, rfl, hh⟩ := h
  obtain ⟨j1, j2, j3⟩ := so_just hs
  refine ⟨?_, jmTo_three h1 h2 h3 j1 j2 j3⟩
  unfold coOk at hok
  rw [Bool.and_eq_true] at hok
  have hn := inR_iff.1 hok.2
  have ht := soB_okT hs
  rw [fulAll_yes (inR_iff.2 (by omega)) ht, allV_iff]
  intro x hx
  have ha := allV_iff.1 hok.1 x hx
  have hb := allV_iff.1 hh x hx
  unfold cdFAt cdF
  rw [Bool.and_eq_true]
  exact ⟨ha, hb⟩

/-- The list grows by one a step at most. -/
theorem coStep_len (rs l : List Cd) (i k m : Nat) : (coStep rs l i k m).length ≤ l.length + 1 := by
  cases hc : coB rs l i k m
  · rw [coStep_no hc]; omega
  · rw [coStep_yes hc, List.length_append]; simp
theorem coM_len (rs l : List Cd) (i k n : Nat) : (coM rs i k l n).length ≤ l.length + n := by
  induction n with
  | zero => exact Nat.le_refl _
  | succ n ih =>
    show (if _ then _ else _ : List Cd).length ≤ _
    split
    · have := coStep_len rs (coM rs i k l n) i k n; omega
    · omega
theorem coK_len (rs l : List Cd) (i n : Nat) : (coK rs i l n).length ≤ l.length + n * rs.length := by
  induction n with
  | zero => simp [coK]
  | succ n ih =>
    show (if _ then _ else _ : List Cd).length ≤ _
    rw [Nat.succ_mul]
    split
    · have := coM_len rs (coK rs i l n) i n rs.length; omega
    · omega
theorem coI_len (rs : List Cd) (n : Nat) : (coI rs n).length ≤ n * (rs.length * rs.length) := by
  induction n with
  | zero => simp [coI]
  | succ n ih =>
    rw [coI_next, Nat.succ_mul]
    have := coK_len rs (coI rs n) n rs.length
    omega
theorem coV_len (rs : List Cd) : (coV rs).length ≤ 8000 := by
  cases h : coOk rs
  · rw [coV_no h]; simp
  · rw [coV_yes h]
    unfold coOk at h
    rw [Bool.and_eq_true] at h
    have hn := inR_iff.1 h.2
    have h1 : rs.length ≤ 20 := by omega
    have h2 : rs.length * rs.length ≤ 20 * 20 := Nat.mul_le_mul h1 h1
    have h3 : rs.length * (rs.length * rs.length) ≤ 20 * (20 * 20) := Nat.mul_le_mul h1 h2
    have := coI_len rs rs.length
    omega
/-- The determinant by its columns, as a sum over the first one. -/
def detC (a d g b e h c f i : Int) : Int := a * (e * i - h * f) + d * (h * c - b * i) + g * (b * f - e * c)
theorem detC_eq (a d g b e h c f i : Int) : detC a d g b e h c f i = det3 a b c d e f g h i := by unfold detC det3; grind
/-- The products of a determinant by its columns. -/
structure ColBd (a d g b e h c f i : Int) : Prop where
  ei : -100000000000 ≤ e * i ∧ e * i ≤ 100000000000
  hf : -100000000000 ≤ h * f ∧ h * f ≤ 100000000000
  hc : -100000000000 ≤ h * c ∧ h * c ≤ 100000000000
  bi : -100000000000 ≤ b * i ∧ b * i ≤ 100000000000
  bf : -100000000000 ≤ b * f ∧ b * f ≤ 100000000000
  ec : -100000000000 ≤ e * c ∧ e * c ≤ 100000000000
  a3 : -1000000000000000 ≤ a * (e * i - h * f) ∧ a * (e * i - h * f) ≤ 1000000000000000
  d3 : -1000000000000000 ≤ d * (h * c - b * i) ∧ d * (h * c - b * i) ≤ 1000000000000000
  g3 : -1000000000000000 ≤ g * (b * f - e * c) ∧ g * (b * f - e * c) ≤ 1000000000000000
theorem colP_bd {x y : Int} {a b : Nat} (hx : -(a : Int) ≤ x ∧ x ≤ a) (hy : -(b : Int) ≤ y ∧ y ≤ b) (hl : a * b ≤ 100000000000) : -100000000000 ≤ x * y ∧ x * y ≤ 100000000000 := by
  have := mulN_bd hx hy hl
  omega
theorem colD_bd {x y z : Int} {a b : Nat} (hx : -(a : Int) ≤ x ∧ x ≤ a) (hy : -(b : Int) ≤ y ∧ y ≤ b) (hz : -(b : Int) ≤ z ∧ z ≤ b) (hl : a * (2 * b) ≤ 1000000000000000) : -1000000000000000 ≤ x * (y - z) ∧ x * (y - z) ≤ 1000000000000000 :=
  mulI_bd hx (b := 2 * b) (by omega) hl
theorem col_bd {A B C : Nat} {a d g b e h c f i : Int} (ha : -(A : Int) ≤ a ∧ a ≤ A) (hd : -(A : Int) ≤ d ∧ d ≤ A) (hg : -(A : Int) ≤ g ∧ g ≤ A) (hb : -(B : Int) ≤ b ∧ b ≤ B) (he : -(B : Int) ≤ e ∧ e ≤ B) (hh : -(B : Int) ≤ h ∧ h ≤ B)
    (hc : -(C : Int) ≤ c ∧ c ≤ C) (hf : -(C : Int) ≤ f ∧ f ≤ C) (hi : -(C : Int) ≤ i ∧ i ≤ C) (h1 : B * C ≤ 100000000000) (h2 : A * (2 * (B * C)) ≤ 1000000000000000) : ColBd a d g b e h c f i := by
  have e1 := mulN_bd he hi (Nat.le_refl _)
  have e2 := mulN_bd hh hf (Nat.le_refl _)
  have e3 := mulN_bd hh hc (Nat.le_refl _)
  have e4 := mulN_bd hb hi (Nat.le_refl _)
  have e5 := mulN_bd hb hf (Nat.le_refl _)
  have e6 := mulN_bd he hc (Nat.le_refl _)
  exact ⟨colP_bd he hi h1, colP_bd hh hf h1, colP_bd hh hc h1, colP_bd hb hi h1, colP_bd hb hf h1, colP_bd he hc h1, colD_bd ha e1 e2 h2, colD_bd hd e3 e4 h2, colD_bd hg e5 e6 h2⟩
theorem col_zero : ColBd 0 0 0 0 0 0 0 0 0 := ⟨by decide, by decide, by decide, by decide, by decide, by decide, by decide, by decide, by decide⟩
/-- A row's numbers; zeros where one of three rows is not valid. -/
def lnR (ok : Bool) (p : Cd) : Cd := if ok then p else (0, 0, 0, 0)
theorem lnR_no (p : Cd) : lnR false p = (0, 0, 0, 0) := rfl
theorem lnR_yes (p : Cd) : lnR true p = p := rfl
def ok3 (p q r : Cd) : Bool := okR p && okR q && okR r
theorem ok3_iff {p q r : Cd} : ok3 p q r = true ↔ okR p = true ∧ okR q = true ∧ okR r = true := by unfold ok3; simp only [Bool.and_eq_true, and_assoc]
theorem col_R {p q r : Cd} (hp : okR p = true) (hq : okR q = true) (hr : okR r = true) : ColBd p.1 q.1 r.1 p.2.1 q.2.1 r.2.1 p.2.2.1 q.2.2.1 r.2.2.1 := by
  have a := okR_iff.1 hp
  have b := okR_iff.1 hq
  have c := okR_iff.1 hr
  exact col_bd (A := 100) (B := 100) (C := 1) (by omega) (by omega) (by omega) (by omega) (by omega) (by omega) (by omega) (by omega) (by omega) (by omega) (by omega)
theorem col_H {p q r : Cd} (hp : okR p = true) (hq : okR q = true) (hr : okR r = true) : ColBd p.2.2.2 q.2.2.2 r.2.2.2 p.2.1 q.2.1 r.2.1 p.2.2.1 q.2.2.1 r.2.2.1 := by
  have a := okR_iff.1 hp
  have b := okR_iff.1 hq
  have c := okR_iff.1 hr
  exact col_bd (A := 1000000000) (B := 100) (C := 1) (by omega) (by omega) (by omega) (by omega) (by omega) (by omega) (by omega) (by omega) (by omega) (by omega) (by omega)
theorem col_U {p q r : Cd} (hp : okR p = true) (hq : okR q = true) (hr : okR r = true) : ColBd p.1 q.1 r.1 p.2.2.2 q.2.2.2 r.2.2.2 p.2.2.1 q.2.2.1 r.2.2.1 := by
  have a := okR_iff.1 hp
  have b := okR_iff.1 hq
  have c := okR_iff.1 hr
  exact col_bd (A := 100) (B := 1000000000) (C := 1) (by omega) (by omega) (by omega) (by omega) (by omega) (by omega) (by omega) (by omega) (by omega) (by omega) (by omega)
theorem col_M {p q r : Cd} (hp : okR p = true) (hq : okR q = true) (hr : okR r = true) : ColBd p.1 q.1 r.1 p.2.1 q.2.1 r.2.1 p.2.2.2 q.2.2.2 r.2.2.2 := by
  have a := okR_iff.1 hp
  have b := okR_iff.1 hq
  have c := okR_iff.1 hr
  exact col_bd (A := 100) (B := 100) (C := 1000000000) (by omega) (by omega) (by omega) (by omega) (by omega) (by omega) (by omega) (by omega) (by omega) (by omega) (by omega)
/-- The bounds hold of the lines as linesOf answers them. -/
theorem ln_bd {ok : Bool} {p q r : Cd} (h : ok = true → okR p = true ∧ okR q = true ∧ okR r = true) :
    ColBd (lnR ok p).1 (lnR ok q).1 (lnR ok r).1 (lnR ok p).2.1 (lnR ok q).2.1 (lnR ok r).2.1 (lnR ok p).2.2.1 (lnR ok q).2.2.1 (lnR ok r).2.2.1 ∧
    ColBd (lnR ok p).2.2.2 (lnR ok q).2.2.2 (lnR ok r).2.2.2 (lnR ok p).2.1 (lnR ok q).2.1 (lnR ok r).2.1 (lnR ok p).2.2.1 (lnR ok q).2.2.1 (lnR ok r).2.2.1 ∧
    ColBd (lnR ok p).1 (lnR ok q).1 (lnR ok r).1 (lnR ok p).2.2.2 (lnR ok q).2.2.2 (lnR ok r).2.2.2 (lnR ok p).2.2.1 (lnR ok q).2.2.1 (lnR ok r).2.2.1 ∧
    ColBd (lnR ok p).1 (lnR ok q).1 (lnR ok r).1 (lnR ok p).2.1 (lnR ok q).2.1 (lnR ok r).2.1 (lnR ok p).2.2.2 (lnR ok q).2.2.2 (lnR ok r).2.2.2 := by
  cases ok with
  | false => exact ⟨col_zero, col_zero, col_zero, col_zero⟩
  | true =>
    obtain ⟨hp, hq, hr⟩ := h rfl
    exact ⟨col_R hp hq hr, col_H hp hq hr, col_U hp hq hr, col_M hp hq hr⟩
/-- What the program's determinants come to. -/
theorem ln_det (p q r : Cd) : detC (lnR (ok3 p q r) p).1 (lnR (ok3 p q r) q).1 (lnR (ok3 p q r) r).1 (lnR (ok3 p q r) p).2.1 (lnR (ok3 p q r) q).2.1 (lnR (ok3 p q r) r).2.1 (lnR (ok3 p q r) p).2.2.1 (lnR (ok3 p q r) q).2.2.1 (lnR (ok3 p q r) r).2.2.1 = dtV p q r := by
  rw [detC_eq]
  cases h : ok3 p q r
  · rw [show dtV p q r = 0 by unfold dtV; rw [show (okR p && okR q && okR r) = false from h]; rfl]; rfl
  · rw [dtV_yes (ok3_iff.1 h).1 (ok3_iff.1 h).2.1 (ok3_iff.1 h).2.2]; rfl
end Go.Proofs.YtidmhpeaehmmhaaDoor
