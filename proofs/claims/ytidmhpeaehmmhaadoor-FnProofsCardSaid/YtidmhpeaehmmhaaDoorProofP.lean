/- Proofs of collapse, plainly: which are valid, the factors by their rows, the sums of the rows, when they show that no thrust fulfills all rows; multiples. -/
import Derived.Test.YtidmhpeaehmmhaaDoorCondA
import Derived.Test.YtidmhpeaehmmhaaDoorIntL
import Derived.Test.YtidmhpeaehmmhaaDoorWeightP
namespace Go.Proofs.YtidmhpeaehmmhaaDoor
set_option maxRecDepth 100000
open Go.RowKit

/-- The number ahead of the i-th; -1 ahead of the first. -/
def ahd (l : List Int) (i : Nat) : Int := if i = 0 then -1 else l.getD (i - 1) 0
def ascAt (l : List Int) (n : Nat) (i : Nat) : Bool := decide (ahd l i < l.getD i 0) && decide (l.getD i 0 < n)
def ascV (l : List Int) (n : Nat) : Bool := allV l.length (ascAt l n)
def facAt (fs : List Int) (i : Nat) : Bool := inR (fs.getD i 0) 1 1000000
/-- What the model looks at, index by index. -/
def prAt (ps fs : List Int) (n : Nat) (i : Nat) : Bool := inR (ps.getD i 0) 0 ((n : Int) - 1) && ((decide (i = 0) || decide (ps.getD (i - 1) 0 < ps.getD i 0)) && facAt fs i)
def prNum (rs : List Cd) (ps fs : List Int) : Bool := decide (rs.length ≤ 40) && (inR ps.length 1 4 && decide (fs.length = ps.length))
/-- What ProofOk answers. -/
def prOk (rs : List Cd) (ps fs : List Int) : Bool := prNum rs ps fs && (cdsOk rs && (ascV ps rs.length && allV ps.length (facAt fs)))

theorem ahd_zero (l : List Int) : ahd l 0 = -1 := rfl
theorem ahd_succ (l : List Int) (k : Nat) : ahd l (k + 1) = l.getD k 0 := by simp [ahd]
theorem ascAt_iff {l : List Int} {n i : Nat} : ascAt l n i = true ↔ ahd l i < l.getD i 0 ∧ l.getD i 0 < n := by unfold ascAt; simp
theorem facAt_iff {fs : List Int} {i : Nat} : facAt fs i = true ↔ 1 ≤ fs.getD i 0 ∧ fs.getD i 0 ≤ 1000000 := by unfold facAt; exact inR_iff
theorem asc_ge {l : List Int} {n : Nat} (h : ascV l n = true) (i : Nat) (hi : i < l.length) : (i : Int) ≤ l.getD i 0 ∧ l.getD i 0 < n := by
  have ha := allV_iff.1 h
  induction i with
  | zero => have := ascAt_iff.1 (ha 0 hi); rw [ahd_zero] at this; omega
  | succ k ih => have := ascAt_iff.1 (ha (k + 1) hi); rw [ahd_succ] at this; have := ih (by omega); omega
theorem asc_next {l : List Int} {n : Nat} (h : ascV l n = true) (k : Nat) (hk : k + 1 < l.length) : l.getD k 0 < l.getD (k + 1) 0 := by
  have := ascAt_iff.1 (allV_iff.1 h (k + 1) hk); rw [ahd_succ] at this; exact this.1
theorem prAt_all {ps fs : List Int} {n : Nat} : allV ps.length (prAt ps fs n) = (ascV ps n && allV ps.length (facAt fs)) := by
  rw [Bool.eq_iff_iff, Bool.and_eq_true]
  constructor
  · intro h
    have ha := allV_iff.1 h
    refine ⟨allV_iff.2 fun i hi => ?_, allV_iff.2 fun i hi => ?_⟩
    · have := ha i hi
      unfold prAt at this
      simp only [Bool.and_eq_true, Bool.or_eq_true, decide_eq_true_iff, inR_iff] at this
      obtain ⟨h1, h2, -⟩ := this
      rw [ascAt_iff]
      cases i with
      | zero => rw [ahd_zero]; omega
      | succ k =>
        rw [ahd_succ]
        have h3 : ps.getD k 0 < ps.getD (k + 1) 0 := h2.resolve_left (by omega)
        omega
    · have := ha i hi
      unfold prAt at this
      simp only [Bool.and_eq_true] at this
      exact this.2.2
  · rintro ⟨h1, h2⟩
    refine allV_iff.2 fun i hi => ?_
    have hg := asc_ge h1 i hi
    have hf := allV_iff.1 h2 i hi
    unfold prAt
    simp only [Bool.and_eq_true, Bool.or_eq_true, decide_eq_true_iff, inR_iff]
    refine ⟨by omega, ?_, hf⟩
    cases i with
    | zero => exact .inl rfl
    | succ k => exact .inr (asc_next h1 k hi)
theorem prOk_model (rs : List Cd) (ps fs : List Int) : prOk rs ps fs = (prNum rs ps fs && (cdsOk rs && allV ps.length (prAt ps fs rs.length))) := by unfold prOk; rw [prAt_all]
structure PrOk (rs : List Cd) (ps fs : List Int) : Prop where
  n : rs.length ≤ 40
  p : 1 ≤ ps.length ∧ ps.length ≤ 4
  f : fs.length = ps.length
  ok : cdsOk rs = true
  asc : ascV ps rs.length = true
  fac : ∀ i, i < ps.length → 1 ≤ fs.getD i 0 ∧ fs.getD i 0 ≤ 1000000
theorem prNum_iff {rs : List Cd} {ps fs : List Int} : prNum rs ps fs = true ↔ rs.length ≤ 40 ∧ (1 ≤ ps.length ∧ ps.length ≤ 4) ∧ fs.length = ps.length := by
  unfold prNum; simp only [Bool.and_eq_true, decide_eq_true_iff, inR_iff]; omega
theorem prOk_iff {rs : List Cd} {ps fs : List Int} : prOk rs ps fs = true ↔ PrOk rs ps fs := by
  unfold prOk
  rw [Bool.and_eq_true, Bool.and_eq_true, Bool.and_eq_true, prNum_iff]
  constructor
  · rintro ⟨⟨a, b, c⟩, d, e, f⟩; exact ⟨a, b, c, d, e, fun i hi => facAt_iff.1 (allV_iff.1 f i hi)⟩
  · intro h; exact ⟨⟨h.n, h.p, h.f⟩, h.ok, h.asc, allV_iff.2 fun i hi => facAt_iff.2 (h.fac i hi)⟩

/-- The factor of a row: what the map that holds the first k factors says. -/
def lkTo (ps fs : List Int) : Nat → Int → Int
  | 0, _ => 0
  | k + 1, i => if ps.getD k 0 = i then fs.getD k 0 else lkTo ps fs k i
theorem lkTo_far {ps fs : List Int} : ∀ (k : Nat), k ≤ ps.length → ∀ i : Int, (∀ j, j < k → ps.getD j 0 ≠ i) → lkTo ps fs k i = 0 := by
  intro k
  induction k with
  | zero => intros; rfl
  | succ k ih =>
    intro hk i hi
    unfold lkTo
    rw [if_neg (hi k (by omega))]
    exact ih (by omega) i fun j hj => hi j (by omega)
theorem asc_lt {ps : List Int} {n : Nat} (h : ascV ps n = true) (k : Nat) (hk : k < ps.length) : ∀ j, j < k → ps.getD j 0 < ps.getD k 0 := by
  induction k with
  | zero => intro j hj; omega
  | succ k ih =>
    intro j hj
    have h1 := asc_next h k hk
    by_cases hjk : j = k
    · subst hjk; exact h1
    · have := ih (by omega) j (by omega); omega
theorem lkTo_own {ps fs : List Int} {n : Nat} (h : ascV ps n = true) (k : Nat) (hk : k < ps.length) : lkTo ps fs k (ps.getD k 0) = 0 :=
  lkTo_far k (by omega) _ fun j hj => by have := asc_lt h k hk j hj; omega
/-- A sum of one. -/
theorem sum_one_at (v : Int) (x : Nat → Int) (t : Int) (ht : 0 ≤ t) (m : Nat) : sumTo (fun i => (if t = (i : Int) then v else 0) * x i) m = if t < m then v * x t.toNat else 0 := by
  induction m with
  | zero => show (0 : Int) = _; rw [if_neg (by omega)]
  | succ m ih =>
    show sumTo _ m + _ = _
    rw [ih]
    by_cases h1 : t = (m : Int)
    · rw [if_neg (by omega), if_pos (by omega)]
      subst h1
      simp
    · by_cases h2 : t < (m : Int)
      · rw [if_pos h2, if_pos (by omega)]; simp [h1]
      · rw [if_neg h2, if_neg (by omega)]; simp [h1]
theorem lk_step {ps fs : List Int} {n : Nat} (h : ascV ps n = true) (k : Nat) (hk : k < ps.length) (i : Int) : lkTo ps fs (k + 1) i = lkTo ps fs k i + (if ps.getD k 0 = i then fs.getD k 0 else 0) := by
  show (if _ then _ else _) = _
  by_cases he : ps.getD k 0 = i
  · rw [if_pos he, if_pos he, ← he, lkTo_own h k hk]; omega
  · rw [if_neg he, if_neg he]; omega
theorem sum_by_rows {ps fs : List Int} {n : Nat} (h : ascV ps n = true) (x : Nat → Int) (k : Nat) (hk : k ≤ ps.length) :
    sumTo (fun i => lkTo ps fs k i * x i) n = sumTo (fun j => fs.getD j 0 * x (ps.getD j 0).toNat) k := by
  induction k with
  | zero =>
    show sumTo (fun i => 0 * x i) n = 0
    rw [sumTo_mul]; simp
  | succ k ih =>
    have hge := asc_ge h k (by omega)
    rw [sumTo_congr (g := fun i => lkTo ps fs k i * x i + (if ps.getD k 0 = (i : Int) then fs.getD k 0 else 0) * x i) n fun i _ => by rw [lk_step h k (by omega), Int.add_mul]]
    rw [sumTo_add, ih (by omega), sum_one_at _ _ _ (by omega), if_pos (by omega)]
    rfl
theorem mulP_bd {x y : Int} (A B : Nat) (hx : -(A : Int) ≤ x ∧ x ≤ A) (hy : -(B : Int) ≤ y ∧ y ≤ B) : -((A * B : Nat) : Int) ≤ x * y ∧ x * y ≤ ((A * B : Nat) : Int) := by
  have h1 : (x * y).natAbs ≤ A * B := by rw [Int.natAbs_mul]; exact Nat.mul_le_mul (by omega) (by omega)
  omega
theorem lk_bd {ps fs : List Int} (hf : ∀ i, i < ps.length → 1 ≤ fs.getD i 0 ∧ fs.getD i 0 ≤ 1000000) (k : Nat) (hk : k ≤ ps.length) (i : Int) : 0 ≤ lkTo ps fs k i ∧ lkTo ps fs k i ≤ 1000000 := by
  induction k with
  | zero => show 0 ≤ (0 : Int) ∧ (0 : Int) ≤ _; omega
  | succ k ih =>
    unfold lkTo
    split
    · have := hf k (by omega); omega
    · exact ih (by omega)
/-- The sums on the way are small. -/
theorem part_bd {ps fs : List Int} {n : Nat} (h : ascV ps n = true) (hf : ∀ i, i < ps.length → 1 ≤ fs.getD i 0 ∧ fs.getD i 0 ≤ 1000000) (x : Nat → Int) (hx : ∀ i, i < n → -1000000000 ≤ x i ∧ x i ≤ 1000000000) (k : Nat) (hk : k ≤ ps.length) (m : Nat) :
    -(1000000000000000 * (k : Int)) ≤ sumTo (fun i => lkTo ps fs k i * x i) m ∧ sumTo (fun i => lkTo ps fs k i * x i) m ≤ 1000000000000000 * (k : Int) := by
  induction k with
  | zero =>
    have : sumTo (fun i => lkTo ps fs 0 i * x i) m = 0 := by show sumTo (fun i => 0 * x i) m = 0; rw [sumTo_mul]; simp
    omega
  | succ k ih =>
    have hge := asc_ge h k (by omega)
    have hi := ih (by omega)
    rw [sumTo_congr (g := fun i => lkTo ps fs k i * x i + (if ps.getD k 0 = (i : Int) then fs.getD k 0 else 0) * x i) m fun i _ => by rw [lk_step h k (by omega), Int.add_mul]]
    rw [sumTo_add, sum_one_at _ _ _ (by omega)]
    split
    · have := mulP_bd (x := fs.getD k 0) (y := x (ps.getD k 0).toNat) 1000000 1000000000 (by have := hf k (by omega); omega) (by have := hx (ps.getD k 0).toNat (by omega); omega)
      omega
    · omega

/-- The i-th number of a condition. -/
def col (k : Nat) (r : Cd) : Int := match k with | 0 => r.1 | 1 => r.2.1 | 2 => r.2.2.1 | _ => r.2.2.2
def smTo (rs : List Cd) (ps fs : List Int) (c k : Nat) : Int := sumTo (fun j => fs.getD j 0 * col c (cd rs (ps.getD j 0).toNat)) k
/-- What SumOfRows answers, number by number. -/
def smV (rs : List Cd) (ps fs : List Int) (c : Nat) : Int := if prOk rs ps fs then smTo rs ps fs c ps.length else 0
theorem smV_no {rs : List Cd} {ps fs : List Int} {c : Nat} (h : prOk rs ps fs = false) : smV rs ps fs c = 0 := by unfold smV; rw [h]; rfl
theorem smV_yes {rs : List Cd} {ps fs : List Int} {c : Nat} (h : prOk rs ps fs = true) : smV rs ps fs c = smTo rs ps fs c ps.length := by unfold smV; rw [h]; rfl
theorem colp_bd {rs : List Cd} (h : cdsOk rs = true) (c i : Nat) (hi : i < rs.length) : -1000000000 ≤ col c (cd rs i) ∧ col c (cd rs i) ≤ 1000000000 := by
  obtain ⟨h1, h2, h3, h4⟩ := cdOk_iff.1 (allV_iff.1 h i hi)
  unfold col
  split <;> omega
/-- The sums as the program makes them: row by row, with the factor that the map says. -/
def rwTo (rs : List Cd) (ps fs : List Int) (c m : Nat) : Int := sumTo (fun i => lkTo ps fs ps.length i * col c (cd rs i)) m
theorem rwTo_end {rs : List Cd} {ps fs : List Int} (h : PrOk rs ps fs) (c : Nat) : rwTo rs ps fs c rs.length = smV rs ps fs c := by
  rw [smV_yes (prOk_iff.2 h)]
  exact sum_by_rows h.asc (fun i => col c (cd rs i)) _ (Nat.le_refl _)
theorem rwTo_step (rs : List Cd) (ps fs : List Int) (c m : Nat) : rwTo rs ps fs c (m + 1) = rwTo rs ps fs c m + lkTo ps fs ps.length m * col c (cd rs m) := rfl
theorem rwTo_bd {rs : List Cd} {ps fs : List Int} (h : PrOk rs ps fs) (c m : Nat) : -4000000000000000 ≤ rwTo rs ps fs c m ∧ rwTo rs ps fs c m ≤ 4000000000000000 := by
  have := part_bd h.asc h.fac (fun i => col c (cd rs i)) (fun i hi => colp_bd h.ok c i hi) ps.length (Nat.le_refl _) m
  have hp := h.p
  unfold rwTo
  omega
theorem rw_mul_bd {rs : List Cd} {ps fs : List Int} (h : PrOk rs ps fs) (c m : Nat) (hm : m < rs.length) : -1000000000000000 ≤ lkTo ps fs ps.length m * col c (cd rs m) ∧ lkTo ps fs ps.length m * col c (cd rs m) ≤ 1000000000000000 := by
  have h1 := lk_bd h.fac ps.length (Nat.le_refl _) m
  have := mulP_bd (x := lkTo ps fs ps.length m) (y := col c (cd rs m)) 1000000 1000000000 (by omega) (by have := colp_bd h.ok c m hm; omega)
  omega
/-- .. and as the model makes them. -/
theorem smTo_step (rs : List Cd) (ps fs : List Int) (c k : Nat) : smTo rs ps fs c (k + 1) = smTo rs ps fs c k + fs.getD k 0 * col c (cd rs (ps.getD k 0).toNat) := rfl
theorem sm_mul_bd {rs : List Cd} {ps fs : List Int} (h : PrOk rs ps fs) (c k : Nat) (hk : k < ps.length) : -1000000000000000 ≤ fs.getD k 0 * col c (cd rs (ps.getD k 0).toNat) ∧ fs.getD k 0 * col c (cd rs (ps.getD k 0).toNat) ≤ 1000000000000000 := by
  have hge := asc_ge h.asc k hk
  have := mulP_bd (x := fs.getD k 0) (y := col c (cd rs (ps.getD k 0).toNat)) 1000000 1000000000 (by have := h.fac k hk; omega) (by have := colp_bd h.ok c (ps.getD k 0).toNat (by omega); omega)
  omega
theorem smTo_bd {rs : List Cd} {ps fs : List Int} (h : PrOk rs ps fs) (c k : Nat) (hk : k ≤ ps.length) : -(1000000000000000 * (k : Int)) ≤ smTo rs ps fs c k ∧ smTo rs ps fs c k ≤ 1000000000000000 * (k : Int) := by
  induction k with
  | zero => show _ ≤ (0 : Int) ∧ (0 : Int) ≤ _; omega
  | succ k ih =>
    have := ih (by omega)
    have := sm_mul_bd h c k hk
    rw [smTo_step]
    omega

/-- What IsProof answers. -/
def isPr (rs : List Cd) (ps fs : List Int) : Bool := decide (smV rs ps fs 0 = 0) && (decide (smV rs ps fs 1 = 0) && (decide (smV rs ps fs 2 = 0) && decide (smV rs ps fs 3 < 0)))
theorem isPr_iff {rs : List Cd} {ps fs : List Int} : isPr rs ps fs = true ↔ smV rs ps fs 0 = 0 ∧ smV rs ps fs 1 = 0 ∧ smV rs ps fs 2 = 0 ∧ smV rs ps fs 3 < 0 := by unfold isPr; simp
theorem isPr_no {rs : List Cd} {ps fs : List Int} (h : prOk rs ps fs = false) : isPr rs ps fs = false := by
  unfold isPr; rw [smV_no h, smV_no h, smV_no h, smV_no h]; rfl
theorem isPr_ok {rs : List Cd} {ps fs : List Int} (h : isPr rs ps fs = true) : prOk rs ps fs = true := by
  cases hp : prOk rs ps fs
  · rw [isPr_no hp] at h; cases h
  · rfl

/-- A proof with n times its factors; whether ScaleProof answers one. -/
def tms (n : Int) (fs : List Int) : List Int := fs.map (· * n)
theorem tms_length (n : Int) (fs : List Int) : (tms n fs).length = fs.length := by simp [tms]
theorem tms_at (n : Int) (fs : List Int) (i : Nat) : (tms n fs).getD i 0 = fs.getD i 0 * n := by
  unfold tms; rw [List.getD_eq_getElem?_getD, List.getElem?_map, List.getD_eq_getElem?_getD]; cases fs[i]? <;> simp
def scOk (rs : List Cd) (ps fs : List Int) (n : Int) : Bool := inR n 1 1000 && (prOk rs ps fs && prOk rs ps (tms n fs))
def scRows (rs : List Cd) (ps fs : List Int) (n : Int) : List Int := if scOk rs ps fs n then ps else []
def scFacs (rs : List Cd) (ps fs : List Int) (n : Int) : List Int := if scOk rs ps fs n then tms n fs else []
theorem smTo_tms (rs : List Cd) (ps fs : List Int) (n : Int) (c k : Nat) : smTo rs ps (tms n fs) c k = n * smTo rs ps fs c k := by
  unfold smTo
  rw [← sumTo_mul]
  refine sumTo_congr k fun i _ => ?_
  rw [tms_at]
  simp only [Int.mul_assoc, Int.mul_comm]

/-- Where there is a proof, every valid thrust breaks a row. -/
theorem proof_breaks {rs : List Cd} {ps fs : List Int} (hp : isPr rs ps fs = true) {h v m d : Int} (ht : okT h v m d = true) : 1 ≤ brkV h v m d rs := by
  have hok := prOk_iff.1 (isPr_ok hp)
  obtain ⟨h0, h1, h2, h3⟩ := isPr_iff.1 hp
  have hall := isPr_ok hp
  rw [smV_yes hall] at h0 h1 h2 h3
  rw [brkV_yes ht]
  by_cases hb : 1 ≤ brkTo h v m d rs rs.length
  · omega
  exfalso
  have hz : ∀ k, k ≤ rs.length → brkTo h v m d rs k = 0 → ∀ i, i < k → brkAt h v m d rs i = false := by
    intro k
    induction k with
    | zero => intro _ _ i hi; omega
    | succ k ih =>
      intro hk hz i hi
      cases hb : brkAt h v m d rs k
      · rw [brkTo_no hb] at hz
        by_cases hik : i = k
        · subst hik; exact hb
        · exact ih (by omega) hz i (by omega)
      · rw [brkTo_yes hb] at hz; omega
  have hful : ∀ i, i < rs.length → cdX h v m d (cd rs i).1 (cd rs i).2.1 (cd rs i).2.2.1 (cd rs i).2.2.2 ≤ 0 := by
    intro i hi
    have := hz rs.length (Nat.le_refl _) (by omega) i hi
    unfold brkAt at this
    rw [show cdOk (cd rs i).1 (cd rs i).2.1 (cd rs i).2.2.1 (cd rs i).2.2.2 = true from allV_iff.1 hok.ok i hi, Bool.true_and, Bool.not_eq_false', cdH_X, decide_eq_true_iff] at this
    exact this
  have hsum : ∀ k, k ≤ ps.length → smTo rs ps fs 0 k * h + smTo rs ps fs 1 k * v + smTo rs ps fs 2 k * m - smTo rs ps fs 3 k * d ≤ 0 := by
    intro k
    induction k with
    | zero => intro _; show 0 * h + 0 * v + 0 * m - 0 * d ≤ 0; omega
    | succ k ih =>
      intro hk
      have h1 := ih (by omega)
      have hge := asc_ge hok.asc k (by omega)
      have h2 := hful (ps.getD k 0).toNat (by omega)
      have h3 := hok.fac k (by omega)
      have h4 : fs.getD k 0 * cdX h v m d (cd rs (ps.getD k 0).toNat).1 (cd rs (ps.getD k 0).toNat).2.1 (cd rs (ps.getD k 0).toNat).2.2.1 (cd rs (ps.getD k 0).toNat).2.2.2 ≤ 0 := Int.mul_nonpos_of_nonneg_of_nonpos (by omega) h2
      rw [smTo_step, smTo_step, smTo_step, smTo_step]
      have h5 : (smTo rs ps fs 0 k + fs.getD k 0 * col 0 (cd rs (ps.getD k 0).toNat)) * h + (smTo rs ps fs 1 k + fs.getD k 0 * col 1 (cd rs (ps.getD k 0).toNat)) * v + (smTo rs ps fs 2 k + fs.getD k 0 * col 2 (cd rs (ps.getD k 0).toNat)) * m - (smTo rs ps fs 3 k + fs.getD k 0 * col 3 (cd rs (ps.getD k 0).toNat)) * d
          = (smTo rs ps fs 0 k * h + smTo rs ps fs 1 k * v + smTo rs ps fs 2 k * m - smTo rs ps fs 3 k * d) + fs.getD k 0 * cdX h v m d (cd rs (ps.getD k 0).toNat).1 (cd rs (ps.getD k 0).toNat).2.1 (cd rs (ps.getD k 0).toNat).2.2.1 (cd rs (ps.getD k 0).toNat).2.2.2 := by
        unfold cdX col
        grind
      omega
  have hend := hsum ps.length (Nat.le_refl _)
  rw [h0, h1, h2] at hend
  have hd := (okT_iff.1 ht)
  have hneg : smTo rs ps fs 3 ps.length * d < 0 := Int.mul_neg_of_neg_of_pos h3 (by omega)
  omega
end Go.Proofs.YtidmhpeaehmmhaaDoor
