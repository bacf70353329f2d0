/- The central thrust, plainly: the corners with what is halfway between two of them; the one that just meets the fewest rows. -/
import Derived.Test.YtbmlcfdilopmgaaPushQ
import Derived.Test.YtbmlcfdilopmgaaGCorner
namespace Go.Proofs.Ytbmlcfdilopmgaa
set_option maxRecDepth 100000

/-- Whether MixThrusts answers a thrust; the thrust. -/
def hwB (p q : Cd) : Bool := mxB p.1 p.2.1 p.2.2.1 p.2.2.2 q.1 q.2.1 q.2.2.1 q.2.2.2
def hwH (p q : Cd) : Int := mxH p.1 p.2.2.2 q.1 q.2.2.2
def hwU (p q : Cd) : Int := mxH p.2.1 p.2.2.2 q.2.1 q.2.2.2
def hwM (p q : Cd) : Int := mxH p.2.2.1 p.2.2.2 q.2.2.1 q.2.2.2
def hwD (p q : Cd) : Int := mxD p.2.2.2 q.2.2.2
def hwT (p q : Cd) : Cd := (mkN (hwH p q) (hwH p q) (hwU p q) (hwM p q) (hwD p q), mkN (hwU p q) (hwH p q) (hwU p q) (hwM p q) (hwD p q), mkN (hwM p q) (hwH p q) (hwU p q) (hwM p q) (hwD p q), mkN (hwD p q) (hwH p q) (hwU p q) (hwM p q) (hwD p q))
/-- The list with the mixtures of k with those below i, of those below k with all behind them. -/
def hwStep (l acc : List Cd) (k i : Nat) : List Cd := if hwB (cd l k) (cd l i) then acc ++ [hwT (cd l k) (cd l i)] else acc
theorem hwStep_yes {l acc : List Cd} {k i : Nat} (h : hwB (cd l k) (cd l i) = true) : hwStep l acc k i = acc ++ [hwT (cd l k) (cd l i)] := by unfold hwStep; rw [h]; rfl
theorem hwStep_no {l acc : List Cd} {k i : Nat} (h : hwB (cd l k) (cd l i) = false) : hwStep l acc k i = acc := by unfold hwStep; rw [h]; rfl
def hwI (l : List Cd) (k : Nat) (acc : List Cd) : Nat → List Cd
  | 0 => acc
  | i + 1 => if k < i then hwStep l (hwI l k acc i) k i else hwI l k acc i
def hwK (l : List Cd) : Nat → List Cd
  | 0 => l
  | k + 1 => hwI l k (hwK l k) l.length
theorem hwI_low (l : List Cd) (k : Nat) (acc : List Cd) (n : Nat) (h : n ≤ k + 1) : hwI l k acc n = acc := by
  induction n with
  | zero => rfl
  | succ n ih => show (if _ then _ else _) = _; rw [if_neg (by omega)]; exact ih (by omega)
theorem hwI_next (l : List Cd) (k : Nat) (acc : List Cd) (i : Nat) (h : k < i) : hwI l k acc (i + 1) = hwStep l (hwI l k acc i) k i := by show (if _ then _ else _) = _; rw [if_pos h]
theorem hwK_next (l : List Cd) (k : Nat) : hwK l (k + 1) = hwI l k (hwK l k) l.length := rfl
/-- What the corners have and mixtures keep, all candidates have. -/
theorem hwI_all {P : Cd → Prop} {l : List Cd} (hl : ∀ i, i < l.length → P (cd l i)) (hm : ∀ p q, P p → P q → hwB p q = true → P (hwT p q)) {k : Nat} {acc : List Cd} (ha : ∀ t ∈ acc, P t) (n : Nat) (hn : n ≤ l.length) : ∀ t ∈ hwI l k acc n, P t := by
  induction n with
  | zero => exact ha
  | succ n ih =>
    have ih := ih (by omega)
    by_cases h : k < n
    · rw [hwI_next _ _ _ _ h]
      cases hb : hwB (cd l k) (cd l n)
      · rw [hwStep_no hb]; exact ih
      · rw [hwStep_yes hb]
        intro t ht
        rcases List.mem_append.1 ht with ht | ht
        · exact ih t ht
        · simp only [List.mem_singleton] at ht
          rw [ht]
          exact hm _ _ (hl k (by omega)) (hl n (by omega)) hb
    · rw [hwI_low _ _ _ _ (by omega)]; exact ha
theorem hwK_all {P : Cd → Prop} {l : List Cd} (hl : ∀ t ∈ l, P t) (hm : ∀ p q, P p → P q → hwB p q = true → P (hwT p q)) (n : Nat) : ∀ t ∈ hwK l n, P t := by
  have hi : ∀ i, i < l.length → P (cd l i) := fun i h => by rw [cd_get h]; exact hl _ (List.getElem_mem h)
  induction n with
  | zero => exact hl
  | succ n ih => exact hwI_all hi hm ih _ (Nat.le_refl _)
theorem hwI_len (l acc : List Cd) (k n : Nat) : acc.length ≤ (hwI l k acc n).length ∧ (hwI l k acc n).length ≤ acc.length + n := by
  induction n with
  | zero => exact ⟨Nat.le_refl _, Nat.le_refl _⟩
  | succ n ih =>
    show _ ≤ (if _ then _ else _ : List Cd).length ∧ (if _ then _ else _ : List Cd).length ≤ _
    split
    · unfold hwStep
      split
      · rw [List.length_append]; simp; omega
      · omega
    · omega
theorem hwK_len (l : List Cd) (n : Nat) : l.length ≤ (hwK l n).length ∧ (hwK l n).length ≤ l.length + n * l.length := by
  induction n with
  | zero => exact ⟨Nat.le_refl _, by show l.length ≤ _; omega⟩
  | succ n ih =>
    have := hwI_len l (hwK l n) n l.length
    rw [hwK_next, Nat.succ_mul]
    omega
/-- The elements that were there stay in their places. -/
theorem hwI_at {l acc : List Cd} {k n i : Nat} (hi : i < acc.length) : cd (hwI l k acc n) i = cd acc i := by
  induction n with
  | zero => rfl
  | succ n ih =>
    have hl := (hwI_len l acc k n).1
    show cd (if _ then _ else _) i = _
    split
    · unfold hwStep
      split
      · rw [cd_app1 (by omega)]; exact ih
      · exact ih
    · exact ih
theorem hwK_at {l : List Cd} {n i : Nat} (hi : i < l.length) : cd (hwK l n) i = cd l i := by
  induction n with
  | zero => rfl
  | succ n ih =>
    have hl := (hwK_len l n).1
    rw [hwK_next, hwI_at (by omega)]
    exact ih

/-- How many rows a thrust just meets; the best of the first k candidates (and the one ahead of them). -/
def jmL (t : Cd) (rs : List Cd) : Nat := (jmTo t rs rs.length).length
def bstTo (cs rs : List Cd) : Nat → Cd
  | 0 => cd cs 0
  | k + 1 => if k = 0 then cd cs 0 else if jmL (cd cs k) rs < jmL (bstTo cs rs k) rs then cd cs k else bstTo cs rs k
theorem bst_one (cs rs : List Cd) : bstTo cs rs 1 = cd cs 0 := rfl
theorem bst_yes {cs rs : List Cd} {k : Nat} (hk : 1 ≤ k) (h : jmL (cd cs k) rs < jmL (bstTo cs rs k) rs) : bstTo cs rs (k + 1) = cd cs k := by
  show (if _ then _ else if _ then _ else _) = _; rw [if_neg (by omega), if_pos h]
theorem bst_no {cs rs : List Cd} {k : Nat} (hk : 1 ≤ k) (h : ¬ jmL (cd cs k) rs < jmL (bstTo cs rs k) rs) : bstTo cs rs (k + 1) = bstTo cs rs k := by
  show (if _ then _ else if _ then _ else _) = _; rw [if_neg (by omega), if_neg h]
theorem bst_mem {cs rs : List Cd} (k : Nat) (h0 : 0 < cs.length) (hk : k ≤ cs.length) : ∃ i, i < cs.length ∧ bstTo cs rs k = cd cs i := by
  induction k with
  | zero => exact ⟨0, h0, rfl⟩
  | succ k ih =>
    by_cases h1 : k = 0
    · subst h1; exact ⟨0, h0, rfl⟩
    · by_cases h : jmL (cd cs k) rs < jmL (bstTo cs rs k) rs
      · exact ⟨k, by omega, bst_yes (by omega) h⟩
      · rw [bst_no (by omega) h]; exact ih (by omega)
/-- What CentralThrust answers where there is a corner. -/
def cenV (l rs : List Cd) : Cd := bstTo (hwK l l.length) rs (hwK l l.length).length

/-- Valid, and keeps the products of all rows. -/
def Keeps (rs : List Cd) (t : Cd) : Prop := okTh t = true ∧ coH rs t = true
theorem keeps_mix {rs : List Cd} {p q : Cd} (hp : Keeps rs p) (hq : Keeps rs q) (hb : hwB p q = true) : Keeps rs (hwT p q) := by
  unfold hwB mxB at hb
  rw [Bool.and_eq_true] at hb
  have hm : mkB (hwH p q) (hwU p q) (hwM p q) (hwD p q) = true := hb.2
  have dp := (okT_iff.1 hp.1).1
  have dq := (okT_iff.1 hq.1).1
  have hd : 0 < hwD p q := by
    have : 1 * 1 ≤ p.2.2.2 * q.2.2.2 := Int.mul_le_mul dp.1 dq.1 (by omega) (by omega)
    unfold hwD mxD
    rw [Int.mul_assoc]
    omega
  refine ⟨mk_ok hm, ?_⟩
  unfold coH
  rw [allV_iff]
  intro x hx
  have h1 := cdH_iff.1 (allV_iff.1 hp.2 x hx)
  have h2 := cdH_iff.1 (allV_iff.1 hq.2 x hx)
  exact mk_row hd hm (mix_row (by omega) (by omega) h1 h2)
theorem keeps_corner {rs : List Cd} (t : Cd) (h : t ∈ coV rs) : Keeps rs t := by
  obtain ⟨i, k, m, -, -, -, hs, rfl, hh⟩ := coV_all t h
  exact ⟨soB_okT hs, hh⟩
theorem keeps_ful {rs : List Cd} (hok : coOk rs = true) {t : Cd} (h : Keeps rs t) : fulAll t.1 t.2.1 t.2.2.1 t.2.2.2 rs = true := by
  unfold coOk at hok
  rw [Bool.and_eq_true] at hok
  have hn := inR_iff.1 hok.2
  rw [fulAll_yes (inR_iff.2 (by omega)) h.1, allV_iff]
  intro x hx
  unfold cdFAt cdF
  rw [Bool.and_eq_true]
  exact ⟨allV_iff.1 hok.1 x hx, allV_iff.1 h.2 x hx⟩
/-- The central thrust fulfills all rows. -/
theorem cen_ful {rs : List Cd} (h0 : 0 < (coV rs).length) : okTh (cenV (coV rs) rs) = true ∧ fulAll (cenV (coV rs) rs).1 (cenV (coV rs) rs).2.1 (cenV (coV rs) rs).2.2.1 (cenV (coV rs) rs).2.2.2 rs = true := by
  have hok : coOk rs = true := by
    cases hc : coOk rs
    · rw [coV_no hc] at h0; exact absurd h0 (Nat.lt_irrefl 0)
    · rfl
  have hl := (hwK_len (coV rs) (coV rs).length).1
  obtain ⟨i, hi, he⟩ := bst_mem (cs := hwK (coV rs) (coV rs).length) (rs := rs) (hwK (coV rs) (coV rs).length).length (by omega) (Nat.le_refl _)
  have hk : Keeps rs (cenV (coV rs) rs) := by
    unfold cenV
    rw [he, cd_get hi]
    exact hwK_all (P := Keeps rs) keeps_corner (fun p q hp hq hb => keeps_mix hp hq hb) _ _ (List.getElem_mem hi)
  exact ⟨hk.1, keeps_ful hok hk⟩
end Go.Proofs.Ytbmlcfdilopmgaa
