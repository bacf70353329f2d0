/- Corners by their first row, plainly: the solutions with one first row that fulfill all rows; those of a list that are not there yet; both make the corners. -/
import Derived.Test.YtibcalpkmjjilaaThreeQ
namespace Go.Proofs.Ytibcalpkmjjilaa
set_option maxRecDepth 100000

/-- The solution of three rows, behind a list, if there is one and it fulfills all rows. -/
def cfAdd (rs l : List Cd) (p q r : Cd) : List Cd := if soB p q r && fulAll (soT p q r).1 (soT p q r).2.1 (soT p q r).2.2.1 (soT p q r).2.2.2 rs then l ++ [soT p q r] else l
theorem cfAdd_no {rs l : List Cd} {p q r : Cd} (h : soB p q r = false) : cfAdd rs l p q r = l := by unfold cfAdd; rw [h]; rfl
theorem cfAdd_ful {rs l : List Cd} {p q r : Cd} (h : fulAll (soT p q r).1 (soT p q r).2.1 (soT p q r).2.2.1 (soT p q r).2.2.2 rs = false) : cfAdd rs l p q r = l := by unfold cfAdd; rw [h, Bool.and_false]; rfl
theorem cfAdd_yes {rs l : List Cd} {p q r : Cd} (h : soB p q r = true) (hf : fulAll (soT p q r).1 (soT p q r).2.1 (soT p q r).2.2.1 (soT p q r).2.2.2 rs = true) : cfAdd rs l p q r = l ++ [soT p q r] := by unfold cfAdd; rw [h, hf]; rfl
theorem cfAdd_len (rs l : List Cd) (p q r : Cd) : (cfAdd rs l p q r).length ≤ l.length + 1 := by
  unfold cfAdd
  split
  · rw [List.length_append]; simp
  · omega
def cfM (rs : List Cd) (i k : Nat) (l : List Cd) : Nat → List Cd
  | 0 => l
  | m + 1 => if k < m then cfAdd rs (cfM rs i k l m) (cd rs i) (cd rs k) (cd rs m) else cfM rs i k l m
def cfK (rs : List Cd) (i : Nat) : Nat → List Cd
  | 0 => []
  | k + 1 => if i < k then cfM rs i k (cfK rs i k) rs.length else cfK rs i k
/-- What cornersFrom answers. -/
def cfV (rs : List Cd) (i : Nat) : List Cd := cfK rs i rs.length
theorem cfM_low (rs : List Cd) (i k : Nat) (l : List Cd) (n : Nat) (h : n ≤ k + 1) : cfM rs i k l n = l := by
  induction n with
  | zero => rfl
  | succ n ih => show (if _ then _ else _) = _; rw [if_neg (by omega)]; exact ih (by omega)
theorem cfM_next (rs : List Cd) (i k : Nat) (l : List Cd) (m : Nat) (h : k < m) : cfM rs i k l (m + 1) = cfAdd rs (cfM rs i k l m) (cd rs i) (cd rs k) (cd rs m) := by show (if _ then _ else _) = _; rw [if_pos h]
theorem cfK_low (rs : List Cd) (i : Nat) (n : Nat) (h : n ≤ i + 1) : cfK rs i n = [] := by
  induction n with
  | zero => rfl
  | succ n ih => show (if _ then _ else _) = _; rw [if_neg (by omega)]; exact ih (by omega)
theorem cfK_next (rs : List Cd) (i : Nat) (k : Nat) (h : i < k) : cfK rs i (k + 1) = cfM rs i k (cfK rs i k) rs.length := by show (if _ then _ else _) = _; rw [if_pos h]
theorem cfM_len (rs l : List Cd) (i k n : Nat) : (cfM rs i k l n).length ≤ l.length + n := by
  induction n with
  | zero => exact Nat.le_refl _
  | succ n ih =>
    show (if k < n then _ else _ : List Cd).length ≤ _
    split
    · have := cfAdd_len rs (cfM rs i k l n) (cd rs i) (cd rs k) (cd rs n); omega
    · omega
theorem cfK_len (rs : List Cd) (i n : Nat) : (cfK rs i n).length ≤ n * rs.length := by
  induction n with
  | zero => simp [cfK]
  | succ n ih =>
    rw [Nat.succ_mul]
    show (if i < n then _ else _ : List Cd).length ≤ _
    split
    · have := cfM_len rs (cfK rs i n) i n rs.length; omega
    · omega
theorem cfV_len (rs : List Cd) (i : Nat) : (cfV rs i).length ≤ rs.length * rs.length := cfK_len rs i _

/-- A thrust behind a list, if it is not there yet; all of a list. -/
def anAdd (l : List Cd) (t : Cd) : List Cd := if decide (t ∈ l) then l else l ++ [t]
theorem anAdd_in {l : List Cd} {t : Cd} (h : decide (t ∈ l) = true) : anAdd l t = l := by unfold anAdd; rw [h]; rfl
theorem anAdd_new {l : List Cd} {t : Cd} (h : decide (t ∈ l) = false) : anAdd l t = l ++ [t] := by unfold anAdd; rw [h]; rfl
def anTo (l os : List Cd) : Nat → List Cd
  | 0 => l
  | k + 1 => anAdd (anTo l os k) (cd os k)
/-- What appendNew answers. -/
def anV (l os : List Cd) : List Cd := anTo l os os.length
theorem anAdd_len (l : List Cd) (t : Cd) : (anAdd l t).length ≤ l.length + 1 := by
  unfold anAdd
  split
  · omega
  · rw [List.length_append]; simp
theorem anTo_len (l os : List Cd) (n : Nat) : (anTo l os n).length ≤ l.length + n := by
  induction n with
  | zero => exact Nat.le_refl _
  | succ n ih => have := anAdd_len (anTo l os n) (cd os n); show (anAdd _ _).length ≤ _; omega
theorem anTo_append (l os : List Cd) (t : Cd) (n : Nat) (hn : n ≤ os.length) : anTo l (os ++ [t]) n = anTo l os n := by
  induction n with
  | zero => rfl
  | succ n ih =>
    show anAdd _ _ = anAdd _ _
    rw [ih (by omega)]
    congr 1
    unfold cd
    rw [List.getD_eq_getElem?_getD, List.getD_eq_getElem?_getD, List.getElem?_append_left (by omega)]
theorem anV_append (l os : List Cd) (t : Cd) : anV l (os ++ [t]) = anAdd (anV l os) t := by
  unfold anV
  rw [List.length_append]
  show anAdd (anTo l (os ++ [t]) os.length) (cd (os ++ [t]) os.length) = _
  rw [anTo_append l os t _ (Nat.le_refl _)]
  congr 1
  unfold cd
  rw [List.getD_eq_getElem?_getD, List.getElem?_append_right (Nat.le_refl _)]
  simp

theorem cf_step {rs : List Cd} (hok : coOk rs = true) (l o : List Cd) (i k m : Nat) : coStep rs (anV l o) i k m = anV l (cfAdd rs o (cd rs i) (cd rs k) (cd rs m)) := by
  rw [← coAdd_step]
  cases h : soB (cd rs i) (cd rs k) (cd rs m)
  · rw [coAdd_no h, cfAdd_no h]
  · have hf := coOk_ful hok h
    cases hc : coH rs (soT (cd rs i) (cd rs k) (cd rs m))
    · rw [coAdd_ful hc, cfAdd_ful (hf.trans hc)]
    · rw [cfAdd_yes h (hf.trans hc), anV_append]
      cases hd : decide (soT (cd rs i) (cd rs k) (cd rs m) ∈ anV l o)
      · rw [coAdd_yes h hd hc, anAdd_new hd]
      · rw [coAdd_in hd, anAdd_in hd]
theorem cf_M {rs : List Cd} (hok : coOk rs = true) (l o : List Cd) (i k n : Nat) : coM rs i k (anV l o) n = anV l (cfM rs i k o n) := by
  induction n with
  | zero => rfl
  | succ n ih =>
    by_cases h : k < n
    · rw [coM_next _ _ _ _ _ h, cfM_next _ _ _ _ _ h, ih, cf_step hok]
    · rw [coM_low _ _ _ _ _ (by omega), cfM_low _ _ _ _ _ (by omega)]
theorem cf_K {rs : List Cd} (hok : coOk rs = true) (l : List Cd) (i n : Nat) : coK rs i l n = anV l (cfK rs i n) := by
  induction n with
  | zero => rfl
  | succ n ih =>
    by_cases h : i < n
    · rw [coK_next _ _ _ _ h, cfK_next _ _ _ h, ih, cf_M hok]
    · rw [coK_low _ _ _ _ (by omega), cfK_low _ _ _ (by omega)]; rfl
/-- One first row more. -/
theorem cf_I {rs : List Cd} (hok : coOk rs = true) (i : Nat) : coI rs (i + 1) = anV (coI rs i) (cfV rs i) := by rw [coI_next, cf_K hok]; rfl
end Go.Proofs.Ytibcalpkmjjilaa
