/- Lists of four ints as flat cells: a row of a struct of four ints, copied, marked. -/
import Derived.Test.YtidmhpeaehmmhaaDoorStoneC
namespace Go.Proofs.YtidmhpeaehmmhaaDoor
set_option maxRecDepth 100000
open Go.ChangeShapes Go.WideShapes Go.ChangeAt Go.RowKit

/-- Four ints: a condition, its A, B, C, D (or a thrust). -/
abbrev Cd : Type := Int × Int × Int × Int
/-- The one at an index (zeros past the end). -/
def cd (rs : List Cd) (i : Nat) : Cd := rs.getD i (0, 0, 0, 0)
theorem cd_get {rs : List Cd} {i : Nat} (h : i < rs.length) : cd rs i = rs[i] := by unfold cd; rw [List.getD_eq_getElem?_getD, List.getElem?_eq_getElem h]; rfl
theorem cd_app1 {rs ks : List Cd} {i : Nat} (h : i < rs.length) : cd (rs ++ ks) i = cd rs i := by
  unfold cd; rw [List.getD_eq_getElem?_getD, List.getElem?_append_left h, ← List.getD_eq_getElem?_getD]
theorem cd_app2 (rs : List Cd) (r : Cd) : cd (rs ++ [r]) rs.length = r := by
  unfold cd; rw [List.getD_eq_getElem?_getD, List.getElem?_append_right (Nat.le_refl _), Nat.sub_self]; rfl
theorem cds_of {n : Nat} {q : Nat → Cd → Prop} (h : ∀ i, i < n → ∃ p, q i p) : ∃ rs : List Cd, rs.length = n ∧ ∀ i, i < n → q i (cd rs i) := by
  induction n with
  | zero => exact ⟨[], rfl, fun i hi => absurd hi (Nat.not_lt_zero i)⟩
  | succ n ih =>
    obtain ⟨rs, hl, hq⟩ := ih fun i hi => h i (by omega)
    obtain ⟨p, hp⟩ := h n (by omega)
    refine ⟨rs ++ [p], by simp [hl], fun i hi => ?_⟩
    by_cases he : i < n
    · rw [cd_app1 (by omega)]; exact hq i he
    · obtain rfl : i = n := by omega
      rw [← hl, cd_app2, hl]; exact hp

/-- Their cells. -/
def flat4 (rs : List Cd) : List Value := rs.flatMap fun r => [.int .i64 r.1, .int .i64 r.2.1, .int .i64 r.2.2.1, .int .i64 r.2.2.2]
theorem flat4_cons (r : Cd) (rs : List Cd) : flat4 (r :: rs) = .int .i64 r.1 :: .int .i64 r.2.1 :: .int .i64 r.2.2.1 :: .int .i64 r.2.2.2 :: flat4 rs := rfl
theorem flat4_append (a b : List Cd) : flat4 (a ++ b) = flat4 a ++ flat4 b := by unfold flat4; rw [List.flatMap_append]
theorem flat4_length (rs : List Cd) : (flat4 rs).length = rs.length * 4 := by
  induction rs with
  | nil => rfl
  | cons r rs ih => rw [flat4_cons]; simp [ih]; omega
theorem flat4_at (rs : List Cd) (i : Nat) (h : i < rs.length) :
    (flat4 rs)[i * 4]? = some (.int .i64 (cd rs i).1) ∧ (flat4 rs)[i * 4 + 1]? = some (.int .i64 (cd rs i).2.1) ∧ (flat4 rs)[i * 4 + 2]? = some (.int .i64 (cd rs i).2.2.1) ∧ (flat4 rs)[i * 4 + 3]? = some (.int .i64 (cd rs i).2.2.2) := by
  induction rs generalizing i with
  | nil => simp at h
  | cons r rs ih =>
    cases i with
    | zero => exact ⟨rfl, rfl, rfl, rfl⟩
    | succ i =>
      have := ih i (by simpa using h)
      rw [flat4_cons, show (i + 1) * 4 = i * 4 + 1 + 1 + 1 + 1 by omega]
      simpa [cd] using this
theorem flat4_set (rs : List Cd) (i : Nat) (x y z u : Int) (h : i < rs.length) : ((((flat4 rs).set (i * 4) (.int .i64 x)).set (i * 4 + 1) (.int .i64 y)).set (i * 4 + 2) (.int .i64 z)).set (i * 4 + 3) (.int .i64 u) = flat4 (rs.set i (x, y, z, u)) := by
  induction rs generalizing i with
  | nil => simp at h
  | cons r rs ih =>
    cases i with
    | zero => rfl
    | succ i =>
      have := ih i (by simpa using h)
      rw [flat4_cons, show (i + 1) * 4 = i * 4 + 1 + 1 + 1 + 1 by omega]
      simp only [List.set_cons_succ]
      rw [flat4_cons, this]

/-- As far as they have been copied. -/
def flat4To (rs : List Cd) (k : Nat) : List Value := flat4 (rs.take k) ++ List.replicate ((rs.length - k) * 4) (.int .i64 0)
theorem flat4To_zero (rs : List Cd) : flat4To rs 0 = List.replicate (rs.length * 4) (.int .i64 0) := by simp [flat4To, flat4]
theorem flat4To_end (rs : List Cd) : flat4To rs rs.length = flat4 rs := by simp [flat4To]
theorem flat4To_next (rs : List Cd) (k : Nat) (h : k < rs.length) : ((((flat4To rs k).set (k * 4) (.int .i64 (cd rs k).1)).set (k * 4 + 1) (.int .i64 (cd rs k).2.1)).set (k * 4 + 2) (.int .i64 (cd rs k).2.2.1)).set (k * 4 + 3) (.int .i64 (cd rs k).2.2.2) = flat4To rs (k + 1) := by
  have hl : (flat4 (rs.take k)).length = k * 4 := by rw [flat4_length, List.length_take]; omega
  unfold flat4To
  rw [show (rs.length - k) * 4 = (rs.length - (k + 1)) * 4 + 1 + 1 + 1 + 1 by omega]
  simp only [List.replicate_succ]
  rw [List.set_append_right _ _ (by omega), hl, Nat.sub_self, List.set_cons_zero, List.set_append_right _ _ (by omega), hl, show k * 4 + 1 - k * 4 = 1 by omega, List.set_cons_succ, List.set_cons_zero,
    List.set_append_right _ _ (by omega), hl, show k * 4 + 2 - k * 4 = 2 by omega, List.set_cons_succ, List.set_cons_succ, List.set_cons_zero,
    List.set_append_right _ _ (by omega), hl, show k * 4 + 3 - k * 4 = 3 by omega, List.set_cons_succ, List.set_cons_succ, List.set_cons_succ, List.set_cons_zero]
  rw [List.take_succ_eq_append_getElem h, flat4_append, List.append_assoc, cd_get h]
  rfl
theorem flat4To_at (rs : List Cd) (k i : Nat) (h : k < rs.length) (hi : i < 4) : (flat4To rs k)[k * 4 + i]? = some (.int .i64 0) := by
  have hl : (flat4 (rs.take k)).length = k * 4 := by rw [flat4_length, List.length_take]; omega
  unfold flat4To
  rw [List.getElem?_append_right (by omega), hl, List.getElem?_replicate, if_pos (by omega)]
theorem made_zero4 (n : Nat) : (madeCells (Value.agg #[.int .i64 0, .int .i64 0, .int .i64 0, .int .i64 0]).cells n).toList = List.replicate n (Value.int .i64 0) := by
  unfold madeCells
  rw [Array.toList_map]
  refine List.ext_getElem (by simp) fun i h1 h2 => ?_
  rw [List.getElem_map, List.getElem_replicate]
  have : i % 4 = 0 ∨ i % 4 = 1 ∨ i % 4 = 2 ∨ i % 4 = 3 := by omega
  simp [Value.cells]
  rcases this with h | h | h | h <;> simp [h]

/-- The numbers from k on, four for each. -/
def marks4 (k : Int) : Nat → List Cd
  | 0 => []
  | n + 1 => (k, k + 1, k + 1 + 1, k + 1 + 1 + 1) :: marks4 (k + 4) n
theorem marks4_length (k : Int) (n : Nat) : (marks4 k n).length = n := by
  induction n generalizing k with
  | zero => rfl
  | succ n ih => simp [marks4, ih]
theorem marks4_at (k : Int) (n i : Nat) (h : i < n) : cd (marks4 k n) i = (k + 4 * i, k + 4 * i + 1, k + 4 * i + 1 + 1, k + 4 * i + 1 + 1 + 1) := by
  induction n generalizing k i with
  | zero => omega
  | succ n ih =>
    cases i with
    | zero => simp [marks4, cd]
    | succ i =>
      have := ih (k + 4) i (by omega)
      unfold cd at this ⊢
      simp only [marks4, List.getD_cons_succ]
      rw [this, show k + 4 + 4 * (i : Int) = k + 4 * ((i + 1 : Nat) : Int) by omega]
theorem marks4_next (k : Int) (n : Nat) : marks4 k (n + 1) = marks4 k n ++ [(k + 4 * n, k + 4 * n + 1, k + 4 * n + 1 + 1, k + 4 * n + 1 + 1 + 1)] := by
  induction n generalizing k with
  | zero => simp [marks4]
  | succ n ih =>
    rw [marks4, ih (k + 4), marks4, List.cons_append]
    rw [show k + 4 + 4 * (n : Int) = k + 4 * ((n + 1 : Nat) : Int) by omega]
/-- The cells as far as they have been marked. -/
def cdsMk (rs : List Cd) (k : Int) (i : Nat) : List Cd := marks4 k i ++ rs.drop i
theorem cdsMk_zero (rs : List Cd) (k : Int) : cdsMk rs k 0 = rs := rfl
theorem cdsMk_end (rs : List Cd) (k : Int) : cdsMk rs k rs.length = marks4 k rs.length := by simp [cdsMk]
theorem cdsMk_length (rs : List Cd) (k : Int) (i : Nat) (h : i ≤ rs.length) : (cdsMk rs k i).length = rs.length := by simp [cdsMk, marks4_length]; omega
theorem cdsMk_set (rs : List Cd) (k : Int) (i : Nat) (h : i < rs.length) : (cdsMk rs k i).set i (k + 4 * i, k + 4 * i + 1, k + 4 * i + 1 + 1, k + 4 * i + 1 + 1 + 1) = cdsMk rs k (i + 1) := by
  unfold cdsMk
  rw [List.set_append_right _ _ (by simp [marks4_length]), marks4_length, Nat.sub_self, List.drop_eq_getElem_cons h, List.set_cons_zero, marks4_next, List.append_assoc]
  rfl
theorem adb4 (a : Addr) (i : Nat) : (a.add i).block = a.block := by unfold Addr.add; split <;> rfl
theorem grown4_trans {a b c : World} {r : Option Nat} (h : a.grownBy b r) (k : b.grownBy c r) : a.grownBy c r :=
  ⟨k.os.trans h.os, k.tape.trans h.tape, k.output.trans h.output, Nat.le_trans h.size k.size, fun i hi hne => (k.block i (Nat.lt_of_lt_of_le hi h.size) hne).trans (h.block i hi hne)⟩
end Go.Proofs.YtidmhpeaehmmhaaDoor
