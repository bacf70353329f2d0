/- Whether a number is in a list: the contract of the laws' has. -/
import Derived.Test.YtbmlcfdilopmgaaGFour
namespace Go.Proofs.Ytbmlcfdilopmgaa
set_option maxRecDepth 100000
set_option linter.unusedVariables false
set_option linter.unusedSimpArgs false
open Go.ChangeShapes Go.WideShapes Go.ChangeAt Go.RowKit

/-- A number is none of the first k. -/
def NoneTo (l : List Int) (x : Int) (k : Nat) : Prop := ∀ j, j < k → l.getD j 0 ≠ x
theorem noneTo_end {l : List Int} {x : Int} (h : NoneTo l x l.length) : decide (x ∈ l) = false := by
  rw [decide_eq_false_iff_not]
  intro hm
  obtain ⟨j, hj, e⟩ := List.mem_iff_getElem.1 hm
  refine h j hj ?_
  rw [List.getD_eq_getElem?_getD, List.getElem?_eq_getElem hj]
  exact e
theorem some_at {l : List Int} {x : Int} {k : Nat} (hk : k < l.length) (h : l.getD k 0 = x) : decide (x ∈ l) = true := by
  rw [decide_eq_true_iff, ← h, List.getD_eq_getElem?_getD, List.getElem?_eq_getElem hk]
  exact List.getElem_mem hk

set_option maxHeartbeats 2000000 in
theorem hasIn (w : World) (B : Nat) (a : Option Addr) (n cap : Nat) (x : Int) (l : List Int) (hr : Ins w B a n cap l) :
    Calls Try.prog 12 #[.slice a n cap, .int .i64 x] w fun e w' => e = .returned (.bool (decide (x ∈ l))) ∧ Below w.heap.size w w' := by
  obtain ⟨hnc, hcm⟩ := hr.cap
  unfold maxLen at hcm
  have HR := Lib.hid hr
  have HN := Lib.hid hr.2
  clear hr
  go_enter Try.func12, Try.ntmps12
  go_wp2_with fail
  go_loopw [5] (fun t wr => ∃ k : Nat, k ≤ n ∧ t = .int .i64 k ∧ NoneTo l x k ∧ Below w.heap.size w wr)
    (fun t _ => n - (intOf t).toNat)
  case atStart => exact ⟨0, Nat.zero_le _, rfl, fun j hj => absurd hj (Nat.not_lt_zero j), Below.refl _ _⟩
  case round =>
    obtain ⟨k, hk, rfl, hno, hbw⟩ := hrel
    have HB := Lib.hid hbw
    have HNO := Lib.hid hno
    by_cases hlt : k < n
    · obtain ⟨g, rfl, -, a0⟩ := (HR.out.below hbw).at k hlt
      obtain ⟨y, hy⟩ : ∃ y, l.getD k 0 = y := ⟨_, rfl⟩
      rw [hy] at a0
      have HY := Lib.hid hy
      have hkn : (k : Int) < (n : Int) := by omega
      clear hbw hno hy
      by_cases he : y = x
      · have hb : (y == x) = true := by simp [he]
        have HE := Lib.hid (some_at (l := l) (x := x) (k := k) (by have := HN.out; omega) (HY.out.trans he))
        clear he
        go_wp2_with fail
        try (go_quiet (fail); go_wp2_with fail)
        go_ret
        exact ⟨ret_bool HE.out.symm, by first | exact HB.out | exact below_drewN HB.out _⟩
      · have hb : (y == x) = false := by simp [he]
        have HE := Lib.hid (show NoneTo l x (k + 1) from fun j hj => if e : j = k then by rw [e, HY.out]; exact he else HNO.out j (by omega))
        clear he
        go_wp2_with fail
        try (go_quiet (fail); go_wp2_with fail)
        go_roundw
        case rel => exact ⟨k + 1, by omega, by go_num, HE.out, by first | exact HB.out | exact below_drewN HB.out _⟩
        case measure => simp [intOf]; omega
    · have hkn : k = n := by omega
      have HE := Lib.hid (show decide (x ∈ l) = false from noneTo_end (by rw [HN.out, ← hkn]; exact HNO.out))
      have hnl : ¬ (k < n) := hlt
      clear hbw hno hkn
      go_wp2_with fail
      go_ret
      exact ⟨ret_bool HE.out.symm, HB.out⟩
end Go.Proofs.Ytbmlcfdilopmgaa
