/- The contracts of the two Clamp functions: both give max low (min n high); they touch no memory. -/
import Derived.Test.YtibdmidinopppaaRows
import Derived.WalkKit
import Derived.ProofKit
import Derived.OpenShut
import Derived.WalkLawsBesides
namespace Go.Proofs.Ytibdmidinopppaa
open Go.ChangeShapes Go.WideShapes Go.ChangeAt Go.RowKit

theorem ret_int {k : IntKind} {a b : Int} (h : a = b) : Ending.returned (.int k a) = .returned (.int k b) := by rw [h]

/-- What Clamp gives. -/
def clampI (n low high : Int) : Int := if high < low then low else if n < low then low else if high < n then high else n

set_option maxHeartbeats 400000 in
theorem specClamp (n a b : Int) (w : World) :
    Calls Try.prog 20 #[.int .i64 n, .int .i64 a, .int .i64 b] w fun e w' => e = .returned (.int .i64 (clampI n a b)) ∧ w = w' := by
  unfold clampI
  by_cases h1 : b < a
  · rw [if_pos h1]
    go_enter Try.func20, Try.ntmps20
    go_wp2
    go_ret
    exact ⟨rfl, rfl⟩
  · rw [if_neg h1]
    by_cases h2 : n < a
    · rw [if_pos h2]
      go_enter Try.func20, Try.ntmps20
      go_wp2
      go_ret
      exact ⟨rfl, rfl⟩
    · rw [if_neg h2]
      by_cases h3 : b < n
      · rw [if_pos h3]
        go_enter Try.func20, Try.ntmps20
        go_wp2
        go_ret
        exact ⟨rfl, rfl⟩
      · rw [if_neg h3]
        go_enter Try.func20, Try.ntmps20
        go_wp2
        go_ret
        exact ⟨rfl, rfl⟩

theorem clampI_eq (n a b : Int) : clampI n a b = max a (min n b) := by
  unfold clampI; split
  · omega
  · split
    · omega
    · split <;> omega

set_option maxHeartbeats 400000 in
theorem implClamp (n a b : Int) (w : World) :
    Calls Try.prog 10 #[.int .i64 n, .int .i64 a, .int .i64 b] w fun e w' => e = .returned (.int .i64 (clampI n a b)) ∧ w = w' := by
  go_enter Try.func10, Try.ntmps10
  go_wp2
  all_goals
    go_ret
    exact ⟨ret_int (by unfold clampI; omega), rfl⟩
theorem implClamp_is (n a b : Int) (w : World) :
    Calls Try.prog 10 #[.int .i64 n, .int .i64 a, .int .i64 b] w fun e w' => ∃ c : Int, e = .returned (.int .i64 c) ∧ w = w' ∧ (b < a → c = a) ∧ (¬ b < a → a ≤ c ∧ c ≤ b ∧ (a ≤ n → n ≤ b → c = n)) :=
  (implClamp n a b w).mono fun _ _ ⟨he, hw⟩ => ⟨_, he, hw, by unfold clampI; omega, by unfold clampI; omega⟩

theorem implClamp_same (n a b : Int) (w : World) (h1 : a ≤ n) (h2 : n ≤ b) :
    Calls Try.prog 10 #[.int .i64 n, .int .i64 a, .int .i64 b] w fun e w' => e = .returned (.int .i64 n) ∧ w = w' :=
  (implClamp n a b w).mono fun _ _ ⟨he, hw⟩ => ⟨by rw [he]; exact ret_int (by unfold clampI; omega), hw⟩

theorem implClamp_753 (w : World) :
    Calls Try.prog 10 #[.int .i64 7, .int .i64 3, .int .i64 5] w fun e w' => e = .returned (.int .i64 5) ∧ w = w' :=
  implClamp 7 3 5 w
end Go.Proofs.Ytibdmidinopppaa
