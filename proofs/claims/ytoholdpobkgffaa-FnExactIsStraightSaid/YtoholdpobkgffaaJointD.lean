/- Joints: the contracts of IsOnJoint, MirrorJoint, of the program and of the model. -/
import Derived.Test.YtoholdpobkgffaaJointC
import Derived.Test.YtoholdpobkgffaaStoneC
namespace Go.Proofs.Ytoholdpobkgffaa
set_option maxRecDepth 100000
open Go.ChangeShapes Go.WideShapes Go.ChangeAt Go.RowKit Go.Joins Go.Deep


theorem l01InM (n a b lo hi : Int) (w : World) (h1 : lo = min a b) (h2 : hi = max a b) :
    Calls Try.prog 18 #[.int .i64 n, .int .i64 lo, .int .i64 hi] w fun e w' => e = .returned (.bool (amid n a b)) ∧ w = w' := by
  have hV : amid n a b = decide (lo ≤ n ∧ n ≤ hi) := by unfold amid; rw [h1, h2]
  rw [hV]
  clear hV h1 h2
  by_cases h : n < lo
  · go_enter Try.func18, Try.ntmps18
    go_wp2
    go_ret
    exact ⟨ret_bool (by simp <;> omega), rfl⟩
  · go_enter Try.func18, Try.ntmps18
    go_wp2
    go_ret
    exact ⟨ret_bool (by simp <;> omega), rfl⟩

theorem onV_j {ax ay bx by_ px py : Int} (h : okJ ax ay bx by_ = false) : onV ax ay bx by_ px py = false := by unfold onV; rw [h]; rfl
theorem onV_p {ax ay bx by_ px py : Int} (h : okP px py = false) : onV ax ay bx by_ px py = false := by unfold onV; rw [h]; simp
theorem onV_s {ax ay bx by_ px py : Int} (h : sideV ax ay bx by_ px py ≠ 0) : onV ax ay bx by_ px py = false := by unfold onV; rw [decide_eq_false h]; simp
theorem onV_yes {ax ay bx by_ px py : Int} (h : okJ ax ay bx by_ = true) (hp : okP px py = true) (hs : sideV ax ay bx by_ px py = 0) : onV ax ay bx by_ px py = (amid px ax bx && amid py ay by_) := by
  unfold onV; rw [h, hp, decide_eq_true hs]; rfl

end Go.Proofs.Ytoholdpobkgffaa
