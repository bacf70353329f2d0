/- The model's functions on thrusts: MakeThrust, CompareThrusts, MixThrusts. -/
import Derived.Test.YtidmhpeaehmmhabDoorThrustI
namespace Go.Proofs.YtidmhpeaehmmhabDoor
set_option maxRecDepth 100000
open Go.ChangeShapes Go.WideShapes Go.ChangeAt Go.RowKit

theorem mkIn_1 {h v m d : Int} (hi : inF h = false) : mkIn h v m d = false := by unfold mkIn; rw [hi]; rfl
theorem mkIn_2 {h v m d : Int} (hi : inF v = false) : mkIn h v m d = false := by unfold mkIn; rw [hi]; simp
theorem mkIn_3 {h v m d : Int} (hi : inF m = false) : mkIn h v m d = false := by unfold mkIn; rw [hi]; simp
theorem mkIn_4 {h v m d : Int} (hi : inF d = false) : mkIn h v m d = false := by unfold mkIn; rw [hi]; simp
theorem mkIn_yes {h v m d : Int} (h0 : inF h = true) (h1 : inF v = true) (h2 : inF m = true) (h3 : inF d = true) : mkIn h v m d = true := by unfold mkIn; rw [h0, h1, h2, h3]; rfl


theorem mxOk_a {ah av am ad bh bv bm bd : Int} (ha : okT ah av am ad = false) : mxOk ah av am ad bh bv bm bd = false := by unfold mxOk; rw [ha]; rfl
theorem mxOk_b {ah av am ad bh bv bm bd : Int} (hb : okT bh bv bm bd = false) : mxOk ah av am ad bh bv bm bd = false := by unfold mxOk; rw [hb]; simp
theorem mxOk_da {ah av am ad bh bv bm bd : Int} (hd : ad > 1000) : mxOk ah av am ad bh bv bm bd = false := by unfold mxOk; rw [decide_eq_false (show ¬ ad ≤ 1000 by omega)]; simp
theorem mxOk_db {ah av am ad bh bv bm bd : Int} (hd : bd > 1000) : mxOk ah av am ad bh bv bm bd = false := by unfold mxOk; rw [decide_eq_false (show ¬ bd ≤ 1000 by omega)]; simp
theorem mxOk_yes {ah av am ad bh bv bm bd : Int} (ha : okT ah av am ad = true) (hb : okT bh bv bm bd = true) (hda : ¬ ad > 1000) (hdb : ¬ bd > 1000) : mxOk ah av am ad bh bv bm bd = true := by
  unfold mxOk; rw [ha, hb, decide_eq_true (show ad ≤ 1000 by omega), decide_eq_true (show bd ≤ 1000 by omega)]; rfl


end Go.Proofs.YtidmhpeaehmmhabDoor
