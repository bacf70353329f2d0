/- Joints: the contracts of JointText, of the program and of the model. -/
import Derived.Test.YtggkodhfhhjihaaDoorJointC
import Derived.Test.YtggkodhfhhjihaaDoorPtTextC
namespace Go.Proofs.YtggkodhfhhjihaaDoor
set_option maxRecDepth 100000
open Go.ChangeShapes Go.WideShapes Go.ChangeAt Go.RowKit

/-- What JointText answers. -/
def jtTextV (ax ay bx by_ : Int) : ByteArray := if okJ ax ay bx by_ then ptTextV ax ay ++ strOf [45] ++ ptTextV bx by_ else ⟨#[]⟩
theorem jtTextV_no {ax ay bx by_ : Int} (h : okJ ax ay bx by_ = false) : jtTextV ax ay bx by_ = ⟨#[]⟩ := by unfold jtTextV; rw [h]; rfl
theorem jtTextV_yes {ax ay bx by_ : Int} (h : okJ ax ay bx by_ = true) : jtTextV ax ay bx by_ = ptTextV ax ay ++ strOf [45] ++ ptTextV bx by_ := by unfold jtTextV; rw [h]; rfl

set_option maxHeartbeats 1000000 in
theorem implJointText (ax ay bx by_ : Int) (w : World) (hT : Tens w) :
    Calls Tryd.prog 29 #[.agg #[.int .i64 ax, .int .i64 ay, .int .i64 bx, .int .i64 by_]] w fun e w' => e = .returned (.string (jtTextV ax ay bx by_)) ∧ Below w.heap.size w w' := by
  have hb0 := (Below.refl w.heap.size w).alloc (Nat.le_refl _) (.cells #[.int .i64 ax, .int .i64 ay, .int .i64 bx, .int .i64 by_] 60)
  have HB0 := Lib.hid hb0
  clear hb0
  have HT := Lib.hid hT
  clear hT
  cases h : okJ ax ay bx by_
  · have HV := Lib.hid (jtTextV_no h)
    go_enter Tryd.func29, Tryd.ntmps29
    go_wp2_with fail
    refine (implJointOk _ _ _ _ _).mono ?_
    rintro e w1 ⟨rfl, hb1⟩
    rw [h]
    go_wp2_with fail
    go_ret
    exact ⟨ret_str HV.out.symm, HB0.out.trans (hb1.mono HB0.out.size)⟩
  · have HV := Lib.hid (jtTextV_yes h)
    have hx := ptText_size ax ay
    have hy := ptText_size bx by_
    have hX := fun w' h => implPointText ax ay w' h
    have hY := fun w' h => implPointText bx by_ w' h
    generalize ptTextV ax ay = X at *
    generalize ptTextV bx by_ = Y at *
    have HX := Lib.hid hX
    have HY := Lib.hid hY
    clear hX hY
    go_enter Tryd.func29, Tryd.ntmps29
    go_wp2_with fail
    refine (implJointOk _ _ _ _ _).mono ?_
    rintro e w1 ⟨rfl, hb1⟩
    rw [h]
    have HB1 := Lib.hid (HB0.out.trans (hb1.mono HB0.out.size))
    have HT1 := Lib.hid (HT.out.below HB1.out)
    have hn1 := Since.nonempty w1
    have hS := fun (x : Since w1) => (bcell (hb1.trans (x.2.mono hb1.size))).1
    clear h
    go_wp2_with fail
    refine wp_region_since (by kernel_rfl) (by kernel_rfl) ?_
    repeat (go_big_quiet_step (first
      | (go_at_call_of 49 (Value.agg #[Value.int .i64 ax, Value.int .i64 ay]); exact Since.call (HX.out _ (HT1.out.below (Since.below _))))
      | (go_at_call_of 49 (Value.agg #[Value.int .i64 bx, Value.int .i64 by_]); exact Since.call (HY.out _ (HT1.out.below (Since.below _))))))
    refine wpQuiet_nil ?_
    rintro w2 ⟨⟨_, hb2⟩, rfl⟩
    go_wp2_with fail
    go_ret
    exact ⟨ret_str HV.out.symm, HB1.out.trans (hb2.mono HB1.out.size)⟩

set_option maxHeartbeats 1000000 in
theorem specJointText (ax ay bx by_ : Int) (w : World) :
    Calls Tryd.prog 38 #[.agg #[.int .i64 ax, .int .i64 ay, .int .i64 bx, .int .i64 by_]] w fun e w' => e = .returned (.string (jtTextV ax ay bx by_)) ∧ Below w.heap.size w w' := by
  have hb0 := (Below.refl w.heap.size w).alloc (Nat.le_refl _) (.cells #[.int .i64 ax, .int .i64 ay, .int .i64 bx, .int .i64 by_] 60)
  have HB0 := Lib.hid hb0
  clear hb0
  cases h : okJ ax ay bx by_
  · have HV := Lib.hid (jtTextV_no h)
    go_enter Tryd.func38, Tryd.ntmps38
    go_wp2_with fail
    refine (specJointOk _ _ _ _ _).mono ?_
    rintro e w1 ⟨rfl, hb1⟩
    rw [h]
    go_wp2_with fail
    go_ret
    exact ⟨ret_str HV.out.symm, HB0.out.trans (hb1.mono HB0.out.size)⟩
  · have HV := Lib.hid (jtTextV_yes h)
    have hx := ptText_size ax ay
    have hy := ptText_size bx by_
    have hX := fun w' => specPointText ax ay w'
    have hY := fun w' => specPointText bx by_ w'
    generalize ptTextV ax ay = X at *
    generalize ptTextV bx by_ = Y at *
    have HX := Lib.hid hX
    have HY := Lib.hid hY
    clear hX hY
    go_enter Tryd.func38, Tryd.ntmps38
    go_wp2_with fail
    refine (specJointOk _ _ _ _ _).mono ?_
    rintro e w1 ⟨rfl, hb1⟩
    rw [h]
    have HB1 := Lib.hid (HB0.out.trans (hb1.mono HB0.out.size))
    have hn1 := Since.nonempty w1
    have hS := fun (x : Since w1) => (bcell (hb1.trans (x.2.mono hb1.size))).1
    clear h
    go_wp2_with fail
    refine wp_region_since (by kernel_rfl) (by kernel_rfl) ?_
    repeat (go_big_quiet_step (first
      | (go_at_call_of 58 (Value.agg #[Value.int .i64 ax, Value.int .i64 ay]); exact Since.call (HX.out _))
      | (go_at_call_of 58 (Value.agg #[Value.int .i64 bx, Value.int .i64 by_]); exact Since.call (HY.out _))))
    refine wpQuiet_nil ?_
    rintro w2 ⟨⟨_, hb2⟩, rfl⟩
    go_wp2_with fail
    go_ret
    exact ⟨ret_str HV.out.symm, HB1.out.trans (hb2.mono HB1.out.size)⟩

end Go.Proofs.YtggkodhfhhjihaaDoor
