/- Joints: the contracts of StoneBetween, of the program and of the model; Joints: the struct as it comes in, and the contracts of the functions on one joint: JointOk, IsOnJoint, IsFlat, MirrorJoint, of the program and of the model; Joints: the contracts of IsOnJoint, MirrorJoint, of the program and of the model. -/
import Derived.Test.YtdaiffaedejnbaaGPlain
import Derived.Test.YtdaiffaedejnbaaGStone
import Derived.Deep.Cut
import Derived.Deep.CutRange
import Derived.Deep.AppendLies
import Derived.Test.YtdaiffaedejnbaaGPt
import Derived.Test.YtdaiffaedejnbaaStoneC
import Derived.StillTailTactics

/- Joints: the contracts of StoneBetween, of the program and of the model. -/
namespace Go.Proofs.Ytdaiffaedejnbaa
set_option maxRecDepth 100000
open Go.ChangeShapes Go.WideShapes Go.ChangeAt Go.RowKit

/-- A stone between two joints, and whether there is one, were handed back, in new memory; what was there is as it was. -/
def BetAns (a b : (Int × Int) × (Int × Int)) (w : World) (e : Ending) (w' : World) : Prop :=
  ∃ u, e = .returned (.tuple #[.agg #[u], .bool (stoneV (betw a b))]) ∧ Row w' w.heap.size u (betV a b) ∧ Below w.heap.size w w'


set_option maxHeartbeats 1000000 in
theorem specStoneBetween (ax ay bx by_ cx cy dx dy : Int) (w : World) :
    Calls Try.prog 73 #[.agg #[.int .i64 ax, .int .i64 ay, .int .i64 bx, .int .i64 by_], .agg #[.int .i64 cx, .int .i64 cy, .int .i64 dx, .int .i64 dy]] w (BetAns ((ax, ay), (bx, by_)) ((cx, cy), (dx, dy)) w) := by
  have hb0 := ((Below.refl w.heap.size w).alloc (Nat.le_refl _) (.cells #[.int .i64 ax, .int .i64 ay, .int .i64 bx, .int .i64 by_] 85)).alloc (by simp) (.cells #[.int .i64 cx, .int .i64 cy, .int .i64 dx, .int .i64 dy] 85)
  have hb1 := hb0.alloc (by simp <;> omega) (.cells #[.slice none 0 0] 108)
  have hb2 := hb1.alloc (by simp <;> omega) (.cells #[.int .i64 ax, .int .i64 ay, .int .i64 cx, .int .i64 cy, .int .i64 dx, .int .i64 dy, .int .i64 bx, .int .i64 by_] 83)
  have hb3 := hb2.alloc (by simp <;> omega) (.cells #[.slice (some ⟨w.heap.size + 1 + 1 + 1, 0, none⟩) 4 4] 108)
  have hrow : Row ((((((w.alloc (.cells #[.int .i64 ax, .int .i64 ay, .int .i64 bx, .int .i64 by_] 85)).alloc (.cells #[.int .i64 cx, .int .i64 cy, .int .i64 dx, .int .i64 dy] 85)).alloc (.cells #[.slice none 0 0] 108)).alloc (.cells #[.int .i64 ax, .int .i64 ay, .int .i64 cx, .int .i64 cy, .int .i64 dx, .int .i64 dy, .int .i64 bx, .int .i64 by_] 83))).alloc (.cells #[.slice (some ⟨w.heap.size + 1 + 1 + 1, 0, none⟩) 4 4] 108)) w.heap.size (.slice (some ⟨w.heap.size + 1 + 1 + 1, 0, none⟩) 4 4) (betw ((ax, ay), (bx, by_)) ((cx, cy), (dx, dy))) := by
    refine RowAt.alloc (B := w.heap.size) (g := w.heap.size + 1 + 1 + 1) (cap := 4) (cs := betw ((ax, ay), (bx, by_)) ((cx, cy), (dx, dy))) ?_ _
    have hro := World.ownsRow_lit (base := w.heap.size) (e := 83) (size := 2) (((w.alloc (.cells #[.int .i64 ax, .int .i64 ay, .int .i64 bx, .int .i64 by_] 85)).alloc (.cells #[.int .i64 cx, .int .i64 cy, .int .i64 dx, .int .i64 dy] 85)).alloc (.cells #[.slice none 0 0] 108)) #[.int .i64 ax, .int .i64 ay, .int .i64 cx, .int .i64 cy, .int .i64 dx, .int .i64 dy, .int .i64 bx, .int .i64 by_] 4 (by simp; omega) (by unfold maxLen; omega) rfl
    simp only [World.size_alloc] at hro
    exact hro
  have HB3 := Lib.hid hb3
  have HR := Lib.hid hrow
  clear hb0 hb1 hb2 hb3 hrow
  generalize hc : betw ((ax, ay), (bx, by_)) ((cx, cy), (dx, dy)) = cs at HR
  have HC := Lib.hid hc
  clear hc
  go_enter Try.func73, Try.ntmps73
  go_wp2_with fail
  refine (specStoneOk _ _ _ cs HR.out).mono ?_
  rintro e w1 ⟨rfl, hb⟩
  have HR1 := Lib.hid (Row.below HR.out hb)
  have HB1 := Lib.hid (HB3.out.trans (hb.mono HB3.out.size))
  have hz := hb.size
  simp only [World.size_alloc] at hz
  obtain ⟨hc1, hf1⟩ := bcell hb
  have s1 : w1.cell? ⟨w.heap.size + 1 + 1 + 1 + 1, 0, none⟩ = some (.slice (some ⟨w.heap.size + 1 + 1 + 1, 0, none⟩) 4 4) := by rw [hc1 _ _ (by simp <;> omega)]; go_simp
  have r1 : w1.cell? ⟨w.heap.size + 1 + 1, 0, none⟩ = some (.slice none 0 0) := by rw [hc1 _ _ (by simp <;> omega)]; go_simp
  have f1 : w1.frozen? ⟨w.heap.size + 1 + 1, 0, none⟩ = false := by rw [hf1 _ _ (by simp <;> omega)]; go_simp
  clear hb hc1 hf1
  cases hs : stoneV cs
  · have HS := Lib.hid hs
    clear hs
    go_wp2_with fail
    refine bodyPost_ret (v := .tuple #[.agg #[.slice none 0 0], .bool false]) (by simp [results, Try.results73, go_sem, r1]) rfl ⟨.slice none 0 0, ?_, ?_, ?_⟩
    · rw [HC.out, HS.out]
    · rw [betV_no (by rw [HC.out]; exact HS.out)]; exact Row.nil _ _
    · exact HB1.out.setCell (p := ⟨w.heap.size + 1 + 1, 0, none⟩) (by show _ ≤ w.heap.size + 1 + 1; omega) _
  · have HS := Lib.hid hs
    clear hs
    go_wp2_with fail
    refine bodyPost_ret (v := .tuple #[.agg #[.slice (some ⟨w.heap.size + 1 + 1 + 1, 0, none⟩) 4 4], .bool true]) (by simp [results, Try.results73, go_sem, r1]) rfl ⟨.slice (some ⟨w.heap.size + 1 + 1 + 1, 0, none⟩) 4 4, ?_, ?_, ?_⟩
    · rw [HC.out, HS.out]
    · rw [betV_yes (by rw [HC.out]; exact HS.out), HC.out]
      exact ownsRow_setCell_other HR1.out (a := ⟨w.heap.size + 1 + 1, 0, none⟩) (fun he => by simp [Value.ownBlock] at he) _
    · exact HB1.out.setCell (p := ⟨w.heap.size + 1 + 1, 0, none⟩) (by show _ ≤ w.heap.size + 1 + 1; omega) _

end Go.Proofs.Ytdaiffaedejnbaa

/- Joints: the struct as it comes in, and the contracts of the functions on one joint: JointOk, IsOnJoint, IsFlat, MirrorJoint, of the program and of the model. -/
namespace Go.Proofs.Ytdaiffaedejnbaa
set_option maxRecDepth 100000
open Go.ChangeShapes Go.WideShapes Go.ChangeAt Go.RowKit Go.Joins Go.Deep

theorem frozen_after {w w' : World} {b o o' n : Nat} {v : Value} (hf : w.frozen? ⟨b, o, none⟩ = false) (h : w.cell? ⟨b, o', none⟩ = some v) (k : Below (w.drewN n).heap.size (w.drewN n) w') : w'.frozen? ⟨b, o, none⟩ = false :=
  (k.frozen (p := ⟨b, o, none⟩) (show b < w.heap.size from cell_block_lt h)).trans hf
theorem frozen_kept {w w' : World} {b o o' : Nat} {v : Value} (hf : w.frozen? ⟨b, o, none⟩ = false) (h : w.cell? ⟨b, o', none⟩ = some v) (k : Below w.heap.size w w') : w'.frozen? ⟨b, o, none⟩ = false :=
  (k.frozen (p := ⟨b, o, none⟩) (show b < w.heap.size from cell_block_lt h)).trans hf

end Go.Proofs.Ytdaiffaedejnbaa

/- Joints: the contracts of IsOnJoint, MirrorJoint, of the program and of the model. -/
namespace Go.Proofs.Ytdaiffaedejnbaa
set_option maxRecDepth 100000
open Go.ChangeShapes Go.WideShapes Go.ChangeAt Go.RowKit Go.Joins Go.Deep

theorem isBetween (n a b : Int) (w : World) :
    Calls Try.prog 52 #[.int .i64 n, .int .i64 a, .int .i64 b] w fun e w' => e = .returned (.bool (amid n a b)) ∧ w = w' := by
  go_enter Try.func52, Try.ntmps52
  go_wp2
  all_goals
    go_ret
    refine ⟨ret_bool ?_, rfl⟩
    rw [Bool.eq_iff_iff, amid_iff]
    first
      | (rw [decide_eq_true_iff]; omega)
      | (simp only [Bool.false_eq_true, false_iff]; omega)

theorem l01InM (n a b lo hi : Int) (w : World) (h1 : lo = min a b) (h2 : hi = max a b) :
    Calls Try.prog 55 #[.int .i64 n, .int .i64 lo, .int .i64 hi] w fun e w' => e = .returned (.bool (amid n a b)) ∧ w = w' := by
  have hV : amid n a b = decide (lo ≤ n ∧ n ≤ hi) := by unfold amid; rw [h1, h2]
  rw [hV]
  clear hV h1 h2
  by_cases h : n < lo
  · go_enter Try.func55, Try.ntmps55
    go_wp2
    go_ret
    exact ⟨ret_bool (by simp <;> omega), rfl⟩
  · go_enter Try.func55, Try.ntmps55
    go_wp2
    go_ret
    exact ⟨ret_bool (by simp <;> omega), rfl⟩

theorem onV_j {ax ay bx by_ px py : Int} (h : okJ ax ay bx by_ = false) : onV ax ay bx by_ px py = false := by unfold onV; rw [h]; rfl
theorem onV_p {ax ay bx by_ px py : Int} (h : okP px py = false) : onV ax ay bx by_ px py = false := by unfold onV; rw [h]; simp
theorem onV_s {ax ay bx by_ px py : Int} (h : sideV ax ay bx by_ px py ≠ 0) : onV ax ay bx by_ px py = false := by unfold onV; rw [decide_eq_false h]; simp
theorem onV_yes {ax ay bx by_ px py : Int} (h : okJ ax ay bx by_ = true) (hp : okP px py = true) (hs : sideV ax ay bx by_ px py = 0) : onV ax ay bx by_ px py = (amid px ax bx && amid py ay by_) := by
  unfold onV; rw [h, hp, decide_eq_true hs]; rfl

end Go.Proofs.Ytdaiffaedejnbaa
