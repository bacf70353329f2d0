/- Joints: the contracts of IsOnJoint, MirrorJoint, of the program and of the model. -/
import Derived.Test.YtggkodhfhhjihaaDoorJointC
import Derived.Test.YtggkodhfhhjihaaDoorStoneC
namespace Go.Proofs.YtggkodhfhhjihaaDoor
set_option maxRecDepth 100000
open Go.ChangeShapes Go.WideShapes Go.ChangeAt Go.RowKit Go.Joins Go.Deep


theorem l01InM (n a b lo hi : Int) (w : World) (h1 : lo = min a b) (h2 : hi = max a b) :
    Calls Tryd.prog 32 #[.int .i64 n, .int .i64 lo, .int .i64 hi] w fun e w' => e = .returned (.bool (amid n a b)) ∧ w = w' := by
  have hV : amid n a b = decide (lo ≤ n ∧ n ≤ hi) := by unfold amid; rw [h1, h2]
  rw [hV]
  clear hV h1 h2
  by_cases h : n < lo
  · go_enter Tryd.func32, Tryd.ntmps32
    go_wp2
    go_ret
    exact ⟨ret_bool (by simp <;> omega), rfl⟩
  · go_enter Tryd.func32, Tryd.ntmps32
    go_wp2
    go_ret
    exact ⟨ret_bool (by simp <;> omega), rfl⟩

theorem onV_j {ax ay bx by_ px py : Int} (h : okJ ax ay bx by_ = false) : onV ax ay bx by_ px py = false := by unfold onV; rw [h]; rfl
theorem onV_p {ax ay bx by_ px py : Int} (h : okP px py = false) : onV ax ay bx by_ px py = false := by unfold onV; rw [h]; simp
theorem onV_s {ax ay bx by_ px py : Int} (h : sideV ax ay bx by_ px py ≠ 0) : onV ax ay bx by_ px py = false := by unfold onV; rw [decide_eq_false h]; simp
theorem onV_yes {ax ay bx by_ px py : Int} (h : okJ ax ay bx by_ = true) (hp : okP px py = true) (hs : sideV ax ay bx by_ px py = 0) : onV ax ay bx by_ px py = (amid px ax bx && amid py ay by_) := by
  unfold onV; rw [h, hp, decide_eq_true hs]; rfl


set_option maxHeartbeats 2000000 in
theorem implMirrorJoint (ax ay bx by_ x : Int) (w : World) :
    Calls Tryd.prog 47 #[.agg #[.int .i64 ax, .int .i64 ay, .int .i64 bx, .int .i64 by_], .int .i64 x] w fun e w' => e = .returned (.agg #[.int .i64 (mirX ax ay x), .int .i64 ay, .int .i64 (mirX bx by_ x), .int .i64 by_]) ∧ Below w.heap.size w w' := by
  have hb0 := ((Below.refl w.heap.size w).alloc (Nat.le_refl _) (.cells #[.int .i64 ax, .int .i64 ay, .int .i64 bx, .int .i64 by_] 60)).alloc (by simp) (.cells #[.int .i64 0, .int .i64 0, .int .i64 0, .int .i64 0] 60)
  have HB0 := Lib.hid hb0
  clear hb0
  generalize hA : mirX ax ay x = A
  generalize hB : mirX bx by_ x = B
  have HA := Lib.hid hA
  have HB := Lib.hid hB
  have hmA : ∀ W, Calls Tryd.prog 63 #[.agg #[.int .i64 ax, .int .i64 ay], .int .i64 x] W fun e w' => e = .returned (.agg #[.int .i64 A, .int .i64 ay]) ∧ Below W.heap.size W w' := fun W => hA ▸ implMirrorPoint ax ay x W
  have hmB : ∀ W, Calls Tryd.prog 63 #[.agg #[.int .i64 bx, .int .i64 by_], .int .i64 x] W fun e w' => e = .returned (.agg #[.int .i64 B, .int .i64 by_]) ∧ Below W.heap.size W w' := fun W => hB ▸ implMirrorPoint bx by_ x W
  have HMA := Lib.hid hmA
  have HMB := Lib.hid hmB
  clear hA hB hmA hmB HA HB
  have c00 : ((w.alloc (.cells #[.int .i64 ax, .int .i64 ay, .int .i64 bx, .int .i64 by_] 60)).alloc (.cells #[.int .i64 0, .int .i64 0, .int .i64 0, .int .i64 0] 60)).cell? ⟨w.heap.size, 0, none⟩ = some (.int .i64 ax) := by go_simp
  have c10 : ((w.alloc (.cells #[.int .i64 ax, .int .i64 ay, .int .i64 bx, .int .i64 by_] 60)).alloc (.cells #[.int .i64 0, .int .i64 0, .int .i64 0, .int .i64 0] 60)).cell? ⟨w.heap.size, 1, none⟩ = some (.int .i64 ay) := by go_simp
  have c20 : ((w.alloc (.cells #[.int .i64 ax, .int .i64 ay, .int .i64 bx, .int .i64 by_] 60)).alloc (.cells #[.int .i64 0, .int .i64 0, .int .i64 0, .int .i64 0] 60)).cell? ⟨w.heap.size, 2, none⟩ = some (.int .i64 bx) := by go_simp
  have c30 : ((w.alloc (.cells #[.int .i64 ax, .int .i64 ay, .int .i64 bx, .int .i64 by_] 60)).alloc (.cells #[.int .i64 0, .int .i64 0, .int .i64 0, .int .i64 0] 60)).cell? ⟨w.heap.size, 3, none⟩ = some (.int .i64 by_) := by go_simp
  have r00 : ((w.alloc (.cells #[.int .i64 ax, .int .i64 ay, .int .i64 bx, .int .i64 by_] 60)).alloc (.cells #[.int .i64 0, .int .i64 0, .int .i64 0, .int .i64 0] 60)).cell? ⟨w.heap.size + 1, 0, none⟩ = some (.int .i64 0) := by go_simp
  have r10 : ((w.alloc (.cells #[.int .i64 ax, .int .i64 ay, .int .i64 bx, .int .i64 by_] 60)).alloc (.cells #[.int .i64 0, .int .i64 0, .int .i64 0, .int .i64 0] 60)).cell? ⟨w.heap.size + 1, 1, none⟩ = some (.int .i64 0) := by go_simp
  have r20 : ((w.alloc (.cells #[.int .i64 ax, .int .i64 ay, .int .i64 bx, .int .i64 by_] 60)).alloc (.cells #[.int .i64 0, .int .i64 0, .int .i64 0, .int .i64 0] 60)).cell? ⟨w.heap.size + 1, 2, none⟩ = some (.int .i64 0) := by go_simp
  have r30 : ((w.alloc (.cells #[.int .i64 ax, .int .i64 ay, .int .i64 bx, .int .i64 by_] 60)).alloc (.cells #[.int .i64 0, .int .i64 0, .int .i64 0, .int .i64 0] 60)).cell? ⟨w.heap.size + 1, 3, none⟩ = some (.int .i64 0) := by go_simp
  have fr0 : ∀ o, ((w.alloc (.cells #[.int .i64 ax, .int .i64 ay, .int .i64 bx, .int .i64 by_] 60)).alloc (.cells #[.int .i64 0, .int .i64 0, .int .i64 0, .int .i64 0] 60)).frozen? ⟨w.heap.size + 1, o, none⟩ = false := fun o => by go_simp
  go_enter Tryd.func47, Tryd.ntmps47
  go_wp2_with fail
  go_region_held3 (fun w' => w'.cell? ⟨w.heap.size, 0, none⟩ = some (.int .i64 ax) ∧ w'.cell? ⟨w.heap.size, 1, none⟩ = some (.int .i64 ay) ∧ w'.cell? ⟨w.heap.size, 2, none⟩ = some (.int .i64 bx) ∧ w'.cell? ⟨w.heap.size, 3, none⟩ = some (.int .i64 by_))
    (first | go_keep | trivial)
    (first
      | (go_at_call_of 63 (Value.agg #[Value.int .i64 ax, Value.int .i64 ay]); refine (HMA.out _).mono ?_; rintro e w1 ⟨rfl, hb1⟩; have c01 : w1.cell? ⟨w.heap.size, 0, none⟩ = some (.int .i64 ax) := (by first | exact cell_kept c00 hb1 | exact cell_after c00 hb1); have c11 : w1.cell? ⟨w.heap.size, 1, none⟩ = some (.int .i64 ay) := (by first | exact cell_kept c10 hb1 | exact cell_after c10 hb1); have c21 : w1.cell? ⟨w.heap.size, 2, none⟩ = some (.int .i64 bx) := (by first | exact cell_kept c20 hb1 | exact cell_after c20 hb1); have c31 : w1.cell? ⟨w.heap.size, 3, none⟩ = some (.int .i64 by_) := (by first | exact cell_kept c30 hb1 | exact cell_after c30 hb1); have r01 : w1.cell? ⟨w.heap.size + 1, 0, none⟩ = some (.int .i64 0) := (by first | exact cell_kept r00 hb1 | exact cell_after r00 hb1); have r11 : w1.cell? ⟨w.heap.size + 1, 1, none⟩ = some (.int .i64 0) := (by first | exact cell_kept r10 hb1 | exact cell_after r10 hb1); have r21 : w1.cell? ⟨w.heap.size + 1, 2, none⟩ = some (.int .i64 0) := (by first | exact cell_kept r20 hb1 | exact cell_after r20 hb1); have r31 : w1.cell? ⟨w.heap.size + 1, 3, none⟩ = some (.int .i64 0) := (by first | exact cell_kept r30 hb1 | exact cell_after r30 hb1); have fr1 : ∀ o, w1.frozen? ⟨w.heap.size + 1, o, none⟩ = false := fun o => (by first | exact frozen_kept (fr0 o) r00 hb1 | exact frozen_after (fr0 o) r00 hb1); have HB1 : RowKit.Hid (Below w.heap.size w w1) := Lib.hid (by first | exact HB0.out.trans (hb1.mono HB0.out.size) | exact below_after HB0.out hb1); clear hb1)
      | (go_at_call_of 63 (Value.agg #[Value.int .i64 bx, Value.int .i64 by_]); refine (HMB.out _).mono ?_; rintro e w2 ⟨rfl, hb2⟩; have c02 : w2.cell? ⟨w.heap.size, 0, none⟩ = some (.int .i64 ax) := (by first | exact cell_kept c00 hb2 | exact cell_after c00 hb2); have c12 : w2.cell? ⟨w.heap.size, 1, none⟩ = some (.int .i64 ay) := (by first | exact cell_kept c10 hb2 | exact cell_after c10 hb2); have c22 : w2.cell? ⟨w.heap.size, 2, none⟩ = some (.int .i64 bx) := (by first | exact cell_kept c20 hb2 | exact cell_after c20 hb2); have c32 : w2.cell? ⟨w.heap.size, 3, none⟩ = some (.int .i64 by_) := (by first | exact cell_kept c30 hb2 | exact cell_after c30 hb2); have r02 : w2.cell? ⟨w.heap.size + 1, 0, none⟩ = some (.int .i64 0) := (by first | exact cell_kept r00 hb2 | exact cell_after r00 hb2); have r12 : w2.cell? ⟨w.heap.size + 1, 1, none⟩ = some (.int .i64 0) := (by first | exact cell_kept r10 hb2 | exact cell_after r10 hb2); have r22 : w2.cell? ⟨w.heap.size + 1, 2, none⟩ = some (.int .i64 0) := (by first | exact cell_kept r20 hb2 | exact cell_after r20 hb2); have r32 : w2.cell? ⟨w.heap.size + 1, 3, none⟩ = some (.int .i64 0) := (by first | exact cell_kept r30 hb2 | exact cell_after r30 hb2); have fr2 : ∀ o, w2.frozen? ⟨w.heap.size + 1, o, none⟩ = false := fun o => (by first | exact frozen_kept (fr0 o) r00 hb2 | exact frozen_after (fr0 o) r00 hb2); have HB2 : RowKit.Hid (Below w.heap.size w w2) := Lib.hid (by first | exact HB0.out.trans (hb2.mono HB0.out.size) | exact below_after HB0.out hb2); clear hb2)
      | (go_at_call_of 63 (Value.agg #[Value.int .i64 bx, Value.int .i64 by_]); refine (HMB.out _).mono ?_; rintro e w3 ⟨rfl, hb3⟩; have c03 : w3.cell? ⟨w.heap.size, 0, none⟩ = some (.int .i64 ax) := (by first | exact cell_kept c01 hb3 | exact cell_after c01 hb3); have c13 : w3.cell? ⟨w.heap.size, 1, none⟩ = some (.int .i64 ay) := (by first | exact cell_kept c11 hb3 | exact cell_after c11 hb3); have c23 : w3.cell? ⟨w.heap.size, 2, none⟩ = some (.int .i64 bx) := (by first | exact cell_kept c21 hb3 | exact cell_after c21 hb3); have c33 : w3.cell? ⟨w.heap.size, 3, none⟩ = some (.int .i64 by_) := (by first | exact cell_kept c31 hb3 | exact cell_after c31 hb3); have r03 : w3.cell? ⟨w.heap.size + 1, 0, none⟩ = some (.int .i64 0) := (by first | exact cell_kept r01 hb3 | exact cell_after r01 hb3); have r13 : w3.cell? ⟨w.heap.size + 1, 1, none⟩ = some (.int .i64 0) := (by first | exact cell_kept r11 hb3 | exact cell_after r11 hb3); have r23 : w3.cell? ⟨w.heap.size + 1, 2, none⟩ = some (.int .i64 0) := (by first | exact cell_kept r21 hb3 | exact cell_after r21 hb3); have r33 : w3.cell? ⟨w.heap.size + 1, 3, none⟩ = some (.int .i64 0) := (by first | exact cell_kept r31 hb3 | exact cell_after r31 hb3); have fr3 : ∀ o, w3.frozen? ⟨w.heap.size + 1, o, none⟩ = false := fun o => (by first | exact frozen_kept (fr1 o) r01 hb3 | exact frozen_after (fr1 o) r01 hb3); have HB3 : RowKit.Hid (Below w.heap.size w w3) := Lib.hid (by first | exact HB1.out.trans (hb3.mono HB1.out.size) | exact below_after HB1.out hb3); clear hb3)
      | (go_at_call_of 63 (Value.agg #[Value.int .i64 ax, Value.int .i64 ay]); refine (HMA.out _).mono ?_; rintro e w3 ⟨rfl, hb3⟩; have c03 : w3.cell? ⟨w.heap.size, 0, none⟩ = some (.int .i64 ax) := (by first | exact cell_kept c02 hb3 | exact cell_after c02 hb3); have c13 : w3.cell? ⟨w.heap.size, 1, none⟩ = some (.int .i64 ay) := (by first | exact cell_kept c12 hb3 | exact cell_after c12 hb3); have c23 : w3.cell? ⟨w.heap.size, 2, none⟩ = some (.int .i64 bx) := (by first | exact cell_kept c22 hb3 | exact cell_after c22 hb3); have c33 : w3.cell? ⟨w.heap.size, 3, none⟩ = some (.int .i64 by_) := (by first | exact cell_kept c32 hb3 | exact cell_after c32 hb3); have r03 : w3.cell? ⟨w.heap.size + 1, 0, none⟩ = some (.int .i64 0) := (by first | exact cell_kept r02 hb3 | exact cell_after r02 hb3); have r13 : w3.cell? ⟨w.heap.size + 1, 1, none⟩ = some (.int .i64 0) := (by first | exact cell_kept r12 hb3 | exact cell_after r12 hb3); have r23 : w3.cell? ⟨w.heap.size + 1, 2, none⟩ = some (.int .i64 0) := (by first | exact cell_kept r22 hb3 | exact cell_after r22 hb3); have r33 : w3.cell? ⟨w.heap.size + 1, 3, none⟩ = some (.int .i64 0) := (by first | exact cell_kept r32 hb3 | exact cell_after r32 hb3); have fr3 : ∀ o, w3.frozen? ⟨w.heap.size + 1, o, none⟩ = false := fun o => (by first | exact frozen_kept (fr2 o) r02 hb3 | exact frozen_after (fr2 o) r02 hb3); have HB3 : RowKit.Hid (Below w.heap.size w w3) := Lib.hid (by first | exact HB2.out.trans (hb3.mono HB2.out.size) | exact below_after HB2.out hb3); clear hb3))
  all_goals
    go_wp2_with fail
    refine bodyPost_ret (v := .agg #[.int .i64 A, .int .i64 ay, .int .i64 B, .int .i64 by_]) (by simp [results, Tryd.results47, go_sem, r03, r13, r23, r33]) rfl ⟨rfl, ?_⟩
    repeat refine Below.setCell ?_ (by simp <;> omega) _
    exact HB3.out



end Go.Proofs.YtggkodhfhhjihaaDoor
