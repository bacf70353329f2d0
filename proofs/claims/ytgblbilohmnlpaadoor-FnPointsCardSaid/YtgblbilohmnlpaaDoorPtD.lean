/- The draw of three valid points. -/
import Derived.Test.YtgblbilohmnlpaaDoorDrawC
import Derived.Deep.RegionHeld3
import Derived.Test.YtgblbilohmnlpaaDoorPtP
namespace Go.Proofs.YtgblbilohmnlpaaDoor
open Go.ChangeShapes Go.WideShapes Go.ChangeAt Go.RowKit

/-- A drawn point: X in -5 to 15, Y in -3 to 12. -/
def PtRange (x y : Int) : Prop := -5 ≤ x ∧ x ≤ 15 ∧ -3 ≤ y ∧ y ≤ 12

/-- A point was drawn; the cursor is as good as before; nothing else that was there was written. -/
def DrawnPt (bc : Nat) (a : Option Addr) (n cap : Nat) (w : World) (e : Ending) (w' : World) : Prop :=
  ∃ x y : Int, PtRange x y ∧ e = .returned (.agg #[.int .i64 x, .int .i64 y]) ∧ CurOk w' bc a n cap ∧ w.grownBy w' (some bc)

set_option maxHeartbeats 400000 in
theorem point_any (w : World) (bc : Nat) (a : Option Addr) (n cap : Nat) (hc : CurOk w bc a n cap) :
    Calls Tryd.prog 17 #[.pointer (some ⟨bc, 0, none⟩)] w (DrawnPt bc a n cap w) := by
  have hlt := hc.lt
  have hcode := hc.code_lt
  go_enter Tryd.func17, Tryd.ntmps17
  go_wp2_with fail
  refine (below_any _ _ _ _ _ _ (by omega) (hc.alloc _)).mono ?_
  rintro e w1 ⟨x, ⟨hx0, hx1, -⟩, rfl, hc1, hg1⟩
  have hx2 := hx1 (by omega)
  clear hx1
  go_wp2_with fail
  refine (below_any _ _ _ _ _ _ (by omega) hc1).mono ?_
  rintro e w2 ⟨y, ⟨hy0, hy1, -⟩, rfl, hc2, hg2⟩
  have hy2 := hy1 (by omega)
  clear hy1
  have hg12 := grown_trans hg1 hg2
  have hce : ∀ o, w2.cell? ⟨w.heap.size, o, none⟩ = (w.alloc (.cells #[.int .i64 0, .int .i64 0] 25)).cell? ⟨w.heap.size, o, none⟩ := fun o => World.cell?_of_block (hg12.block w.heap.size (by simp) (by simp; omega))
  have hfe : ∀ o, w2.frozen? ⟨w.heap.size, o, none⟩ = (w.alloc (.cells #[.int .i64 0, .int .i64 0] 25)).frozen? ⟨w.heap.size, o, none⟩ := fun o => World.frozen?_of_block (hg12.block w.heap.size (by simp) (by simp; omega))
  have HG := Lib.hid hg12
  clear hg1 hg2 hg12
  go_wp2_with fail
  refine bodyPost_ret (v := .agg #[.int .i64 (x - 5), .int .i64 (y - 3)]) (by simp [results, Tryd.results17, go_sem, hce]) rfl ⟨x - 5, y - 3, ⟨by omega, by omega, by omega, by omega⟩, rfl, ?_, ?_⟩
  · exact hc2.kept_new (grown_set (grown_setCell _ _ _ _) _ _) (B := w.heap.size) (fun k hk => by cases hk; exact Nat.le_refl _) hlt hcode
  · exact grown_new (grown_trans (World.grownBy_alloc _ _ _) HG.out) (grown_set (grown_setCell _ _ _ _) _ _) (fun k hk => by cases hk; exact Nat.le_refl _)

/-- Three points were drawn; of what was there nothing has turned. -/
def ThreePts (w : World) (e : Ending) (w' : World) : Prop :=
  ∃ ax ay bx by_ cx cy : Int, PtRange ax ay ∧ PtRange bx by_ ∧ PtRange cx cy ∧ e = .returned (.tuple #[.agg #[.int .i64 ax, .int .i64 ay], .agg #[.int .i64 bx, .int .i64 by_], .agg #[.int .i64 cx, .int .i64 cy]]) ∧ Below w.heap.size w w'

set_option maxHeartbeats 400000 in
theorem drawPoints (w : World) (a : Option Addr) (n cap : Nat) (zs : List Int) (hr : IsCode w a n cap zs) :
    Calls Tryd.prog 6 #[.slice a n cap] w (ThreePts w) := by
  have hr3 : IsCode (((w.alloc (.cells #[.int .i64 0, .int .i64 0] 25)).alloc (.cells #[.int .i64 0, .int .i64 0] 25)).alloc (.cells #[.int .i64 0, .int .i64 0] 25)) a n cap zs := hr.below (((Below.refl _ _).alloc (by simp <;> omega) (.cells #[.int .i64 0, .int .i64 0] 25) |>.alloc (by simp <;> omega) (.cells #[.int .i64 0, .int .i64 0] 25) |>.alloc (by simp <;> omega) (.cells #[.int .i64 0, .int .i64 0] 25)))
  clear hr
  go_enter Tryd.func6, Tryd.ntmps6
  go_wp2_with fail
  refine (new_any _ _ _ _ zs hr3).mono ?_
  rintro e w1 ⟨rfl, hc1, hb1, hz1⟩
  clear hr3
  simp only [World.size_alloc] at hc1 hb1 hz1
  have HZ1 := Lib.hid hz1
  have HB1 := Lib.hid hb1
  have hl1 : w.heap.size + 1 + 1 + 1 < w1.heap.size := by omega
  clear hz1 hb1
  go_wp2_with fail
  refine (point_any _ _ _ _ _ hc1).mono ?_
  rintro e w2 ⟨ax, ay, ra, rfl, hc2, hg2⟩
  have hl2 := hg2.size
  clear hc1
  go_wp2_with fail
  refine (point_any _ _ _ _ _ (hc2.alloc _)).mono ?_
  rintro e w3 ⟨bx, by_, rb, rfl, hc3, hg3⟩
  have hl3 := hg3.size
  simp only [World.size_alloc] at hl3
  clear hc2
  have hA : ∀ o, w3.cell? ⟨w2.heap.size, o, none⟩ = (w2.alloc (.cells #[.int .i64 ax, .int .i64 ay] 25)).cell? ⟨w2.heap.size, o, none⟩ := fun o => World.cell?_of_block (hg3.block w2.heap.size (by simp) (by simp; omega))
  have hA0 : w3.cell? ⟨w2.heap.size, 0, none⟩ = some (.int .i64 ax) := by rw [hA]; go_simp
  have hA1 : w3.cell? ⟨w2.heap.size, 1, none⟩ = some (.int .i64 ay) := by rw [hA]; go_simp
  have hn1 := Nat.ne_of_lt (show w2.heap.size < w3.heap.size by omega)
  clear hA
  go_wp2_with fail
  have p0 : (w3.alloc (.cells #[.int .i64 bx, .int .i64 by_] 25)).cell? ⟨w2.heap.size, 0, none⟩ = some (.int .i64 ax) := by rw [World.cell?_alloc_lt _ _ _ (by simp; omega)]; exact hA0
  have p1 : (w3.alloc (.cells #[.int .i64 bx, .int .i64 by_] 25)).cell? ⟨w2.heap.size, 1, none⟩ = some (.int .i64 ay) := by rw [World.cell?_alloc_lt _ _ _ (by simp; omega)]; exact hA1
  have p2 : (w3.alloc (.cells #[.int .i64 bx, .int .i64 by_] 25)).cell? ⟨w3.heap.size, 0, none⟩ = some (.int .i64 bx) := by go_simp
  have p3 : (w3.alloc (.cells #[.int .i64 bx, .int .i64 by_] 25)).cell? ⟨w3.heap.size, 1, none⟩ = some (.int .i64 by_) := by go_simp
  have hc4 := (hc3.alloc (.cells #[.int .i64 bx, .int .i64 by_] 25))
  have HG := Lib.hid (grown_trans hg2 (grown_trans (World.grownBy_alloc _ _ _) (grown_trans hg3 (World.grownBy_alloc _ (.cells #[.int .i64 bx, .int .i64 by_] 25) _))))
  clear hg2 hg3
  go_region_held3 (fun w' => w'.cell? ⟨w2.heap.size, 0, none⟩ = some (.int .i64 ax) ∧ w'.cell? ⟨w2.heap.size, 1, none⟩ = some (.int .i64 ay) ∧ w'.cell? ⟨w3.heap.size, 0, none⟩ = some (.int .i64 bx) ∧ w'.cell? ⟨w3.heap.size, 1, none⟩ = some (.int .i64 by_))
    (first | go_keep | trivial)
    (first | (go_at_call 17
              refine (point_any _ _ _ _ _ (CurOk.drewN hc4 1)).mono ?_
              rintro e w4 ⟨cx, cy, rc, rfl, hc5, hg5⟩
              have G5 := grown_trans (grown_drew HG.out) hg5
              obtain ⟨kc0, kf0⟩ := kept_block HB1.out G5 (by omega) w.heap.size (by omega) (by omega)
              obtain ⟨kc1, kf1⟩ := kept_block HB1.out G5 (by omega) (w.heap.size + 1) (by omega) (by omega)
              obtain ⟨kc2, kf2⟩ := kept_block HB1.out G5 (by omega) (w.heap.size + 1 + 1) (by omega) (by omega)
              have HG5 := Lib.hid G5
              have hm2 := Nat.ne_of_lt (show w.heap.size < w2.heap.size by omega)
              have hm3 := Nat.ne_of_lt (show w.heap.size < w3.heap.size by omega)
              have hm4 := Nat.ne_of_lt (show w.heap.size + 1 < w2.heap.size by omega)
              have hm5 := Nat.ne_of_lt (show w.heap.size + 1 < w3.heap.size by omega)
              have hm6 := Nat.ne_of_lt (show w.heap.size + 1 + 1 < w2.heap.size by omega)
              have hm7 := Nat.ne_of_lt (show w.heap.size + 1 + 1 < w3.heap.size by omega)
              have q0 := hg5.cell (a := ⟨w2.heap.size, 0, none⟩) (v := .int .i64 ax) p0 (by simp; omega)
              have q1 := hg5.cell (a := ⟨w2.heap.size, 1, none⟩) (v := .int .i64 ay) p1 (by simp; omega)
              have q2 := hg5.cell (a := ⟨w3.heap.size, 0, none⟩) (v := .int .i64 bx) p2 (by simp; omega)
              have q3 := hg5.cell (a := ⟨w3.heap.size, 1, none⟩) (v := .int .i64 by_) p3 (by simp; omega)
              have c00 : w4.cell? ⟨w.heap.size, 0, none⟩ = some (.int .i64 0) := by rw [kc0]; go_simp
              have c01 : w4.cell? ⟨w.heap.size, 1, none⟩ = some (.int .i64 0) := by rw [kc0]; go_simp
              have c10 : w4.cell? ⟨w.heap.size + 1, 0, none⟩ = some (.int .i64 0) := by rw [kc1]; go_simp
              have c11 : w4.cell? ⟨w.heap.size + 1, 1, none⟩ = some (.int .i64 0) := by rw [kc1]; go_simp
              have c20 : w4.cell? ⟨w.heap.size + 1 + 1, 0, none⟩ = some (.int .i64 0) := by rw [kc2]; go_simp
              have c21 : w4.cell? ⟨w.heap.size + 1 + 1, 1, none⟩ = some (.int .i64 0) := by rw [kc2]; go_simp
              clear hg5 G5 hc5 kc0 kc1 kc2))
  go_wp2_with fail
  refine bodyPost_ret (v := .tuple #[.agg #[.int .i64 ax, .int .i64 ay], .agg #[.int .i64 bx, .int .i64 by_], .agg #[.int .i64 cx, .int .i64 cy]]) (by simp [results, Tryd.results6, go_sem, c00, c01, c10, c11, c20, c21]) rfl ⟨ax, ay, bx, by_, cx, cy, ra, rb, rc, rfl, ?_⟩
  have hw1 := ((Below.refl w.heap.size w).alloc (by simp <;> omega) (.cells #[.int .i64 0, .int .i64 0] 25) |>.alloc (by simp <;> omega) (.cells #[.int .i64 0, .int .i64 0] 25) |>.alloc (by simp <;> omega) (.cells #[.int .i64 0, .int .i64 0] 25)).trans (HB1.out.mono (by omega))
  have hw4 := hw1.grown HG5.out (by omega) (fun k hk => by cases hk; omega)
  exact (((((hw4.setCell (p := ⟨w.heap.size, 0, none⟩) (Nat.le_refl _) _).setCell (p := ⟨w.heap.size, 1, none⟩) (Nat.le_refl _) _).setCell (p := ⟨w.heap.size + 1, 0, none⟩) (Nat.le_add_right _ _) _).setCell (p := ⟨w.heap.size + 1, 1, none⟩) (Nat.le_add_right _ _) _).setCell (p := ⟨w.heap.size + 1 + 1, 0, none⟩) (by show _ ≤ w.heap.size + 1 + 1; omega) _).setCell (p := ⟨w.heap.size + 1 + 1, 1, none⟩) (by show _ ≤ w.heap.size + 1 + 1; omega) _
end Go.Proofs.YtgblbilohmnlpaaDoor
