/- The draw of a condition and of three conditions. -/
import Derived.Test.YtibcalpkmjjilaaDrawC
import Derived.Deep.RegionHeld3
import Derived.Deep.Cut
import Derived.Deep.CutRange
import Derived.Test.YtibcalpkmjjilaaGCond
import Derived.Test.YtibcalpkmjjilaaGThree
namespace Go.Proofs.Ytibcalpkmjjilaa
set_option maxRecDepth 100000
open Go.ChangeShapes Go.WideShapes Go.ChangeAt Go.RowKit

theorem alloc_b (w : World) (o : Obj) : Below w.heap.size w (w.alloc o) := (Below.refl w.heap.size w).alloc (Nat.le_refl _) o
theorem dcell {w w' : World} {b o : Nat} {v : Value} (h : w.cell? ⟨b, o, none⟩ = some v) (k : Below w.heap.size w w') : w'.cell? ⟨b, o, none⟩ = some v := (k.cell (p := ⟨b, o, none⟩) (cell_block_lt h)).trans h
/-- A valid condition was drawn; the cursor is as good as before; nothing else that was there was written. -/
def DrawnRow (bc : Nat) (a : Option Addr) (n cap : Nat) (w : World) (e : Ending) (w' : World) : Prop :=
  ∃ x y z u : Int, okR (x, y, z, u) = true ∧ e = .returned (.agg #[.int .i64 x, .int .i64 y, .int .i64 z, .int .i64 u]) ∧ CurOk w' bc a n cap ∧ w.grownBy w' (some bc)

set_option maxHeartbeats 1000000 in
theorem row_any (w : World) (bc : Nat) (a : Option Addr) (n cap : Nat) (hc : CurOk w bc a n cap) :
    Calls Try.prog 36 #[.pointer (some ⟨bc, 0, none⟩)] w (DrawnRow bc a n cap w) := by
  have hlt := hc.lt
  have hcode := hc.code_lt
  go_enter Try.func36, Try.ntmps36
  go_wp2_with fail
  refine (below_any _ _ _ _ _ _ (by omega) (hc.alloc _)).mono ?_
  rintro e w1 ⟨x, ⟨hx0, hx1, -⟩, rfl, hc1, hg1⟩
  have hx2 := hx1 (by omega)
  clear hx1 hc
  go_wp2_with fail
  refine (below_any _ _ _ _ _ _ (by omega) hc1).mono ?_
  rintro e w2 ⟨y, ⟨hy0, hy1, -⟩, rfl, hc2, hg2⟩
  have hy2 := hy1 (by omega)
  clear hy1 hc1
  go_wp2_with fail
  refine (below_any _ _ _ _ _ _ (by omega) hc2).mono ?_
  rintro e w3 ⟨z, ⟨hz0, hz1, -⟩, rfl, hc3, hg3⟩
  have hz2 := hz1 (by omega)
  clear hz1 hc2
  go_wp2_with fail
  refine (below_any _ _ _ _ _ _ (by omega) hc3).mono ?_
  rintro e w4 ⟨u, ⟨hu0, hu1, -⟩, rfl, hc4, hg4⟩
  have hu2 := hu1 (by omega)
  clear hu1 hc3
  have e0 : IntKind.i64.wrap (x - 10) = x - 10 := IntWalk.i64_in _ (by omega)
  have e1 : IntKind.i64.wrap (y - 10) = y - 10 := IntWalk.i64_in _ (by omega)
  have e2 : IntKind.i64.wrap (z - 1) = z - 1 := IntWalk.i64_in _ (by omega)
  have e3 : IntKind.i64.wrap (u - 2000) = u - 2000 := IntWalk.i64_in _ (by omega)
  have HS := Lib.hid (show okR (x - 10, y - 10, z - 1, u - 2000) = true from okR_iff.2 ⟨by dsimp only; omega, by dsimp only; omega, by dsimp only; omega, by dsimp only; omega⟩)
  have G := grown_trans hg1 (grown_trans hg2 (grown_trans hg3 hg4))
  have hl4 : w.heap.size < w4.heap.size := by have := G.size; simp at this; omega
  have hce : ∀ o, w4.cell? ⟨w.heap.size, o, none⟩ = (w.alloc (.cells #[.int .i64 0, .int .i64 0, .int .i64 0, .int .i64 0] 25)).cell? ⟨w.heap.size, o, none⟩ := fun o => World.cell?_of_block (G.block w.heap.size (by simp) (by simp; omega))
  have hfe : ∀ o, w4.frozen? ⟨w.heap.size, o, none⟩ = (w.alloc (.cells #[.int .i64 0, .int .i64 0, .int .i64 0, .int .i64 0] 25)).frozen? ⟨w.heap.size, o, none⟩ := fun o => World.frozen?_of_block (G.block w.heap.size (by simp) (by simp; omega))
  have k0 : w4.cell? ⟨w.heap.size, 0, none⟩ = some (.int .i64 0) := by rw [hce]; go_simp
  have k1 : w4.cell? ⟨w.heap.size, 1, none⟩ = some (.int .i64 0) := by rw [hce]; go_simp
  have k2 : w4.cell? ⟨w.heap.size, 2, none⟩ = some (.int .i64 0) := by rw [hce]; go_simp
  have k3 : w4.cell? ⟨w.heap.size, 3, none⟩ = some (.int .i64 0) := by rw [hce]; go_simp
  have kf : ∀ o, w4.frozen? ⟨w.heap.size, o, none⟩ = false := fun o => by rw [hfe]; go_simp
  have HG := Lib.hid G
  have HC := Lib.hid hc4
  clear hce hfe G hc4 hg1 hg2 hg3 hg4 hx0 hx2 hy0 hy2 hz0 hz2 hu0 hu2
  go_wp2_with fail
  refine World.any (p := fun W => bodyPost _ _ (DrawnRow bc a n cap w) _ _ W) (fun Z hW => ?_)
  have z0 : Z.cell? ⟨w.heap.size, 0, none⟩ = some (.int .i64 (x - 10)) := by subst hW; go_simp
  have z1 : Z.cell? ⟨w.heap.size, 1, none⟩ = some (.int .i64 (y - 10)) := by subst hW; go_simp
  have z2 : Z.cell? ⟨w.heap.size, 2, none⟩ = some (.int .i64 (z - 1)) := by subst hW; go_simp
  have z3 : Z.cell? ⟨w.heap.size, 3, none⟩ = some (.int .i64 (u - 2000)) := by subst hW; go_simp
  have hend : CurOk Z bc a n cap ∧ w.grownBy Z (some bc) := by
    subst hW
    have G2 : w.grownBy w4 (some bc) := grown_trans (World.grownBy_alloc w _ (some bc)) HG.out
    have G3 := grown_set (grown_set (grown_set (grown_setCell w4 w.heap.size 0 (.int .i64 (x - 10))) 1 (.int .i64 (y - 10))) 2 (.int .i64 (z - 1))) 3 (.int .i64 (u - 2000))
    exact ⟨HC.out.kept_new G3 (B := w.heap.size) (fun k hk => by cases hk; exact Nat.le_refl _) hlt hcode, grown_new G2 G3 (fun k hk => by cases hk; exact Nat.le_refl _)⟩
  refine bodyPost_ret (v := .agg #[.int .i64 (x - 10), .int .i64 (y - 10), .int .i64 (z - 1), .int .i64 (u - 2000)]) (by simp [results, Try.results36, go_sem, z0, z1, z2, z3]) rfl ⟨x - 10, y - 10, z - 1, u - 2000, HS.out, rfl, hend.1, hend.2⟩

/-- Three valid conditions were drawn; of what was there nothing has turned. -/
def ThreeRw (w : World) (e : Ending) (w' : World) : Prop :=
  ∃ a1 b1 c1 d1 a2 b2 c2 d2 a3 b3 c3 d3 : Int, okR (a1, b1, c1, d1) = true ∧ okR (a2, b2, c2, d2) = true ∧ okR (a3, b3, c3, d3) = true ∧ e = .returned (.tuple #[.agg #[.int .i64 a1, .int .i64 b1, .int .i64 c1, .int .i64 d1], .agg #[.int .i64 a2, .int .i64 b2, .int .i64 c2, .int .i64 d2], .agg #[.int .i64 a3, .int .i64 b3, .int .i64 c3, .int .i64 d3]]) ∧ Below w.heap.size w w'

set_option maxHeartbeats 2000000 in
theorem drawRows (w : World) (a : Option Addr) (n cap : Nat) (zs : List Int) (hr : IsCode w a n cap zs) :
    Calls Try.prog 7 #[.slice a n cap] w (ThreeRw w) := by
  have hbb := ((Below.refl w.heap.size w).alloc (by simp <;> omega) (.cells #[.int .i64 0, .int .i64 0, .int .i64 0, .int .i64 0] 25) |>.alloc (by simp <;> omega) (.cells #[.int .i64 0, .int .i64 0, .int .i64 0, .int .i64 0] 25) |>.alloc (by simp <;> omega) (.cells #[.int .i64 0, .int .i64 0, .int .i64 0, .int .i64 0] 25))
  have HW0 := Lib.hid hbb
  have hr3 : IsCode (((w.alloc (.cells #[.int .i64 0, .int .i64 0, .int .i64 0, .int .i64 0] 25)).alloc (.cells #[.int .i64 0, .int .i64 0, .int .i64 0, .int .i64 0] 25)).alloc (.cells #[.int .i64 0, .int .i64 0, .int .i64 0, .int .i64 0] 25)) a n cap zs := hr.below hbb
  clear hr hbb
  go_enter Try.func7, Try.ntmps7
  go_wp2_with fail
  refine (new_any _ _ _ _ zs hr3).mono ?_
  rintro e w1 ⟨rfl, hc1, hb1, hz1⟩
  clear hr3
  simp only [World.size_alloc] at hc1 hb1 hz1
  have HB1 := Lib.hid hb1
  have hl1 : w.heap.size + 1 + 1 + 1 < w1.heap.size := by omega
  clear hz1 hb1
  go_wp2_with fail
  refine (row_any _ _ _ _ _ hc1).mono ?_
  rintro e w2 ⟨a1, b1, c1, d1, ra, rfl, hc2, hg2⟩
  have hl2 := hg2.size
  have HRA := Lib.hid ra
  clear hc1 ra
  have hc3 := hc2.alloc (.cells #[.int .i64 a1, .int .i64 b1, .int .i64 c1, .int .i64 d1] 25)
  have HG2 := Lib.hid (grown_trans hg2 (World.grownBy_alloc _ (.cells #[.int .i64 a1, .int .i64 b1, .int .i64 c1, .int .i64 d1] 25) _))
  have p0 : (w2.alloc (.cells #[.int .i64 a1, .int .i64 b1, .int .i64 c1, .int .i64 d1] 25)).cell? ⟨w2.heap.size, 0, none⟩ = some (.int .i64 a1) := by go_simp
  have p1 : (w2.alloc (.cells #[.int .i64 a1, .int .i64 b1, .int .i64 c1, .int .i64 d1] 25)).cell? ⟨w2.heap.size, 1, none⟩ = some (.int .i64 b1) := by go_simp
  have p2 : (w2.alloc (.cells #[.int .i64 a1, .int .i64 b1, .int .i64 c1, .int .i64 d1] 25)).cell? ⟨w2.heap.size, 2, none⟩ = some (.int .i64 c1) := by go_simp
  have p3 : (w2.alloc (.cells #[.int .i64 a1, .int .i64 b1, .int .i64 c1, .int .i64 d1] 25)).cell? ⟨w2.heap.size, 3, none⟩ = some (.int .i64 d1) := by go_simp
  clear hg2 hc2
  go_wp2_with fail
  refine (row_any _ _ _ _ _ hc3).mono ?_
  rintro e w3 ⟨a2, b2, c2, d2, rb, rfl, hc4, hg4⟩
  have hl3 := hg4.size
  rw [World.size_alloc] at hl3
  have HRB := Lib.hid rb
  clear hc3 rb
  have p0 := hg4.cell (a := ⟨w2.heap.size, 0, none⟩) (v := .int .i64 a1) p0 (by simp; omega)
  have p1 := hg4.cell (a := ⟨w2.heap.size, 1, none⟩) (v := .int .i64 b1) p1 (by simp; omega)
  have p2 := hg4.cell (a := ⟨w2.heap.size, 2, none⟩) (v := .int .i64 c1) p2 (by simp; omega)
  have p3 := hg4.cell (a := ⟨w2.heap.size, 3, none⟩) (v := .int .i64 d1) p3 (by simp; omega)
  have hal := alloc_b w3 (.cells #[.int .i64 a2, .int .i64 b2, .int .i64 c2, .int .i64 d2] 25)
  have p0 := dcell p0 hal
  have p1 := dcell p1 hal
  have p2 := dcell p2 hal
  have p3 := dcell p3 hal
  have q0 : (w3.alloc (.cells #[.int .i64 a2, .int .i64 b2, .int .i64 c2, .int .i64 d2] 25)).cell? ⟨w3.heap.size, 0, none⟩ = some (.int .i64 a2) := by go_simp
  have q1 : (w3.alloc (.cells #[.int .i64 a2, .int .i64 b2, .int .i64 c2, .int .i64 d2] 25)).cell? ⟨w3.heap.size, 1, none⟩ = some (.int .i64 b2) := by go_simp
  have q2 : (w3.alloc (.cells #[.int .i64 a2, .int .i64 b2, .int .i64 c2, .int .i64 d2] 25)).cell? ⟨w3.heap.size, 2, none⟩ = some (.int .i64 c2) := by go_simp
  have q3 : (w3.alloc (.cells #[.int .i64 a2, .int .i64 b2, .int .i64 c2, .int .i64 d2] 25)).cell? ⟨w3.heap.size, 3, none⟩ = some (.int .i64 d2) := by go_simp
  have hc5 := hc4.alloc (.cells #[.int .i64 a2, .int .i64 b2, .int .i64 c2, .int .i64 d2] 25)
  have HG4 := Lib.hid (grown_trans HG2.out (grown_trans hg4 (World.grownBy_alloc _ (.cells #[.int .i64 a2, .int .i64 b2, .int .i64 c2, .int .i64 d2] 25) _)))
  clear hg4 hc4 hal
  go_upto_region 4 with (fail)
  generalize hW : w3.alloc (.cells #[.int .i64 a2, .int .i64 b2, .int .i64 c2, .int .i64 d2] 25) = W at *
  have hzW : W.heap.size = w3.heap.size + 1 := by rw [← hW]; simp
  clear hW
  go_region_held3 (fun w' => w'.cell? ⟨w2.heap.size, 0, none⟩ = some (.int .i64 a1) ∧ w'.cell? ⟨w2.heap.size, 1, none⟩ = some (.int .i64 b1) ∧ w'.cell? ⟨w2.heap.size, 2, none⟩ = some (.int .i64 c1) ∧ w'.cell? ⟨w2.heap.size, 3, none⟩ = some (.int .i64 d1) ∧ w'.cell? ⟨w3.heap.size, 0, none⟩ = some (.int .i64 a2) ∧ w'.cell? ⟨w3.heap.size, 1, none⟩ = some (.int .i64 b2) ∧ w'.cell? ⟨w3.heap.size, 2, none⟩ = some (.int .i64 c2) ∧ w'.cell? ⟨w3.heap.size, 3, none⟩ = some (.int .i64 d2))
    (first | go_keep | trivial)
    (first | (go_at_call 36
              refine (row_any _ _ _ _ _ (by first | exact hc5 | exact CurOk.drewN hc5 1)).mono ?_
              rintro e w5 ⟨a3, b3, c3, d3, rc, rfl, hc6, hg6⟩
              have G6 : w1.grownBy w5 (some (w.heap.size + 1 + 1 + 1)) := grown_trans HG4.out ⟨hg6.os, hg6.tape, hg6.output, hg6.size, hg6.block⟩
              have hz6 : W.heap.size ≤ w5.heap.size := hg6.size
              obtain ⟨kcA, kfA⟩ := kept_block HB1.out G6 (by omega) w.heap.size (by omega) (by omega)
              obtain ⟨kcB, kfB⟩ := kept_block HB1.out G6 (by omega) (w.heap.size + 1) (by omega) (by omega)
              obtain ⟨kcC, kfC⟩ := kept_block HB1.out G6 (by omega) (w.heap.size + 1 + 1) (by omega) (by omega)
              have HG6 := Lib.hid G6
              have HRC := Lib.hid rc
              have m00 := Nat.ne_of_lt (show w.heap.size < w2.heap.size by omega)
              have n00 := Ne.symm m00
              have m01 := Nat.ne_of_lt (show w.heap.size < w3.heap.size by omega)
              have n01 := Ne.symm m01
              have m10 := Nat.ne_of_lt (show w.heap.size + 1 < w2.heap.size by omega)
              have n10 := Ne.symm m10
              have m11 := Nat.ne_of_lt (show w.heap.size + 1 < w3.heap.size by omega)
              have n11 := Ne.symm m11
              have m20 := Nat.ne_of_lt (show w.heap.size + 1 + 1 < w2.heap.size by omega)
              have n20 := Ne.symm m20
              have m21 := Nat.ne_of_lt (show w.heap.size + 1 + 1 < w3.heap.size by omega)
              have n21 := Ne.symm m21
              have p0 := hg6.cell (a := ⟨w2.heap.size, 0, none⟩) (v := .int .i64 a1) p0 (by simp; omega)
              have p1 := hg6.cell (a := ⟨w2.heap.size, 1, none⟩) (v := .int .i64 b1) p1 (by simp; omega)
              have p2 := hg6.cell (a := ⟨w2.heap.size, 2, none⟩) (v := .int .i64 c1) p2 (by simp; omega)
              have p3 := hg6.cell (a := ⟨w2.heap.size, 3, none⟩) (v := .int .i64 d1) p3 (by simp; omega)
              have q0 := hg6.cell (a := ⟨w3.heap.size, 0, none⟩) (v := .int .i64 a2) q0 (by simp; omega)
              have q1 := hg6.cell (a := ⟨w3.heap.size, 1, none⟩) (v := .int .i64 b2) q1 (by simp; omega)
              have q2 := hg6.cell (a := ⟨w3.heap.size, 2, none⟩) (v := .int .i64 c2) q2 (by simp; omega)
              have q3 := hg6.cell (a := ⟨w3.heap.size, 3, none⟩) (v := .int .i64 d2) q3 (by simp; omega)
              have r00 : w5.cell? ⟨w.heap.size, 0, none⟩ = some (.int .i64 0) := by rw [kcA]; go_simp
              have r01 : w5.cell? ⟨w.heap.size, 1, none⟩ = some (.int .i64 0) := by rw [kcA]; go_simp
              have r02 : w5.cell? ⟨w.heap.size, 2, none⟩ = some (.int .i64 0) := by rw [kcA]; go_simp
              have r03 : w5.cell? ⟨w.heap.size, 3, none⟩ = some (.int .i64 0) := by rw [kcA]; go_simp
              have r10 : w5.cell? ⟨w.heap.size + 1, 0, none⟩ = some (.int .i64 0) := by rw [kcB]; go_simp
              have r11 : w5.cell? ⟨w.heap.size + 1, 1, none⟩ = some (.int .i64 0) := by rw [kcB]; go_simp
              have r12 : w5.cell? ⟨w.heap.size + 1, 2, none⟩ = some (.int .i64 0) := by rw [kcB]; go_simp
              have r13 : w5.cell? ⟨w.heap.size + 1, 3, none⟩ = some (.int .i64 0) := by rw [kcB]; go_simp
              have r20 : w5.cell? ⟨w.heap.size + 1 + 1, 0, none⟩ = some (.int .i64 0) := by rw [kcC]; go_simp
              have r21 : w5.cell? ⟨w.heap.size + 1 + 1, 1, none⟩ = some (.int .i64 0) := by rw [kcC]; go_simp
              have r22 : w5.cell? ⟨w.heap.size + 1 + 1, 2, none⟩ = some (.int .i64 0) := by rw [kcC]; go_simp
              have r23 : w5.cell? ⟨w.heap.size + 1 + 1, 3, none⟩ = some (.int .i64 0) := by rw [kcC]; go_simp
              clear hg6 G6 hc6 kcA kcB kcC rc))
  go_wp2_with fail
  refine World.any (p := fun W => bodyPost _ _ (ThreeRw w) _ _ W) (fun Z hW => ?_)
  have z00 : Z.cell? ⟨w.heap.size, 0, none⟩ = some (.int .i64 a1) := by subst hW; go_simp
  have z01 : Z.cell? ⟨w.heap.size, 1, none⟩ = some (.int .i64 b1) := by subst hW; go_simp
  have z02 : Z.cell? ⟨w.heap.size, 2, none⟩ = some (.int .i64 c1) := by subst hW; go_simp
  have z03 : Z.cell? ⟨w.heap.size, 3, none⟩ = some (.int .i64 d1) := by subst hW; go_simp
  have z10 : Z.cell? ⟨w.heap.size + 1, 0, none⟩ = some (.int .i64 a2) := by subst hW; go_simp
  have z11 : Z.cell? ⟨w.heap.size + 1, 1, none⟩ = some (.int .i64 b2) := by subst hW; go_simp
  have z12 : Z.cell? ⟨w.heap.size + 1, 2, none⟩ = some (.int .i64 c2) := by subst hW; go_simp
  have z13 : Z.cell? ⟨w.heap.size + 1, 3, none⟩ = some (.int .i64 d2) := by subst hW; go_simp
  have z20 : Z.cell? ⟨w.heap.size + 1 + 1, 0, none⟩ = some (.int .i64 a3) := by subst hW; go_simp
  have z21 : Z.cell? ⟨w.heap.size + 1 + 1, 1, none⟩ = some (.int .i64 b3) := by subst hW; go_simp
  have z22 : Z.cell? ⟨w.heap.size + 1 + 1, 2, none⟩ = some (.int .i64 c3) := by subst hW; go_simp
  have z23 : Z.cell? ⟨w.heap.size + 1 + 1, 3, none⟩ = some (.int .i64 d3) := by subst hW; go_simp
  have hend : Below w.heap.size w Z := by
    subst hW
    have hw1 := HW0.out.trans (HB1.out.mono (by omega))
    have hw5 := hw1.grown HG6.out (by omega) (fun k hk => by cases hk; omega)
    iterate 12 (with_reducible refine Below.setCell ?_ (by first | exact Nat.le_refl _ | (dsimp only; omega)) _)
    exact hw5
  refine bodyPost_ret (v := .tuple #[.agg #[.int .i64 a1, .int .i64 b1, .int .i64 c1, .int .i64 d1], .agg #[.int .i64 a2, .int .i64 b2, .int .i64 c2, .int .i64 d2], .agg #[.int .i64 a3, .int .i64 b3, .int .i64 c3, .int .i64 d3]]) (by simp [results, Try.results7, go_sem, z00, z01, z02, z03, z10, z11, z12, z13, z20, z21, z22, z23]) rfl ⟨a1, b1, c1, d1, a2, b2, c2, d2, a3, b3, c3, d3, HRA.out, HRB.out, HRC.out, rfl, hend⟩
end Go.Proofs.Ytibcalpkmjjilaa
