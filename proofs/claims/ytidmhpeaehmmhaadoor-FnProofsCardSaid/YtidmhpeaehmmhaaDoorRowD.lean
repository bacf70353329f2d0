/- The draw of a condition and of three conditions. -/
import Derived.Test.YtidmhpeaehmmhaaDoorDrawC
import Derived.Deep.RegionHeld3
import Derived.Deep.Cut
import Derived.Deep.CutRange
import Derived.Test.YtidmhpeaehmmhaaDoorCondC
import Derived.Test.YtidmhpeaehmmhaaDoorThreeP
namespace Go.Proofs.YtidmhpeaehmmhaaDoor
set_option maxRecDepth 100000
open Go.ChangeShapes Go.WideShapes Go.ChangeAt Go.RowKit

theorem alloc_b (w : World) (o : Obj) : Below w.heap.size w (w.alloc o) := (Below.refl w.heap.size w).alloc (Nat.le_refl _) o
theorem dcell {w w' : World} {b o : Nat} {v : Value} (h : w.cell? ⟨b, o, none⟩ = some v) (k : Below w.heap.size w w') : w'.cell? ⟨b, o, none⟩ = some v := (k.cell (p := ⟨b, o, none⟩) (cell_block_lt h)).trans h
/-- A valid condition was drawn; the cursor is as good as before; nothing else that was there was written. -/
def DrawnRow (bc : Nat) (a : Option Addr) (n cap : Nat) (w : World) (e : Ending) (w' : World) : Prop :=
  ∃ x y z u : Int, okR (x, y, z, u) = true ∧ e = .returned (.agg #[.int .i64 x, .int .i64 y, .int .i64 z, .int .i64 u]) ∧ CurOk w' bc a n cap ∧ w.grownBy w' (some bc)

set_option maxHeartbeats 1000000 in
theorem row_any (w : World) (bc : Nat) (a : Option Addr) (n cap : Nat) (hc : CurOk w bc a n cap) :
    Calls Tryd.prog 25 #[.pointer (some ⟨bc, 0, none⟩)] w (DrawnRow bc a n cap w) := by
  have hlt := hc.lt
  have hcode := hc.code_lt
  go_enter Tryd.func25, Tryd.ntmps25
  go_wp2_with fail
  refine (below_any _ _ _ _ _ _ (by omega) (hc.alloc _)).mono ?_
  rintro e w1 ⟨x, ⟨hx0, hx1, -⟩, rfl, hc1, hg1⟩
  have hx2 := hx1 (by omega)
  clear hx1 hc
  go_wp2_with fail
  refine (below_any _ _ _ _ _ _ (by omega) hc1).mono ?_
  rintro e w2 ⟨y, ⟨hy0, hy1, -⟩, rfl, hc2, hg2⟩
  have hy2 := hy1 (by omega)
  clear hy1 hc1
  go_wp2_with fail
  refine (below_any _ _ _ _ _ _ (by omega) hc2).mono ?_
  rintro e w3 ⟨z, ⟨hz0, hz1, -⟩, rfl, hc3, hg3⟩
  have hz2 := hz1 (by omega)
  clear hz1 hc2
  go_wp2_with fail
  refine (below_any _ _ _ _ _ _ (by omega) hc3).mono ?_
  rintro e w4 ⟨u, ⟨hu0, hu1, -⟩, rfl, hc4, hg4⟩
  have hu2 := hu1 (by omega)
  clear hu1 hc3
  have e0 : IntKind.i64.wrap (x - 10) = x - 10 := IntWalk.i64_in _ (by omega)
  have e1 : IntKind.i64.wrap (y - 10) = y - 10 := IntWalk.i64_in _ (by omega)
  have e2 : IntKind.i64.wrap (z - 1) = z - 1 := IntWalk.i64_in _ (by omega)
  have e3 : IntKind.i64.wrap (u - 2000) = u - 2000 := IntWalk.i64_in _ (by omega)
  have HS := Lib.hid (show okR (x - 10, y - 10, z - 1, u - 2000) = true from okR_iff.2 ⟨by dsimp only; omega, by dsimp only; omega, by dsimp only; omega, by dsimp only; omega⟩)
  have G := grown_trans hg1 (grown_trans hg2 (grown_trans hg3 hg4))
  have hl4 : w.heap.size < w4.heap.size := by have := G.size; simp at this; omega
  have hce : ∀ o, w4.cell? ⟨w.heap.size, o, none⟩ = (w.alloc (.cells #[.int .i64 0, .int .i64 0, .int .i64 0, .int .i64 0] 41)).cell? ⟨w.heap.size, o, none⟩ := fun o => World.cell?_of_block (G.block w.heap.size (by simp) (by simp; omega))
  have hfe : ∀ o, w4.frozen? ⟨w.heap.size, o, none⟩ = (w.alloc (.cells #[.int .i64 0, .int .i64 0, .int .i64 0, .int .i64 0] 41)).frozen? ⟨w.heap.size, o, none⟩ := fun o => World.frozen?_of_block (G.block w.heap.size (by simp) (by simp; omega))
  have k0 : w4.cell? ⟨w.heap.size, 0, none⟩ = some (.int .i64 0) := by rw [hce]; go_simp
  have k1 : w4.cell? ⟨w.heap.size, 1, none⟩ = some (.int .i64 0) := by rw [hce]; go_simp
  have k2 : w4.cell? ⟨w.heap.size, 2, none⟩ = some (.int .i64 0) := by rw [hce]; go_simp
  have k3 : w4.cell? ⟨w.heap.size, 3, none⟩ = some (.int .i64 0) := by rw [hce]; go_simp
  have kf : ∀ o, w4.frozen? ⟨w.heap.size, o, none⟩ = false := fun o => by rw [hfe]; go_simp
  have HG := Lib.hid G
  have HC := Lib.hid hc4
  clear hce hfe G hc4 hg1 hg2 hg3 hg4 hx0 hx2 hy0 hy2 hz0 hz2 hu0 hu2
  go_wp2_with fail
  refine World.any (p := fun W => bodyPost _ _ (DrawnRow bc a n cap w) _ _ W) (fun Z hW => ?_)
  have z0 : Z.cell? ⟨w.heap.size, 0, none⟩ = some (.int .i64 (x - 10)) := by subst hW; go_simp
  have z1 : Z.cell? ⟨w.heap.size, 1, none⟩ = some (.int .i64 (y - 10)) := by subst hW; go_simp
  have z2 : Z.cell? ⟨w.heap.size, 2, none⟩ = some (.int .i64 (z - 1)) := by subst hW; go_simp
  have z3 : Z.cell? ⟨w.heap.size, 3, none⟩ = some (.int .i64 (u - 2000)) := by subst hW; go_simp
  have hend : CurOk Z bc a n cap ∧ w.grownBy Z (some bc) := by
    subst hW
    have G2 : w.grownBy w4 (some bc) := grown_trans (World.grownBy_alloc w _ (some bc)) HG.out
    have G3 := grown_set (grown_set (grown_set (grown_setCell w4 w.heap.size 0 (.int .i64 (x - 10))) 1 (.int .i64 (y - 10))) 2 (.int .i64 (z - 1))) 3 (.int .i64 (u - 2000))
    exact ⟨HC.out.kept_new G3 (B := w.heap.size) (fun k hk => by cases hk; exact Nat.le_refl _) hlt hcode, grown_new G2 G3 (fun k hk => by cases hk; exact Nat.le_refl _)⟩
  refine bodyPost_ret (v := .agg #[.int .i64 (x - 10), .int .i64 (y - 10), .int .i64 (z - 1), .int .i64 (u - 2000)]) (by simp [results, Tryd.results25, go_sem, z0, z1, z2, z3]) rfl ⟨x - 10, y - 10, z - 1, u - 2000, HS.out, rfl, hend.1, hend.2⟩

/-- Three valid conditions were drawn; of what was there nothing has turned. -/
def ThreeRw (w : World) (e : Ending) (w' : World) : Prop :=
  ∃ a1 b1 c1 d1 a2 b2 c2 d2 a3 b3 c3 d3 : Int, okR (a1, b1, c1, d1) = true ∧ okR (a2, b2, c2, d2) = true ∧ okR (a3, b3, c3, d3) = true ∧ e = .returned (.tuple #[.agg #[.int .i64 a1, .int .i64 b1, .int .i64 c1, .int .i64 d1], .agg #[.int .i64 a2, .int .i64 b2, .int .i64 c2, .int .i64 d2], .agg #[.int .i64 a3, .int .i64 b3, .int .i64 c3, .int .i64 d3]]) ∧ Below w.heap.size w w'


end Go.Proofs.YtidmhpeaehmmhaaDoor
