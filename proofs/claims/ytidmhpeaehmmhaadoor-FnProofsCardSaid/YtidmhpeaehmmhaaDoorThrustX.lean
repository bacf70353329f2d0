/- A region 'x, ok := f(g(a), g(b))' over thrusts: the box of x made at any time between the calls. -/
import Derived.Test.YtidmhpeaehmmhaaDoorThrustS
import Derived.Deep.RegionHeld3
import Derived.Deep.Cut
import Derived.Deep.CutRange
import Derived.OwnWalk
import Derived.Laws.OwnMore
namespace Go.Proofs.YtidmhpeaehmmhaaDoor
set_option maxRecDepth 100000
open Go.ChangeShapes Go.WideShapes Go.ChangeAt Go.RowKit

theorem tbelow_al {a w : World} (h : Below a.heap.size a w) (o : Obj) : Below a.heap.size a (w.alloc o) := h.alloc h.size o
theorem talloc_below (w : World) (o : Obj) : Below w.heap.size w (w.alloc o) := (Below.refl w.heap.size w).alloc (Nat.le_refl _) o
theorem tcell_sf {w : World} {b o c d : Nat} {v u : Value} (h : w.cell? ⟨b, o, none⟩ = some v) (hb : b ≠ c) : (w.setCell ⟨c, d, none⟩ u).cell? ⟨b, o, none⟩ = some v := by
  rw [World.cell?_of_block (w := w) (Below.heap_setCell w ⟨c, d, none⟩ u b (fun e => hb e))]; exact h
/-! A call's world, told from the world ahead of it: drawn, or with the box made, or both. -/
theorem ts_drew {w w' : World} {n : Nat} (h : Below (w.drewN n).heap.size (w.drewN n) w') : Below w.heap.size w w' := (below_drewN (Below.refl w.heap.size w) n).trans h
theorem ts_al {w w' : World} {o : Obj} (h : Below (w.alloc o).heap.size (w.alloc o) w') : Below w.heap.size w w' := (talloc_below w o).trans (h.mono (talloc_below w o).size)
theorem ts_dal {w w' : World} {n : Nat} {o : Obj} (h : Below ((w.drewN n).alloc o).heap.size ((w.drewN n).alloc o) w') : Below w.heap.size w w' := (below_drewN (Below.refl w.heap.size w) n).trans (ts_al h)
/-- The box of a thrust, made: four zeros; not frozen; there. -/
def FreshT (b : Nat) (w : World) : Prop := w.cell? ⟨b, 0, none⟩ = some (.int .i64 0) ∧ w.cell? ⟨b, 1, none⟩ = some (.int .i64 0) ∧ w.cell? ⟨b, 2, none⟩ = some (.int .i64 0) ∧ w.cell? ⟨b, 3, none⟩ = some (.int .i64 0) ∧ (∀ o, w.frozen? ⟨b, o, none⟩ = false) ∧ b < w.heap.size
theorem ft_mk {b : Nat} {w : World} (h0 : w.cell? ⟨b, 0, none⟩ = some (.int .i64 0)) (h1 : w.cell? ⟨b, 1, none⟩ = some (.int .i64 0)) (h2 : w.cell? ⟨b, 2, none⟩ = some (.int .i64 0)) (h3 : w.cell? ⟨b, 3, none⟩ = some (.int .i64 0)) (hf : ∀ o, w.frozen? ⟨b, o, none⟩ = false) (hl : b < w.heap.size) : FreshT b w := ⟨h0, h1, h2, h3, hf, hl⟩
theorem ft_al {w w' : World} {t : TypeId} (h : Below (w.alloc (.cells #[.int .i64 0, .int .i64 0, .int .i64 0, .int .i64 0] t)).heap.size (w.alloc (.cells #[.int .i64 0, .int .i64 0, .int .i64 0, .int .i64 0] t)) w') : FreshT w.heap.size w' :=
  ⟨tcell (by go_simp) h, tcell (by go_simp) h, tcell (by go_simp) h, tcell (by go_simp) h, fun o => (h.frozen (p := ⟨w.heap.size, o, none⟩) (by simp)).trans (by go_simp), by have := h.size; simp at this; omega⟩
theorem ft_dal {w w' : World} {n : Nat} {t : TypeId} (h : Below ((w.drewN n).alloc (.cells #[.int .i64 0, .int .i64 0, .int .i64 0, .int .i64 0] t)).heap.size ((w.drewN n).alloc (.cells #[.int .i64 0, .int .i64 0, .int .i64 0, .int .i64 0] t)) w') : FreshT w.heap.size w' := ft_al (w := w.drewN n) h
theorem ft_keep {b : Nat} {w w' : World} (h : FreshT b w) (k : Below w.heap.size w w') : FreshT b w' :=
  ⟨tcell h.1 k, tcell h.2.1 k, tcell h.2.2.1 k, tcell h.2.2.2.1 k, fun o => (k.frozen (p := ⟨b, o, none⟩) h.2.2.2.2.2).trans (h.2.2.2.2.1 o), Nat.lt_of_lt_of_le h.2.2.2.2.2 k.size⟩

end Go.Proofs.YtidmhpeaehmmhaaDoor
