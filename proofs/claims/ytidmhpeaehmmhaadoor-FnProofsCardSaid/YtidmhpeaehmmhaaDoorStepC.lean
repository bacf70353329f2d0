/- Steps of a walk: what holds in a world that has only grown since, behind an append; a row that grows by one or two structs of four ints. -/
import Derived.Test.YtidmhpeaehmmhaaDoorCondA
import Derived.Deep.AppendLies
namespace Go.Proofs.YtidmhpeaehmmhaaDoor
set_option maxRecDepth 100000
open Go.ChangeShapes Go.WideShapes Go.ChangeAt Go.RowKit

theorem far_low {X w' : World} {B n size b o : Nat} {e : TypeId} {v u : Value} {xs : List Value} (hr : X.ownsRow B e size v n xs) (hg : X.grownBy w' v.ownBlock) (hb : b < B) (hc : X.cell? ⟨b, o, none⟩ = some u) : w'.cell? ⟨b, o, none⟩ = some u :=
  (World.grownBy.cell_far hg ⟨b, o, none⟩ (cell_block_lt hc) (fun he => by have := (World.ownsRow.lt hr b he.symm).1; omega)).trans hc
theorem far_high {w0 X w' : World} {B n size b o : Nat} {e : TypeId} {v u : Value} {xs : List Value} (hr : w0.ownsRow B e size v n xs) (hg : X.grownBy w' v.ownBlock) (hb : w0.heap.size ≤ b) (hc : X.cell? ⟨b, o, none⟩ = some u) : w'.cell? ⟨b, o, none⟩ = some u :=
  (World.grownBy.cell_far hg ⟨b, o, none⟩ (cell_block_lt hc) (fun he => by have := (World.ownsRow.lt hr b he.symm).2; omega)).trans hc
theorem own_cap {w : World} {B s n cap N : Nat} {e : TypeId} {a : Option Addr} {xs : List Value} (h : w.ownsRow B e s (.slice a n cap) N xs) : N ≤ cap ∧ cap ≤ maxLen := by
  rcases h.2 with ⟨h1, h2⟩ | ⟨g, c, cur, h1, -, -, h2, h3, -⟩
  · simp at h1; omega
  · simp at h1; obtain ⟨-, -, rfl⟩ := h1; exact ⟨h2, h3⟩
theorem cstep {Z a b : World} (h : RowKit.Hid (Below Z.heap.size Z a)) (k : Below a.heap.size a b) : Below Z.heap.size Z b := h.out.trans (k.mono h.out.size)
theorem cstepD {Z a b : World} {n : Nat} (h : RowKit.Hid (Below Z.heap.size Z a)) (k : Below (a.drewN n).heap.size (a.drewN n) b) : Below Z.heap.size Z b := (below_drewN h.out n).trans (k.mono h.out.size)
theorem cstepA {Z a b : World} {o : Obj} (h : RowKit.Hid (Below Z.heap.size Z a)) (k : Below (a.alloc o).heap.size (a.alloc o) b) : Below Z.heap.size Z b := by
  have := h.out.alloc h.out.size o
  exact this.trans (k.mono this.size)
theorem cstepDA {Z a b : World} {n : Nat} {o : Obj} (h : RowKit.Hid (Below Z.heap.size Z a)) (k : Below ((a.drewN n).alloc o).heap.size ((a.drewN n).alloc o) b) : Below Z.heap.size Z b := by
  have := (below_drewN h.out n).alloc (below_drewN h.out n).size o
  exact this.trans (k.mono this.size)
theorem cal {Z a : World} (h : Below Z.heap.size Z a) (o : Obj) : Below Z.heap.size Z (a.alloc o) := h.alloc h.size o
theorem flat4_two (rs : List Cd) (a b c d a' b' c' d' : Int) : flat4 (rs ++ [(a, b, c, d), (a', b', c', d')]) = flat4 rs ++ [.int .i64 a, .int .i64 b, .int .i64 c, .int .i64 d, .int .i64 a', .int .i64 b', .int .i64 c', .int .i64 d'] := by rw [flat4_append]; rfl
theorem flat4_one (rs : List Cd) (a b c d : Int) : flat4 (rs ++ [(a, b, c, d)]) = flat4 rs ++ [.int .i64 a, .int .i64 b, .int .i64 c, .int .i64 d] := by rw [flat4_append]; rfl
end Go.Proofs.YtidmhpeaehmmhaaDoor
