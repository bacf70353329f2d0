/- Proofs of collapse in the laws: as they come in, their size, their copy, their comparison, their marks. -/
import Derived.Test.YtidmhpeaehmmhaaDoorIntL
import Derived.Test.YtidmhpeaehmmhaaDoorFourP
import Derived.Deep.Slices
import Derived.ChangeSlices
import Derived.Laws.OwnMore
namespace Go.Proofs.YtidmhpeaehmmhaaDoor
set_option maxRecDepth 100000
open Go.ChangeShapes Go.WideShapes Go.ChangeAt Go.RowKit Go.Joins Go.Deep

/-- Numbers that came in: whatever address. -/
structure InNs (w : World) (a : Option Addr) (n cap : Nat) (l : List Int) : Prop where
  len : l.length = n
  room : n ≤ cap ∧ cap ≤ maxLen
  cells : (a = none ∧ n = 0 ∧ cap = 0) ∨ ∃ x, a = some x ∧ ∀ i, i < n → w.cell? (x.add i) = some (.int .i64 (l.getD i 0))
  wf : ∀ i, i < n → I64 (l.getD i 0)
theorem InNs.below {w w' : World} {a : Option Addr} {n cap : Nat} {l : List Int} (h : InNs w a n cap l) (hb : Below w.heap.size w w') : InNs w' a n cap l :=
  ⟨h.len, h.room, h.cells.imp id fun ⟨x, e, hx⟩ => ⟨x, e, fun i hi => (hb.cell (cell_block_lt (hx i hi))).trans (hx i hi)⟩, h.wf⟩

theorem getD_take {l : List Int} {n i : Nat} (h : i < n) : (l.take n).getD i 0 = l.getD i 0 := by
  rw [List.getD_eq_getElem?_getD, List.getD_eq_getElem?_getD, List.getElem?_take_of_lt h]
theorem ns_cell {H : Type} {enc : TypeId × Value → H} {w : World} {base fuel : Nat} {spare : Nat → Bool} {held : Bool} {c0 : Value} {d : DataW H × List MemPlace}
    (hf : DataW.trod enc Tryd.prog w base spare held fuel 25 [c0] = some d) : ∃ (a : Option Addr) (n cap : Nat) (l : List Int), c0 = .slice a n cap ∧ InNs w a n cap l := by
  rcases open_ints Tryd.underlying25 Tryd.underlying3 (by kernel_rfl) hf with ⟨hcs, _⟩ | ⟨x, n, c, zs, hcs, _, hl, hm, hz, _, hcell, hwz⟩
  · simp at hcs
    exact ⟨none, 0, 0, [], hcs, rfl, ⟨Nat.le_refl _, Nat.zero_le _⟩, .inl ⟨rfl, rfl, rfl⟩, fun i hi => absurd hi (Nat.not_lt_zero i)⟩
  · simp at hcs
    have hnz : n ≤ zs.length := by rw [hz]; split <;> omega
    refine ⟨some x, n, c, zs.take n, hcs, by simp; omega, ⟨hl, hm⟩, .inr ⟨x, rfl, fun i hi => ?_⟩, fun i hi => ?_⟩
    · rw [getD_take hi]; exact hcell i (by omega)
    · rw [getD_take hi, List.getD_eq_getElem?_getD, List.getElem?_eq_getElem (show i < zs.length by omega)]
      exact I64.of_wf (hwz _ (List.getElem_mem _))

theorem pr_al (w : World) (o : Obj) : Below w.heap.size w (w.alloc o) := (Below.refl w.heap.size w).alloc (Nat.le_refl _) o
theorem Ins.base {w : World} {B B' m cap : Nat} {a : Option Addr} {l : List Int} (h : Ins w B a m cap l) (hb : B' ≤ B) : Ins w B' a m cap l := ⟨h.1.base hb, h.2⟩
theorem Ins.alloc {w : World} {B m cap : Nat} {a : Option Addr} {l : List Int} (h : Ins w B a m cap l) (o : Obj) : Ins (w.alloc o) B a m cap l := ⟨h.1.alloc o, h.2⟩


/-- The cells of a proof's box. -/
def PBox (W : World) (H : Nat) (a : Option Addr) (n c : Nat) (b : Option Addr) (m c2 : Nat) : Prop :=
  W.cell? ⟨H, 0, none⟩ = some (.slice a n c) ∧ W.cell? ⟨H, 1, none⟩ = some (.slice b m c2)
theorem PBox.below {w w' : World} {H n c m c2 : Nat} {a b : Option Addr} (x : PBox w H a n c b m c2) (hb : Below w.heap.size w w') : PBox w' H a n c b m c2 :=
  ⟨cell_kept x.1 hb, cell_kept x.2 hb⟩
theorem PBox.grown {w w' : World} {H n c m c2 : Nat} {a b : Option Addr} {row : Option Nat} (x : PBox w H a n c b m c2) (hg : w.grownBy w' row) (hne : some H ≠ row) : PBox w' H a n c b m c2 :=
  ⟨hg.cell x.1 hne, hg.cell x.2 hne⟩
theorem pbox_alloc (w : World) (a b : Option Addr) (n c m c2 : Nat) (t : TypeId) : PBox (w.alloc (.cells #[.slice a n c, .slice b m c2] t)) w.heap.size a n c b m c2 := by
  refine ⟨?_, ?_⟩ <;> go_simp
theorem grownP_setCell (W : World) (b o : Nat) (v : Value) : W.grownBy (W.setCell ⟨b, o, none⟩ v) (some b) :=
  ⟨rfl, rfl, rfl, by simp [World.setCell], fun k _ hk => Below.heap_setCell _ _ _ k (fun e => hk (by rw [e]))⟩
theorem Ins.setCell {w : World} {B m c b : Nat} {a : Option Addr} {l : List Int} (h : Ins w B a m c l) (hb : b < B) (o : Nat) (v : Value) : Ins (w.setCell ⟨b, o, none⟩ v) B a m c l := by
  refine ⟨World.ownsRow.kept h.1 (grownP_setCell w b o v) ?_, h.2⟩
  cases hv : (Value.slice a m c).ownBlock with
  | none => exact .inl rfl
  | some k => exact .inr (by have := (World.ownsRow.lt h.1 k hv).1; simp; omega)
theorem ins_other {w : World} {B1 m1 m2 c1 c2 : Nat} {a1 a2 : Option Addr} {l1 : List Int} (h : Ins w B1 a1 m1 c1 l1) (h2 : ∀ k, (Value.slice a2 m2 c2).ownBlock = some k → w.heap.size ≤ k) : ∀ k, (Value.slice a1 m1 c1).ownBlock = some k → some k ≠ (Value.slice a2 m2 c2).ownBlock := fun k hk he => by
  have h3 := (World.ownsRow.lt h.1 k hk).2
  have h4 := h2 k he.symm
  omega

end Go.Proofs.YtidmhpeaehmmhaaDoor
