/- Words that all texts share: ints of 64 bits; worlds that have only grown since a given one, as a class for a region whose calls make memory. -/
import Derived.Test.YtidmhpeaehmmhaaDoorRows
import Derived.Test.YtidmhpeaehmmhaaDoorLexP
import Derived.WalkKit
import Derived.ProofKit
import Derived.OpenShut
import Derived.Below
import Derived.BigQuiet
import Derived.Deep.QuietTactic
import Derived.RegionTactic
import Derived.Outline
import Derived.Lib.Hide
namespace Go.Proofs.YtidmhpeaehmmhaaDoor
set_option maxRecDepth 100000
open Go.ChangeShapes Go.WideShapes Go.ChangeAt Go.RowKit

/-- An int of 64 bits. -/
def I64 (x : Int) : Prop := -9223372036854775808 ≤ x ∧ x ≤ 9223372036854775807

theorem I64.of_wf {x : Int} (h : (Lit.int .i64 x).wf = true) : I64 x := by
  simp [Lit.wf, IntKind.min, IntKind.max, IntKind.bits, IntKind.signed] at h
  exact ⟨by omega, by omega⟩

/-- A world that has only grown since w. -/
structure Since (w : World) where
  val : World
  below : Below w.heap.size w val
def Since.self (w : World) : Since w := ⟨w, Below.refl _ _⟩
theorem Since.nonempty (w : World) : Nonempty (Since w) := ⟨Since.self w⟩

theorem Since.cell {w : World} (x : Since w) (b o : Nat) (h : b < w.heap.size) : x.1.cell? ⟨b, o, none⟩ = w.cell? ⟨b, o, none⟩ := x.2.cell (p := ⟨b, o, none⟩) h

/-- ONE WALK IN THE ORDER OF THE TEXT, where each operation yields one value in every world that has only grown since w. -/
theorem wp_region_since {P : Program} {id : Nat} {Q : Exit → Act → World → Prop} {a : Act} {w : World} {l : List Oper} (hm : P.follows .mixedOrders = true) (hB : Region.lexB .any l.toArray = true)
    (h : wpQuiet P l.toArray (fun w' => ∃ x : Since w, w' = x.1) (fun a' => ∀ w', (∃ x : Since w, w' = x.1) → Q .normal a' w') l a) : (Code.region id l.toArray true).wp P Q a w :=
  wp_region_quiet (C := fun w' => ∃ x : Since w, w' = x.1) hm hB ⟨⟨_, (Below.refl _ _).drew⟩, rfl⟩ (by simpa using h)

/-- The same, the order told by the one pass. -/
theorem wp_region_fast {P : Program} {id : Nat} {Q : Exit → Act → World → Prop} {a : Act} {w : World} {l : List Oper} (hm : P.follows .mixedOrders = true) (hB : fastB l.toArray = true)
    (h : wpQuiet P l.toArray (fun w' => ∃ x : Since w, w' = x.1) (fun a' => ∀ w', (∃ x : Since w, w' = x.1) → Q .normal a' w') l a) : (Code.region id l.toArray true).wp P Q a w :=
  wp_region_since hm (lexB_of_fast hB) h

/-- A callee's contract, met in such a world. -/
theorem Since.call {P : Program} {f : FuncId} {args : Array Value} {w : World} {x : Since w} {v : Value}
    (h : Calls P f args x.1 fun e w' => e = .returned v ∧ Below x.1.heap.size x.1 w') : Calls P f args x.1 fun e w'' => e = .returned v ∧ ∃ y : Since w, w'' = y.1 :=
  h.mono fun _ w' ⟨he, hb⟩ => ⟨he, ⟨w', x.2.trans (hb.mono x.2.size)⟩, rfl⟩
theorem Since.call_same {P : Program} {f : FuncId} {args : Array Value} {w : World} {x : Since w} {v : Value}
    (h : Calls P f args x.1 fun e w' => e = .returned v ∧ x.1 = w') : Calls P f args x.1 fun e w'' => e = .returned v ∧ ∃ y : Since w, w'' = y.1 :=
  h.mono fun _ _ ⟨he, hb⟩ => ⟨he, x, hb.symm⟩

theorem below_drewN {B : Nat} {a w : World} (h : Below B a w) (n : Nat) : Below B a (w.drewN n) := ⟨h.os, h.tape, h.output, h.size, h.block⟩

theorem bcell {W w1 : World} (hb : Below W.heap.size W w1) : (∀ b o, b < W.heap.size → w1.cell? ⟨b, o, none⟩ = W.cell? ⟨b, o, none⟩) ∧ (∀ b o, b < W.heap.size → w1.frozen? ⟨b, o, none⟩ = W.frozen? ⟨b, o, none⟩) :=
  ⟨fun b o h => hb.cell (p := ⟨b, o, none⟩) h, fun b o h => hb.frozen (p := ⟨b, o, none⟩) h⟩

/-- A goal on a world, told of a letter that is that world. -/
theorem World.any {p : World → Prop} {w : World} (h : ∀ W, W = w → p W) : p w := h _ rfl

theorem cell_block_lt {w : World} {a : Addr} {v : Value} (h : w.cell? a = some v) : a.block < w.heap.size := World.block_lt_of_cell? w a h

/-- Cells that are known: block, place, what it holds. -/
def Known (W : World) (l : List (Nat × Nat × Value)) : Prop := ∀ q ∈ l, W.cell? ⟨q.1, q.2.1, none⟩ = some q.2.2
theorem Known.nil (W : World) : Known W [] := fun _ h => by cases h
theorem Known.cons {W : World} {l : List (Nat × Nat × Value)} {b o : Nat} {v : Value} (h : Known W l) (hc : W.cell? ⟨b, o, none⟩ = some v) : Known W ((b, o, v) :: l) := fun q hq => by
  rcases List.mem_cons.1 hq with rfl | hq
  · exact hc
  · exact h q hq
theorem Known.below {W W' : World} {l : List (Nat × Nat × Value)} (h : Known W l) (hb : Below W.heap.size W W') : Known W' l := fun q hq => by
  rw [hb.cell (p := ⟨q.1, q.2.1, none⟩) (cell_block_lt (h q hq))]; exact h q hq
theorem Known.alloc {W : World} {l : List (Nat × Nat × Value)} (h : Known W l) (o : Obj) : Known (W.alloc o) l := h.below ((Below.refl _ _).alloc (Nat.le_refl _) _)
theorem Known.drew {W : World} {l : List (Nat × Nat × Value)} (h : Known W l) : Known W.drew l := h
theorem Known.lt {W : World} {l : List (Nat × Nat × Value)} {q : Nat × Nat × Value} (h : Known W l) (hq : q ∈ l) : q.1 < W.heap.size := cell_block_lt (h q hq)
theorem known_cons {W : World} {l : List (Nat × Nat × Value)} {b o : Nat} {v : Value} : Known W ((b, o, v) :: l) ↔ W.cell? ⟨b, o, none⟩ = some v ∧ Known W l :=
  ⟨fun h => ⟨h (b, o, v) (by simp), fun q hq => h q (by simp [hq])⟩, fun h => h.2.cons h.1⟩

theorem ret_i64 {a b : Int} (h : a = b) : Ending.returned (.int .i64 a) = .returned (.int .i64 b) := by rw [h]
theorem ret_bool {a b : Bool} (h : a = b) : Ending.returned (.bool a) = .returned (.bool b) := by rw [h]
end Go.Proofs.YtidmhpeaehmmhaaDoor
