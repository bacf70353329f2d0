/- Rows of ints of a call's own: their comparison and their marks in the laws. -/
import Derived.Test.YtidmhpeaehmmhaaDoorThrustC
import Derived.Test.YtidmhpeaehmmhaaDoorStoneC
import Derived.Deep.Slices
import Derived.LoopN
namespace Go.Proofs.YtidmhpeaehmmhaaDoor
set_option maxRecDepth 100000
open Go.ChangeShapes Go.WideShapes Go.ChangeAt Go.RowKit

theorem Tryd.infoI : (Tryd.prog.info? 3).map (fun i => (i.zero, i.size, i.bytes)) = some (some (.int .i64 0), 1, 8) := by kernel_rfl
/-- Ints as cells. -/
def ints (l : List Int) : List Value := l.map fun x => .int .i64 x
theorem ints_length (l : List Int) : (ints l).length = l.length := by simp [ints]
theorem ints_at (l : List Int) (i : Nat) (h : i < l.length) : (ints l)[i]? = some (.int .i64 (l.getD i 0)) := by
  unfold ints; rw [List.getElem?_map, List.getD_eq_getElem?_getD, List.getElem?_eq_getElem h]; rfl
theorem ints_set (l : List Int) (i : Nat) (x : Int) : (ints l).set i (.int .i64 x) = ints (l.set i x) := by unfold ints; rw [List.map_set]
theorem ints_append (a b : List Int) : ints (a ++ b) = ints a ++ ints b := by unfold ints; rw [List.map_append]

/-- A slice of ints in a row of the program's own. -/
def InRow (w : World) (B : Nat) (v : Value) (l : List Int) : Prop := w.ownsRow B 3 1 v l.length (ints l)
def InRowAt (w : World) (B g cap : Nat) (l : List Int) : Prop := InRow w B (.slice (some ⟨g, 0, none⟩) l.length cap) l
theorem InRowAt.lt {w : World} {B g cap : Nat} {l : List Int} (h : InRowAt w B g cap l) : B ≤ g ∧ g < w.heap.size ∧ l.length ≤ cap ∧ cap ≤ maxLen := by
  rcases h.2 with ⟨h1, -⟩ | ⟨g', cap', cur, h1, hB, hg, hc, hm, -⟩
  · simp at h1
  · simp at h1; obtain ⟨rfl, rfl⟩ := h1; exact ⟨hB, by have := (Array.getElem?_eq_some_iff.1 hg).1; exact this, hc, hm⟩
theorem InRowAt.cell {w : World} {B g cap : Nat} {l : List Int} (h : InRowAt w B g cap l) (i : Nat) (hi : i < l.length) : w.cell? ⟨g, i, none⟩ = some (.int .i64 (l.getD i 0)) := by
  rw [World.ownsRow.cellAt h i (by omega)]
  exact ints_at l i hi
theorem InRow.below {w w' : World} {B : Nat} {v : Value} {l : List Int} (h : InRow w B v l) (hb : Below w.heap.size w w') : InRow w' B v l := owns_below h hb
theorem InRow.base {w : World} {B B' : Nat} {v : Value} {l : List Int} (h : InRow w B v l) (hb : B' ≤ B) : InRow w B' v l := owns_base h hb
theorem InRow.alloc {w : World} {B : Nat} {v : Value} {l : List Int} (h : InRow w B v l) (o : Obj) : InRow (w.alloc o) B v l := World.ownsRow.alloc h o
theorem InRow.nil (w : World) (B : Nat) : InRow w B (.slice none 0 0) [] := World.ownsRow_nil w B _ _
theorem InRow.cases' {w : World} {B : Nat} {v : Value} {l : List Int} (h : InRow w B v l) :
    (v = .slice none 0 0 ∧ l = []) ∨ ∃ g cap, v = .slice (some ⟨g, 0, none⟩) l.length cap ∧ InRowAt w B g cap l ∧ B ≤ g ∧ g < w.heap.size ∧ l.length ≤ cap ∧ cap ≤ maxLen := by
  have hh := h
  rcases h.2 with ⟨rfl, hz⟩ | ⟨g, cap, cur, rfl, hB, hg, hc, hm, -⟩
  · exact .inl ⟨rfl, List.length_eq_zero_iff.1 hz⟩
  · exact .inr ⟨g, cap, rfl, hh, hB, by have := (Array.getElem?_eq_some_iff.1 hg).1; exact this, hc, hm⟩
theorem inrow_slice {w : World} {B : Nat} {v : Value} {l : List Int} (h : InRow w B v l) : ∃ a cap, v = .slice a l.length cap ∧ l.length ≤ cap ∧ cap ≤ maxLen := by
  rcases h.cases' with ⟨rfl, rfl⟩ | ⟨g, cap, rfl, -, -, -, h1, h2⟩
  · exact ⟨none, 0, rfl, Nat.le_refl _, Nat.zero_le _⟩
  · exact ⟨_, cap, rfl, h1, h2⟩
/-- A slice of ints as a call is handed it: nil, or a row of the program's own. -/
def Ins (w : World) (B : Nat) (a : Option Addr) (m cap : Nat) (l : List Int) : Prop := InRow w B (.slice a m cap) l ∧ l.length = m
theorem Ins.below {w w' : World} {B m cap : Nat} {a : Option Addr} {l : List Int} (h : Ins w B a m cap l) (hb : Below w.heap.size w w') : Ins w' B a m cap l := ⟨h.1.below hb, h.2⟩
theorem Ins.cap {w : World} {B m cap : Nat} {a : Option Addr} {l : List Int} (h : Ins w B a m cap l) : m ≤ cap ∧ cap ≤ maxLen := by
  obtain ⟨a', cap', he, h1, h2⟩ := inrow_slice h.1
  simp only [Value.slice.injEq] at he
  obtain ⟨-, e1, rfl⟩ := he
  exact ⟨by omega, h2⟩
theorem Ins.at {w : World} {B m cap : Nat} {a : Option Addr} {l : List Int} (h : Ins w B a m cap l) (i : Nat) (hi : i < m) :
    ∃ g, a = some ⟨g, 0, Option.none⟩ ∧ B ≤ g ∧ w.cell? ⟨g, i, Option.none⟩ = some (.int .i64 (l.getD i 0)) := by
  have hl := h.2
  rcases h.1.cases' with ⟨-, rfl⟩ | ⟨g, cap', he, hr, hB, -⟩
  · simp at hl; omega
  · simp only [Value.slice.injEq] at he
    obtain ⟨rfl, -, -⟩ := he
    exact ⟨g, rfl, hB, hr.cell i (by omega)⟩
theorem insOf {w : World} {B : Nat} {v : Value} {l : List Int} (h : InRow w B v l) : ∃ a n cap, v = .slice a n cap ∧ Ins w B a n cap l := by
  obtain ⟨a, cap, rfl, -, -⟩ := inrow_slice h
  exact ⟨a, l.length, cap, rfl, h, rfl⟩
theorem in_empty (w : World) (B : Nat) (hB : B ≤ w.heap.size) : Ins (w.alloc (.cells #[] 3)) B (some ⟨w.heap.size, 0, none⟩) 0 0 [] :=
  ⟨World.ownsRow_lit (base := B) (e := 3) (size := 1) w #[] 0 hB (Nat.zero_le _) rfl, rfl⟩

/-- The numbers from k on. -/
def marksI (k : Int) : Nat → List Int
  | 0 => []
  | n + 1 => k :: marksI (k + 1) n
theorem marksI_length (k : Int) (n : Nat) : (marksI k n).length = n := by
  induction n generalizing k with
  | zero => rfl
  | succ n ih => simp [marksI, ih]
theorem marksI_at (k : Int) (n i : Nat) (h : i < n) : (marksI k n).getD i 0 = k + i := by
  induction n generalizing k i with
  | zero => omega
  | succ n ih =>
    cases i with
    | zero => simp [marksI]
    | succ i =>
      have := ih (k + 1) i (by omega)
      simp only [marksI, List.getD_cons_succ]
      rw [this]
      omega
theorem marksI_next (k : Int) (n : Nat) : marksI k (n + 1) = marksI k n ++ [k + n] := by
  induction n generalizing k with
  | zero => simp [marksI]
  | succ n ih =>
    rw [marksI, ih (k + 1), marksI, List.cons_append]
    rw [show k + 1 + (n : Int) = k + ((n + 1 : Nat) : Int) by omega]
/-- The cells as far as they have been marked. -/
def insMk (l : List Int) (k : Int) (i : Nat) : List Int := marksI k i ++ l.drop i
theorem insMk_end (l : List Int) (k : Int) : insMk l k l.length = marksI k l.length := by simp [insMk]
theorem insMk_length (l : List Int) (k : Int) (i : Nat) (h : i ≤ l.length) : (insMk l k i).length = l.length := by simp [insMk, marksI_length]; omega
theorem insMk_set (l : List Int) (k : Int) (i : Nat) (h : i < l.length) : (insMk l k i).set i (k + i) = insMk l k (i + 1) := by
  unfold insMk
  rw [List.set_append_right _ _ (by simp [marksI_length]), marksI_length, Nat.sub_self, List.drop_eq_getElem_cons h, List.set_cons_zero, marksI_next, List.append_assoc]
  rfl
theorem grownI_trans {a b c : World} {r : Option Nat} (h : a.grownBy b r) (k : b.grownBy c r) : a.grownBy c r :=
  ⟨k.os.trans h.os, k.tape.trans h.tape, k.output.trans h.output, Nat.le_trans h.size k.size, fun i hi hne => (k.block i (Nat.lt_of_lt_of_le hi h.size) hne).trans (h.block i hi hne)⟩

end Go.Proofs.YtidmhpeaehmmhaaDoor
