/- Rows of Row in the laws: as flat cells; as they come in, their size, their copy, their comparison. -/
import Derived.Test.YtidmhpeaehmmhaaDoorFourP
import Derived.Test.YtidmhpeaehmmhaaDoorThrustC
import Derived.Deep.Slices
import Derived.Deep.Strs
namespace Go.Proofs.YtidmhpeaehmmhaaDoor
set_option maxRecDepth 100000
open Go.ChangeShapes Go.WideShapes Go.ChangeAt Go.RowKit Go.Joins Go.Deep

/-- A slice of them in a row of the program's own. -/
def CdRow (w : World) (B : Nat) (v : Value) (rs : List Cd) : Prop := w.ownsRow B 41 4 v rs.length (flat4 rs)
/-- A row at the head of block g. -/
def CdRowAt (w : World) (B g cap : Nat) (rs : List Cd) : Prop := CdRow w B (.slice (some ⟨g, 0, none⟩) rs.length cap) rs
theorem CdRowAt.lt {w : World} {B g cap : Nat} {rs : List Cd} (h : CdRowAt w B g cap rs) : B ≤ g ∧ g < w.heap.size ∧ rs.length ≤ cap ∧ cap ≤ maxLen := by
  rcases h.2 with ⟨h1, -⟩ | ⟨g', cap', cur, h1, hB, hg, hc, hm, -⟩
  · simp at h1
  · simp at h1; obtain ⟨rfl, rfl⟩ := h1; exact ⟨hB, by have := (Array.getElem?_eq_some_iff.1 hg).1; exact this, hc, hm⟩
theorem CdRowAt.cells {w : World} {B g cap : Nat} {rs : List Cd} (h : CdRowAt w B g cap rs) (i : Nat) (hi : i < rs.length) :
    w.cell? ⟨g, i * 4, none⟩ = some (.int .i64 (cd rs i).1) ∧ w.cell? ⟨g, i * 4 + 1, none⟩ = some (.int .i64 (cd rs i).2.1) ∧ w.cell? ⟨g, i * 4 + 2, none⟩ = some (.int .i64 (cd rs i).2.2.1) ∧ w.cell? ⟨g, i * 4 + 3, none⟩ = some (.int .i64 (cd rs i).2.2.2) := by
  rw [World.ownsRow.cellAt h (i * 4) (by omega), World.ownsRow.cellAt h (i * 4 + 1) (by omega), World.ownsRow.cellAt h (i * 4 + 2) (by omega), World.ownsRow.cellAt h (i * 4 + 3) (by omega)]
  exact flat4_at rs i hi
theorem CdRow.below {w w' : World} {B : Nat} {v : Value} {rs : List Cd} (h : CdRow w B v rs) (hb : Below w.heap.size w w') : CdRow w' B v rs := owns_below h hb
theorem CdRow.base {w : World} {B B' : Nat} {v : Value} {rs : List Cd} (h : CdRow w B v rs) (hb : B' ≤ B) : CdRow w B' v rs := owns_base h hb
theorem CdRow.alloc {w : World} {B : Nat} {v : Value} {rs : List Cd} (h : CdRow w B v rs) (o : Obj) : CdRow (w.alloc o) B v rs := World.ownsRow.alloc h o
theorem CdRowAt.row {w : World} {B g cap : Nat} {rs : List Cd} (h : CdRowAt w B g cap rs) : CdRow w B (.slice (some ⟨g, 0, none⟩) rs.length cap) rs := h
theorem CdRow.nil (w : World) (B : Nat) : CdRow w B (.slice none 0 0) [] := World.ownsRow_nil w B _ _
theorem CdRow.cases' {w : World} {B : Nat} {v : Value} {rs : List Cd} (h : CdRow w B v rs) :
    (v = .slice none 0 0 ∧ rs = []) ∨ ∃ g cap, v = .slice (some ⟨g, 0, none⟩) rs.length cap ∧ CdRowAt w B g cap rs ∧ B ≤ g ∧ g < w.heap.size ∧ rs.length ≤ cap ∧ cap ≤ maxLen := by
  have hh := h
  rcases h.2 with ⟨rfl, hz⟩ | ⟨g, cap, cur, rfl, hB, hg, hc, hm, -⟩
  · exact .inl ⟨rfl, List.length_eq_zero_iff.1 hz⟩
  · exact .inr ⟨g, cap, rfl, hh, hB, by have := (Array.getElem?_eq_some_iff.1 hg).1; exact this, hc, hm⟩
theorem cdrow_slice {w : World} {B : Nat} {v : Value} {rs : List Cd} (h : CdRow w B v rs) : ∃ a cap, v = .slice a rs.length cap ∧ rs.length ≤ cap ∧ cap ≤ maxLen := by
  rcases h.cases' with ⟨rfl, rfl⟩ | ⟨g, cap, rfl, -, -, -, h1, h2⟩
  · exact ⟨none, 0, rfl, Nat.le_refl _, Nat.zero_le _⟩
  · exact ⟨_, cap, rfl, h1, h2⟩
theorem CdRow.after {w w' : World} {B n : Nat} {v : Value} {rs : List Cd} (h : CdRow w B v rs) (hb : Below (w.drewN n).heap.size (w.drewN n) w') : CdRow w' B v rs := owns_below (w := w.drewN n) h hb
/-- A slice of them as a call is handed it: nil, or a row of the program's own. -/
def Cds (w : World) (B : Nat) (a : Option Addr) (m cap : Nat) (rs : List Cd) : Prop := CdRow w B (.slice a m cap) rs ∧ rs.length = m
theorem Cds.below {w w' : World} {B m cap : Nat} {a : Option Addr} {rs : List Cd} (h : Cds w B a m cap rs) (hb : Below w.heap.size w w') : Cds w' B a m cap rs := ⟨h.1.below hb, h.2⟩
theorem Cds.after {w w' : World} {B m cap n : Nat} {a : Option Addr} {rs : List Cd} (h : Cds w B a m cap rs) (hb : Below (w.drewN n).heap.size (w.drewN n) w') : Cds w' B a m cap rs := ⟨h.1.after hb, h.2⟩
theorem Cds.alloc {w : World} {B m cap : Nat} {a : Option Addr} {rs : List Cd} (h : Cds w B a m cap rs) (o : Obj) : Cds (w.alloc o) B a m cap rs := ⟨h.1.alloc o, h.2⟩
theorem Cds.base {w : World} {B B' m cap : Nat} {a : Option Addr} {rs : List Cd} (h : Cds w B a m cap rs) (hb : B' ≤ B) : Cds w B' a m cap rs := ⟨h.1.base hb, h.2⟩
theorem Cds.cap {w : World} {B m cap : Nat} {a : Option Addr} {rs : List Cd} (h : Cds w B a m cap rs) : m ≤ cap ∧ cap ≤ maxLen := by
  obtain ⟨a', cap', he, h1, h2⟩ := cdrow_slice h.1
  simp only [Value.slice.injEq] at he
  obtain ⟨-, e1, rfl⟩ := he
  exact ⟨by omega, h2⟩
theorem Cds.at {w : World} {B m cap : Nat} {a : Option Addr} {rs : List Cd} (h : Cds w B a m cap rs) (i : Nat) (hi : i < m) :
    ∃ g, a = some ⟨g, 0, Option.none⟩ ∧ B ≤ g ∧ w.cell? ⟨g, i * 4, Option.none⟩ = some (.int .i64 (cd rs i).1) ∧ w.cell? ⟨g, i * 4 + 1, Option.none⟩ = some (.int .i64 (cd rs i).2.1) ∧ w.cell? ⟨g, i * 4 + 2, Option.none⟩ = some (.int .i64 (cd rs i).2.2.1) ∧ w.cell? ⟨g, i * 4 + 3, Option.none⟩ = some (.int .i64 (cd rs i).2.2.2) := by
  have hl := h.2
  rcases h.1.cases' with ⟨-, rfl⟩ | ⟨g, cap', he, hr, hB, -⟩
  · simp at hl; omega
  · simp only [Value.slice.injEq] at he
    obtain ⟨rfl, -, -⟩ := he
    exact ⟨g, rfl, hB, hr.cells i (by omega)⟩

/-- What came in: whatever address; each four ints. -/
def InCds (w : World) (a : Option Addr) (n cap : Nat) (rs : List Cd) : Prop :=
  rs.length = n ∧ n ≤ cap ∧ cap ≤ maxLen ∧
  ((a = none ∧ n = 0 ∧ cap = 0) ∨ ∃ x, a = some x ∧ ∀ i, i < n → w.cell? (x.add (i * 4)) = some (.int .i64 (cd rs i).1) ∧ w.cell? (x.add (i * 4 + 1)) = some (.int .i64 (cd rs i).2.1) ∧ w.cell? (x.add (i * 4 + 2)) = some (.int .i64 (cd rs i).2.2.1) ∧ w.cell? (x.add (i * 4 + 3)) = some (.int .i64 (cd rs i).2.2.2))
theorem InCds.below {w w' : World} {a : Option Addr} {n cap : Nat} {rs : List Cd} (h : InCds w a n cap rs) (hb : Below w.heap.size w w') : InCds w' a n cap rs := by
  obtain ⟨h1, h2, h3, h5⟩ := h
  refine ⟨h1, h2, h3, h5.imp id ?_⟩
  rintro ⟨x, rfl, hx⟩
  exact ⟨x, rfl, fun i hi => ⟨(hb.cell (cell_block_lt (hx i hi).1)).trans (hx i hi).1, (hb.cell (cell_block_lt (hx i hi).2.1)).trans (hx i hi).2.1, (hb.cell (cell_block_lt (hx i hi).2.2.1)).trans (hx i hi).2.2.1, (hb.cell (cell_block_lt (hx i hi).2.2.2)).trans (hx i hi).2.2.2⟩⟩

theorem Tryd.infoCd : (Tryd.prog.info? 41).map (fun i => (i.zero, i.size, i.bytes)) = some (some (.agg #[.int .i64 0, .int .i64 0, .int .i64 0, .int .i64 0]), 4, 32) := by kernel_rfl


end Go.Proofs.YtidmhpeaehmmhaaDoor
