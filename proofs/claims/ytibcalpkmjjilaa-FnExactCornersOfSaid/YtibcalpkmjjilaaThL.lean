/- Rows of Thrust in the laws: as flat cells; as they come in, their size, their copy, their comparison. -/
import Derived.Test.YtibcalpkmjjilaaFourP
import Derived.Test.YtibcalpkmjjilaaThrustC
import Derived.Deep.Slices
import Derived.Deep.Strs
namespace Go.Proofs.Ytibcalpkmjjilaa
set_option maxRecDepth 100000
open Go.ChangeShapes Go.WideShapes Go.ChangeAt Go.RowKit Go.Joins Go.Deep

/-- A slice of them in a row of the program's own. -/
def ThRow (w : World) (B : Nat) (v : Value) (rs : List Cd) : Prop := w.ownsRow B 29 4 v rs.length (flat4 rs)
/-- A row at the head of block g. -/
def ThRowAt (w : World) (B g cap : Nat) (rs : List Cd) : Prop := ThRow w B (.slice (some ⟨g, 0, none⟩) rs.length cap) rs
theorem ThRowAt.lt {w : World} {B g cap : Nat} {rs : List Cd} (h : ThRowAt w B g cap rs) : B ≤ g ∧ g < w.heap.size ∧ rs.length ≤ cap ∧ cap ≤ maxLen := by
  rcases h.2 with ⟨h1, -⟩ | ⟨g', cap', cur, h1, hB, hg, hc, hm, -⟩
  · simp at h1
  · simp at h1; obtain ⟨rfl, rfl⟩ := h1; exact ⟨hB, by have := (Array.getElem?_eq_some_iff.1 hg).1; exact this, hc, hm⟩
theorem ThRowAt.cells {w : World} {B g cap : Nat} {rs : List Cd} (h : ThRowAt w B g cap rs) (i : Nat) (hi : i < rs.length) :
    w.cell? ⟨g, i * 4, none⟩ = some (.int .i64 (cd rs i).1) ∧ w.cell? ⟨g, i * 4 + 1, none⟩ = some (.int .i64 (cd rs i).2.1) ∧ w.cell? ⟨g, i * 4 + 2, none⟩ = some (.int .i64 (cd rs i).2.2.1) ∧ w.cell? ⟨g, i * 4 + 3, none⟩ = some (.int .i64 (cd rs i).2.2.2) := by
  rw [World.ownsRow.cellAt h (i * 4) (by omega), World.ownsRow.cellAt h (i * 4 + 1) (by omega), World.ownsRow.cellAt h (i * 4 + 2) (by omega), World.ownsRow.cellAt h (i * 4 + 3) (by omega)]
  exact flat4_at rs i hi
theorem ThRow.below {w w' : World} {B : Nat} {v : Value} {rs : List Cd} (h : ThRow w B v rs) (hb : Below w.heap.size w w') : ThRow w' B v rs := owns_below h hb
theorem ThRow.base {w : World} {B B' : Nat} {v : Value} {rs : List Cd} (h : ThRow w B v rs) (hb : B' ≤ B) : ThRow w B' v rs := owns_base h hb
theorem ThRow.alloc {w : World} {B : Nat} {v : Value} {rs : List Cd} (h : ThRow w B v rs) (o : Obj) : ThRow (w.alloc o) B v rs := World.ownsRow.alloc h o
theorem ThRowAt.row {w : World} {B g cap : Nat} {rs : List Cd} (h : ThRowAt w B g cap rs) : ThRow w B (.slice (some ⟨g, 0, none⟩) rs.length cap) rs := h
theorem ThRow.nil (w : World) (B : Nat) : ThRow w B (.slice none 0 0) [] := World.ownsRow_nil w B _ _
theorem ThRow.cases' {w : World} {B : Nat} {v : Value} {rs : List Cd} (h : ThRow w B v rs) :
    (v = .slice none 0 0 ∧ rs = []) ∨ ∃ g cap, v = .slice (some ⟨g, 0, none⟩) rs.length cap ∧ ThRowAt w B g cap rs ∧ B ≤ g ∧ g < w.heap.size ∧ rs.length ≤ cap ∧ cap ≤ maxLen := by
  have hh := h
  rcases h.2 with ⟨rfl, hz⟩ | ⟨g, cap, cur, rfl, hB, hg, hc, hm, -⟩
  · exact .inl ⟨rfl, List.length_eq_zero_iff.1 hz⟩
  · exact .inr ⟨g, cap, rfl, hh, hB, by have := (Array.getElem?_eq_some_iff.1 hg).1; exact this, hc, hm⟩
theorem throw_slice {w : World} {B : Nat} {v : Value} {rs : List Cd} (h : ThRow w B v rs) : ∃ a cap, v = .slice a rs.length cap ∧ rs.length ≤ cap ∧ cap ≤ maxLen := by
  rcases h.cases' with ⟨rfl, rfl⟩ | ⟨g, cap, rfl, -, -, -, h1, h2⟩
  · exact ⟨none, 0, rfl, Nat.le_refl _, Nat.zero_le _⟩
  · exact ⟨_, cap, rfl, h1, h2⟩
theorem ThRow.after {w w' : World} {B n : Nat} {v : Value} {rs : List Cd} (h : ThRow w B v rs) (hb : Below (w.drewN n).heap.size (w.drewN n) w') : ThRow w' B v rs := owns_below (w := w.drewN n) h hb
/-- A slice of them as a call is handed it: nil, or a row of the program's own. -/
def Ths (w : World) (B : Nat) (a : Option Addr) (m cap : Nat) (rs : List Cd) : Prop := ThRow w B (.slice a m cap) rs ∧ rs.length = m
theorem Ths.below {w w' : World} {B m cap : Nat} {a : Option Addr} {rs : List Cd} (h : Ths w B a m cap rs) (hb : Below w.heap.size w w') : Ths w' B a m cap rs := ⟨h.1.below hb, h.2⟩
theorem Ths.after {w w' : World} {B m cap n : Nat} {a : Option Addr} {rs : List Cd} (h : Ths w B a m cap rs) (hb : Below (w.drewN n).heap.size (w.drewN n) w') : Ths w' B a m cap rs := ⟨h.1.after hb, h.2⟩
theorem Ths.alloc {w : World} {B m cap : Nat} {a : Option Addr} {rs : List Cd} (h : Ths w B a m cap rs) (o : Obj) : Ths (w.alloc o) B a m cap rs := ⟨h.1.alloc o, h.2⟩
theorem Ths.base {w : World} {B B' m cap : Nat} {a : Option Addr} {rs : List Cd} (h : Ths w B a m cap rs) (hb : B' ≤ B) : Ths w B' a m cap rs := ⟨h.1.base hb, h.2⟩
theorem Ths.cap {w : World} {B m cap : Nat} {a : Option Addr} {rs : List Cd} (h : Ths w B a m cap rs) : m ≤ cap ∧ cap ≤ maxLen := by
  obtain ⟨a', cap', he, h1, h2⟩ := throw_slice h.1
  simp only [Value.slice.injEq] at he
  obtain ⟨-, e1, rfl⟩ := he
  exact ⟨by omega, h2⟩
theorem Ths.at {w : World} {B m cap : Nat} {a : Option Addr} {rs : List Cd} (h : Ths w B a m cap rs) (i : Nat) (hi : i < m) :
    ∃ g, a = some ⟨g, 0, Option.none⟩ ∧ B ≤ g ∧ w.cell? ⟨g, i * 4, Option.none⟩ = some (.int .i64 (cd rs i).1) ∧ w.cell? ⟨g, i * 4 + 1, Option.none⟩ = some (.int .i64 (cd rs i).2.1) ∧ w.cell? ⟨g, i * 4 + 2, Option.none⟩ = some (.int .i64 (cd rs i).2.2.1) ∧ w.cell? ⟨g, i * 4 + 3, Option.none⟩ = some (.int .i64 (cd rs i).2.2.2) := by
  have hl := h.2
  rcases h.1.cases' with ⟨-, rfl⟩ | ⟨g, cap', he, hr, hB, -⟩
  · simp at hl; omega
  · simp only [Value.slice.injEq] at he
    obtain ⟨rfl, -, -⟩ := he
    exact ⟨g, rfl, hB, hr.cells i (by omega)⟩

/-- What came in: whatever address; each four ints. -/
def InThs (w : World) (a : Option Addr) (n cap : Nat) (rs : List Cd) : Prop :=
  rs.length = n ∧ n ≤ cap ∧ cap ≤ maxLen ∧
  ((a = none ∧ n = 0 ∧ cap = 0) ∨ ∃ x, a = some x ∧ ∀ i, i < n → w.cell? (x.add (i * 4)) = some (.int .i64 (cd rs i).1) ∧ w.cell? (x.add (i * 4 + 1)) = some (.int .i64 (cd rs i).2.1) ∧ w.cell? (x.add (i * 4 + 2)) = some (.int .i64 (cd rs i).2.2.1) ∧ w.cell? (x.add (i * 4 + 3)) = some (.int .i64 (cd rs i).2.2.2))
theorem InThs.below {w w' : World} {a : Option Addr} {n cap : Nat} {rs : List Cd} (h : InThs w a n cap rs) (hb : Below w.heap.size w w') : InThs w' a n cap rs := by
  obtain ⟨h1, h2, h3, h5⟩ := h
  refine ⟨h1, h2, h3, h5.imp id ?_⟩
  rintro ⟨x, rfl, hx⟩
  exact ⟨x, rfl, fun i hi => ⟨(hb.cell (cell_block_lt (hx i hi).1)).trans (hx i hi).1, (hb.cell (cell_block_lt (hx i hi).2.1)).trans (hx i hi).2.1, (hb.cell (cell_block_lt (hx i hi).2.2.1)).trans (hx i hi).2.2.1, (hb.cell (cell_block_lt (hx i hi).2.2.2)).trans (hx i hi).2.2.2⟩⟩

theorem Try.infoTh : (Try.prog.info? 29).map (fun i => (i.zero, i.size, i.bytes)) = some (some (.agg #[.int .i64 0, .int .i64 0, .int .i64 0, .int .i64 0]), 4, 32) := by kernel_rfl


set_option maxHeartbeats 2000000 in
/-- Two rows of the same are told equal. -/
theorem eqThrustS_same (w : World) (B1 B2 m cap1 cap2 : Nat) (a1 a2 : Option Addr) (rs : List Cd) (h1 : Ths w B1 a1 m cap1 rs) (h2 : Ths w B2 a2 m cap2 rs) :
    Calls Try.prog 21 #[.slice a1 m cap1, .slice a2 m cap2] w fun e w' => e = .returned (.bool true) ∧ Below w.heap.size w w' := by
  obtain ⟨hc1, hm1⟩ := h1.cap
  obtain ⟨hc2, hm2⟩ := h2.cap
  unfold maxLen at hm1 hm2
  have H1 := Lib.hid h1
  have H2 := Lib.hid h2
  clear h1 h2
  go_enter Try.func21, Try.ntmps21
  go_wp2_with fail
  go_loopw [5] (fun t wr => ∃ k : Nat, k ≤ m ∧ t = .int .i64 k ∧ Below w.heap.size w wr)
    (fun t _ => m - (intOf t).toNat)
  case atStart => exact ⟨0, Nat.zero_le _, rfl, Below.refl _ _⟩
  case round =>
    obtain ⟨k, hk, rfl, hbw⟩ := hrel
    have HB := Lib.hid hbw
    by_cases hlt : k < m
    · obtain ⟨g1, rfl, -, a0, a1, a2, a3⟩ := (H1.out.below hbw).at k hlt
      obtain ⟨g2, rfl, -, b0, b1, b2, b3⟩ := (H2.out.below hbw).at k hlt
      generalize (cd rs k).1 = px at *
      generalize (cd rs k).2.1 = py at *
      generalize (cd rs k).2.2.1 = pz at *
      generalize (cd rs k).2.2.2 = pu at *
      clear hbw
      go_wp2_with fail
      have hn1 := Since.nonempty wr
      have hz := HB.out.size
      have sa0 := fun (x : Since wr) => (x.cell g1 (k * 4) (cell_block_lt a0)).trans a0
      have sa1 := fun (x : Since wr) => (x.cell g1 (k * 4 + 1) (cell_block_lt a1)).trans a1
      have sa2 := fun (x : Since wr) => (x.cell g1 (k * 4 + 2) (cell_block_lt a2)).trans a2
      have sa3 := fun (x : Since wr) => (x.cell g1 (k * 4 + 3) (cell_block_lt a3)).trans a3
      have sb0 := fun (x : Since wr) => (x.cell g2 (k * 4) (cell_block_lt b0)).trans b0
      have sb1 := fun (x : Since wr) => (x.cell g2 (k * 4 + 1) (cell_block_lt b1)).trans b1
      have sb2 := fun (x : Since wr) => (x.cell g2 (k * 4 + 2) (cell_block_lt b2)).trans b2
      have sb3 := fun (x : Since wr) => (x.cell g2 (k * 4 + 3) (cell_block_lt b3)).trans b3
      refine wp_region_since (by kernel_rfl) (by kernel_rfl) ?_
      repeat (go_big_quiet_step (first
        | (go_at_call 57; exact Since.call (eqThrust_same _ _ _ _ _))))
      refine wpQuiet_nil ?_
      rintro w2 ⟨⟨_, hb2⟩, rfl⟩
      have HB2 := Lib.hid (HB.out.trans (hb2.mono hz))
      clear sa0 sa1 sa2 sa3 sb0 sb1 sb2 sb3 hb2 a0 a1 a2 a3 b0 b1 b2 b3
      go_wp2_with fail
      go_roundw
      case rel => exact ⟨k + 1, by omega, by go_num, HB2.out⟩
      case measure => simp [intOf]; omega
    · obtain rfl : k = m := by omega
      clear hbw
      go_wp2_with fail
      go_ret
      exact ⟨rfl, HB.out⟩
end Go.Proofs.Ytibcalpkmjjilaa
