/- Lists of stones in the laws: as they come in, their size, their copy, the comparison; rows of stones of the program's own. -/
import Derived.Test.YtoholdpobkgffaaStoneL
import Derived.Deep.Slices
namespace Go.Proofs.Ytoholdpobkgffaa
set_option maxRecDepth 100000
open Go.ChangeShapes Go.WideShapes Go.ChangeAt Go.RowKit Go.Joins Go.Deep

/-- A list's stone at an index. -/
def st (css : List (List (Int × Int))) (i : Nat) : List (Int × Int) := css.getD i []
/-! ### Rows of stones -/
/-- A slice of stones in a row of the program's own; each stone's corners too. -/
def SRow (w : World) (B : Nat) (v : Value) (css : List (List (Int × Int))) : Prop :=
  ∃ vs : List Value, vs.length = css.length ∧ w.ownsRow B 51 1 v css.length vs ∧ ∀ i, i < css.length → Row w B (vs.getD i (.slice none 0 0)) (st css i)

theorem row_slice' {w : World} {B : Nat} {v : Value} {cs : List (Int × Int)} (h : Row w B v cs) : ∃ a cap, v = .slice a cs.length cap ∧ cs.length ≤ maxLen := by
  rcases h.cases with ⟨rfl, rfl⟩ | ⟨g, cap, rfl, -, -, -, h1, h2⟩
  · exact ⟨_, _, rfl, Nat.zero_le _⟩
  · exact ⟨_, _, rfl, Nat.le_trans h1 h2⟩
theorem SRow.below {w w' : World} {B : Nat} {v : Value} {css : List (List (Int × Int))} (h : SRow w B v css) (hb : Below w.heap.size w w') : SRow w' B v css := by
  obtain ⟨vs, h1, h2, h3⟩ := h
  exact ⟨vs, h1, owns_below h2 hb, fun i hi => (h3 i hi).below hb⟩
theorem SRow.base {w : World} {B B' : Nat} {v : Value} {css : List (List (Int × Int))} (h : SRow w B v css) (hb : B' ≤ B) : SRow w B' v css := by
  obtain ⟨vs, h1, h2, h3⟩ := h
  exact ⟨vs, h1, owns_base h2 hb, fun i hi => (h3 i hi).base hb⟩
/-- The row's value. -/
theorem SRow.slice {w : World} {B : Nat} {v : Value} {css : List (List (Int × Int))} (h : SRow w B v css) : ∃ a cap, v = .slice a css.length cap ∧ css.length ≤ cap ∧ cap ≤ maxLen ∧ (0 < css.length → ∃ g, a = some ⟨g, 0, none⟩ ∧ g < w.heap.size) := by
  obtain ⟨vs, -, h2, -⟩ := h
  rcases h2.2 with ⟨rfl, hz⟩ | ⟨g, cap, cur, rfl, hB, hg, hc, hm, -⟩
  · exact ⟨none, 0, by rw [hz], by omega, Nat.zero_le _, fun h => by omega⟩
  · exact ⟨_, cap, rfl, hc, hm, fun _ => ⟨g, rfl, (Array.getElem?_eq_some_iff.1 hg).1⟩⟩
/-- The cell of a stone, and its corners. -/
theorem SRow.at {w : World} {B g n cap : Nat} {css : List (List (Int × Int))} (h : SRow w B (.slice (some ⟨g, 0, none⟩) n cap) css) (hn : css.length = n) (k : Nat) (hk : k < n) :
    ∃ a m c, w.cell? ⟨g, k, none⟩ = some (.slice a m c) ∧ Row w B (.slice a m c) (st css k) := by
  obtain ⟨vs, h1, h2, h3⟩ := h
  obtain ⟨a, c, hv, -⟩ := row_slice' (h3 k (by omega))
  refine ⟨a, _, c, ?_, by have := h3 k (by omega); rw [hv] at this; exact this⟩
  rw [hn] at h2
  rw [World.ownsRow.cellAt h2 k (by omega), ← hv, List.getD_eq_getElem?_getD, List.getElem?_eq_getElem (by omega)]
  rfl

theorem made_zeroS (n : Nat) : (madeCells (Value.agg #[.slice none 0 0]).cells (n * 1)).toList = List.replicate n (Value.slice none 0 0) := by
  unfold madeCells
  rw [Array.toList_map]
  refine List.ext_getElem (by simp) fun i h1 h2 => ?_
  rw [List.getElem_map, List.getElem_replicate]
  simp [Value.cells, Nat.mod_one]

theorem Try.infoSt : (Try.prog.info? 51).map (fun i => (i.zero, i.size, i.bytes)) = some (some (.agg #[.slice none 0 0]), 1, 24) := by kernel_rfl

end Go.Proofs.Ytoholdpobkgffaa
