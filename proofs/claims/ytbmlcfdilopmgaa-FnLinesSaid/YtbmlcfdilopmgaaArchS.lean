/- The draw of a valid arch, from a draw's bytes; what follows of a drawn arch for two neighbours. -/
import Derived.Test.YtbmlcfdilopmgaaArchR
namespace Go.Proofs.Ytbmlcfdilopmgaa
set_option maxRecDepth 100000
open Go.ChangeShapes Go.WideShapes Go.ChangeAt Go.RowKit

/-- An arch was drawn, in new memory; what was there is as it was. -/
def NewFine (w : World) (e : Ending) (w' : World) : Prop :=
  ∃ (g cap n : Nat) (js : List Jt), Fine 4 js ∧ js.length = n ∧ e = .returned (.agg #[.slice (some ⟨g, 0, none⟩) n cap]) ∧ JRowAt w' w.heap.size g cap js ∧ Below w.heap.size w w'


/-- Two neighbours of a drawn arch. -/
theorem arch_pair {js : List Jt} {ix iy ox oy : Int} {i : Nat} {b : Jt} (hf : Fine 4 js) (hi : i + 1 < js.length) (ha : jt js i = ((ix, iy), (ox, oy))) (hb : jt js (i + 1) = b) :
    okJ ix iy ox oy = true ∧ onV ix iy ox oy ix iy = true ∧ onV ix iy ox oy ox oy = true ∧ onV ix iy ox oy (2 * ox - ix) (2 * oy - iy) = false ∧ stoneV (betw ((ix, iy), (ox, oy)) b) = true ∧ inV (betw ((ix, iy), (ox, oy)) b) (ix, iy) = true ∧
    flatV ix iy ox oy = decide (iy = oy) ∧ mirX (mirX ix iy 3) iy 3 = ix ∧ mirX (mirX ox oy 3) oy 3 = ox ∧ (-22 ≤ ix ∧ ix ≤ 22) ∧ (-22 ≤ iy ∧ iy ≤ 22) ∧ (-22 ≤ ox ∧ ox ≤ 22) ∧ -22 ≤ oy ∧ oy ≤ 22 := by
  obtain ⟨hv, hc⟩ := hf
  rw [archV_iff] at hv
  have hs := (link_stone (hv.1 i hi)).1
  rw [ha, hb] at hs
  have hn := hc i (by omega)
  rw [ha] at hn
  dsimp only at hn
  have hj := bet_joint hs
  have hin := in_first hs
  rw [(betw_cn _ _).1] at hin
  refine ⟨hj, on_first hj, on_last hj, on_beyond hj, hs, hin, by unfold flatV; rw [hj]; rfl, mirX_there_back (by omega) (by omega) (by omega), mirX_there_back (by omega) (by omega) (by omega), by omega, by omega, by omega, by omega, by omega⟩
end Go.Proofs.Ytbmlcfdilopmgaa
