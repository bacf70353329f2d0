/- The draw of a valid arch, from a draw's bytes; what follows of a drawn arch for two neighbours. -/
import Derived.Test.YtggkodhfhhjihaaDoorArchR
namespace Go.Proofs.YtggkodhfhhjihaaDoor
set_option maxRecDepth 100000
open Go.ChangeShapes Go.WideShapes Go.ChangeAt Go.RowKit

/-- An arch was drawn, in new memory; what was there is as it was. -/
def NewFine (w : World) (e : Ending) (w' : World) : Prop :=
  ∃ (g cap n : Nat) (js : List Jt), Fine 4 js ∧ js.length = n ∧ e = .returned (.agg #[.slice (some ⟨g, 0, none⟩) n cap]) ∧ JRowAt w' w.heap.size g cap js ∧ Below w.heap.size w w'

set_option maxHeartbeats 400000 in
theorem drawArch (w : World) (a : Option Addr) (n cap : Nat) (zs : List Int) (hr : IsCode w a n cap zs) :
    Calls Tryd.prog 6 #[.slice a n cap] w (NewFine w) := by
  have hb0 := (Below.refl w.heap.size w).alloc (Nat.le_refl _) (.cells #[.slice none 0 0] 26)
  have hr1 : IsCode (w.alloc (.cells #[.slice none 0 0] 26)) a n cap zs := hr.below hb0
  have HB0 := Lib.hid hb0
  clear hr hb0
  go_enter Tryd.func6, Tryd.ntmps6
  go_wp2_with fail
  refine (new_any _ _ _ _ zs hr1).mono ?_
  rintro e w1 ⟨rfl, hc1, hb1, hz1⟩
  simp only [World.size_alloc] at hc1 hz1
  have rc1 : w1.cell? ⟨w.heap.size, 0, none⟩ = some (.slice none 0 0) := (hb1.cell (p := ⟨w.heap.size, 0, none⟩) (by simp)).trans (by go_simp)
  have rf1 : w1.frozen? ⟨w.heap.size, 0, none⟩ = false := (hb1.frozen (p := ⟨w.heap.size, 0, none⟩) (by simp)).trans (by go_simp)
  have HB1 := Lib.hid (HB0.out.trans (hb1.mono (by simp)))
  have RC1 := Lib.hid rc1
  have RF1 := Lib.hid rf1
  clear hr1 hb1 rc1 rf1
  go_wp2_with fail
  refine (arch_any _ _ _ _ _ hc1).mono ?_
  rintro e w2 ⟨g, cp, m, js, hf, hm, rfl, hrow, hgr⟩
  have rc2 := (World.grownBy.cell_far hgr ⟨w.heap.size, 0, none⟩ (by simp; omega) (by simp)).trans RC1.out
  have rf2 := (World.grownBy.frozen_far hgr ⟨w.heap.size, 0, none⟩ (by simp; omega) (by simp)).trans RF1.out
  have HR := Lib.hid hrow
  have HF := Lib.hid hf
  have HM := Lib.hid hm
  have HB2 := Lib.hid (HB1.out.grown hgr HB1.out.size (fun k hk => by cases hk; omega))
  have hne : w.heap.size ≠ g := by have := hrow.lt; omega
  clear hgr hrow hf hc1 hm
  go_wp2_with fail
  refine bodyPost_ret (v := .agg #[.slice (some ⟨g, 0, none⟩) m cp]) (by simp [results, Tryd.results6, go_sem, rc2]) rfl ⟨g, cp, m, js, HF.out, HM.out, rfl, ?_, ?_⟩
  · exact JRowAt.base (JRowAt.store HR.out _ _ hne _) (by omega)
  · exact HB2.out.setCell (p := ⟨w.heap.size, 0, none⟩) (Nat.le_refl _) _

/-- Two neighbours of a drawn arch. -/
theorem arch_pair {js : List Jt} {ix iy ox oy : Int} {i : Nat} {b : Jt} (hf : Fine 4 js) (hi : i + 1 < js.length) (ha : jt js i = ((ix, iy), (ox, oy))) (hb : jt js (i + 1) = b) :
    okJ ix iy ox oy = true ∧ onV ix iy ox oy ix iy = true ∧ onV ix iy ox oy ox oy = true ∧ onV ix iy ox oy (2 * ox - ix) (2 * oy - iy) = false ∧ stoneV (betw ((ix, iy), (ox, oy)) b) = true ∧ inV (betw ((ix, iy), (ox, oy)) b) (ix, iy) = true ∧
    flatV ix iy ox oy = decide (iy = oy) ∧ mirX (mirX ix iy 3) iy 3 = ix ∧ mirX (mirX ox oy 3) oy 3 = ox ∧ (-22 ≤ ix ∧ ix ≤ 22) ∧ (-22 ≤ iy ∧ iy ≤ 22) ∧ (-22 ≤ ox ∧ ox ≤ 22) ∧ -22 ≤ oy ∧ oy ≤ 22 := by
  obtain ⟨hv, hc⟩ := hf
  rw [archV_iff] at hv
  have hs := (link_stone (hv.1 i hi)).1
  rw [ha, hb] at hs
  have hn := hc i (by omega)
  rw [ha] at hn
  dsimp only at hn
  have hj := bet_joint hs
  have hin := in_first hs
  rw [(betw_cn _ _).1] at hin
  refine ⟨hj, on_first hj, on_last hj, on_beyond hj, hs, hin, by unfold flatV; rw [hj]; rfl, mirX_there_back (by omega) (by omega) (by omega), mirX_there_back (by omega) (by omega) (by omega), by omega, by omega, by omega, by omega, by omega⟩
end Go.Proofs.YtggkodhfhhjihaaDoor
