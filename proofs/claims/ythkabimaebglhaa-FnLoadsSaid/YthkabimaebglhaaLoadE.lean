/- The draw of an arch with its loads. -/
import Derived.Test.YthkabimaebglhaaLoadD
namespace Go.Proofs.Ythkabimaebglhaa
set_option maxRecDepth 100000
open Go.ChangeShapes Go.WideShapes Go.ChangeAt Go.RowKit

/-- An arch and loads were drawn, in new memory; what was there is as it was. -/
def NewLoaded (w : World) (e : Ending) (w' : World) : Prop :=
  ∃ (g cap n : Nat) (js : List Jt) (v : Value) (ls : List Ld), Fine 4 js ∧ js.length = n ∧ ls.length ≤ 3 ∧ LdsNear n ls ∧ e = .returned (.tuple #[.agg #[.slice (some ⟨g, 0, none⟩) n cap], v]) ∧ JRowAt w' w.heap.size g cap js ∧ LRow w' w.heap.size v ls ∧ Below w.heap.size w w'

set_option maxHeartbeats 2000000 in
theorem drawLoaded (w : World) (a : Option Addr) (n cap : Nat) (zs : List Int) (hr : IsCode w a n cap zs) :
    Calls Try.prog 10 #[.slice a n cap] w (NewLoaded w) := by
  have hb0 := (Below.refl w.heap.size w).alloc (Nat.le_refl _) (.cells #[.slice none 0 0] 26)
  have hr1 : IsCode (w.alloc (.cells #[.slice none 0 0] 26)) a n cap zs := hr.below hb0
  have HB0 := Lib.hid hb0
  clear hr hb0
  go_enter Try.func10, Try.ntmps10
  go_wp2_with fail
  refine (new_any _ _ _ _ zs hr1).mono ?_
  rintro e w1 ⟨rfl, hc1, hb1, hz1⟩
  simp only [World.size_alloc] at hc1 hz1
  have rc1 : w1.cell? ⟨w.heap.size, 0, none⟩ = some (.slice none 0 0) := (hb1.cell (p := ⟨w.heap.size, 0, none⟩) (by simp)).trans (by go_simp)
  have rf1 : w1.frozen? ⟨w.heap.size, 0, none⟩ = false := (hb1.frozen (p := ⟨w.heap.size, 0, none⟩) (by simp)).trans (by go_simp)
  have HB1 := Lib.hid (HB0.out.trans (hb1.mono (by simp)))
  have RC1 := Lib.hid rc1
  have RF1 := Lib.hid rf1
  clear hr1 hb1 rc1 rf1
  go_wp2_with fail
  refine (arch_cur _ _ _ _ _ hc1).mono ?_
  rintro e w2 ⟨⟨g, cp, m, js, hf, hm, rfl, hrow, hgr⟩, hc2⟩
  have rc2 := (World.grownBy.cell_far hgr ⟨w.heap.size, 0, none⟩ (by simp; omega) (by simp)).trans RC1.out
  have rf2 := (World.grownBy.frozen_far hgr ⟨w.heap.size, 0, none⟩ (by simp; omega) (by simp)).trans RF1.out
  have hz2 := hgr.size
  have hlt := hrow.lt
  have hal := (Below.refl w2.heap.size w2).alloc (Nat.le_refl _) (.cells #[.slice (some ⟨g, 0, none⟩) m cp] 26)
  have HB2 := Lib.hid ((HB1.out.grown hgr HB1.out.size (fun k hk => by cases hk; omega)).alloc (by omega) (.cells #[.slice (some ⟨g, 0, none⟩) m cp] 26))
  have HR2 := Lib.hid (JRowAt.below hrow hal)
  have HC2 := Lib.hid (hc2.alloc (.cells #[.slice (some ⟨g, 0, none⟩) m cp] 26))
  have HF := Lib.hid hf
  have HM := Lib.hid hm
  have rc3 : (w2.alloc (.cells #[.slice (some ⟨g, 0, none⟩) m cp] 26)).cell? ⟨w.heap.size, 0, none⟩ = some (.slice none 0 0) := cell_kept rc2 hal
  have rf3 : (w2.alloc (.cells #[.slice (some ⟨g, 0, none⟩) m cp] 26)).frozen? ⟨w.heap.size, 0, none⟩ = false := frozen_kept rf2 rc2 hal
  have bx3 : (w2.alloc (.cells #[.slice (some ⟨g, 0, none⟩) m cp] 26)).cell? ⟨w2.heap.size, 0, none⟩ = some (.slice (some ⟨g, 0, none⟩) m cp) := by go_simp
  have RC3 := Lib.hid rc3
  have RF3 := Lib.hid rf3
  have BX3 := Lib.hid bx3
  clear hgr hrow hf hm hc1 hc2 hal rc2 rf2 rc3 rf3 bx3
  go_wp2_with fail
  generalize hW : w2.alloc (.cells #[.slice (some ⟨g, 0, none⟩) m cp] 26) = W at *
  have hzW : w2.heap.size < W.heap.size := by rw [← hW]; simp
  have rc3 := RC3.out
  have rf3 := RF3.out
  have bx3 := BX3.out
  have hne : w.heap.size + 1 ≠ g := by omega
  have hnb : w.heap.size ≠ w2.heap.size := by omega
  have hng : w.heap.size ≠ g := by omega
  clear hW
  go_region_law
    (first
      | (go_simp; go_at_call 34
         refine (loads_any _ (w.heap.size + 1) a n cap w1.heap.size g m cp js (by first | exact HC2.out | exact HC2.out.drewN _) (by first | exact HR2.out | exact (show JRowAt _ _ _ _ _ from HR2.out)) HM.out HF.out hne).mono ?_
         rintro e w4 ⟨v, ls, rfl, hrow4, hl4, hn4, hg4⟩
         have hg4' : W.grownBy w4 (some (w.heap.size + 1)) := ⟨hg4.os, hg4.tape, hg4.output, hg4.size, hg4.block⟩
         have rc4 : w4.cell? ⟨w.heap.size, 0, none⟩ = some (.slice none 0 0) := (World.grownBy.cell_far hg4' ⟨w.heap.size, 0, none⟩ (cell_block_lt rc3) (by simp)).trans rc3
         have rf4 : w4.frozen? ⟨w.heap.size, 0, none⟩ = false := (World.grownBy.frozen_far hg4' ⟨w.heap.size, 0, none⟩ (cell_block_lt rc3) (by simp)).trans rf3
         have bx4 : w4.cell? ⟨w2.heap.size, 0, none⟩ = some (.slice (some ⟨g, 0, none⟩) m cp) := (World.grownBy.cell_far hg4' ⟨w2.heap.size, 0, none⟩ (cell_block_lt bx3) (by simp; omega)).trans bx3
         have HB4 : RowKit.Hid (Below w.heap.size w w4) := Lib.hid (HB2.out.grown hg4' HB2.out.size (fun k hk => by cases hk; omega))
         have HR4 : RowKit.Hid (JRowAt w4 w1.heap.size g cp js) := Lib.hid (World.ownsRow.kept HR2.out hg4' (.inr (by simp [Value.ownBlock]; omega)))
         have HV4 : RowKit.Hid (LRow w4 W.heap.size v ls) := Lib.hid (hrow4.base (by simp))
         have HX4 : RowKit.Hid (ls.length ≤ 3 ∧ LdsNear m ls) := Lib.hid ⟨hl4, hn4⟩
         clear hrow4 hl4 hn4 hg4 hg4'))
  all_goals
    go_wp2_with fail
    refine bodyPost_ret (v := .tuple #[.agg #[.slice (some ⟨g, 0, none⟩) m cp], v]) (by simp [results, Try.results10, go_sem, rc4]) rfl ⟨g, cp, m, js, v, ls, HF.out, HM.out, HX4.out.1, HX4.out.2, rfl, ?_, ?_, ?_⟩
    · exact JRowAt.base (JRowAt.store HR4.out _ _ hng _) (by omega)
    · exact owns_base (ownsRow_setCell_other HV4.out (a := ⟨w.heap.size, 0, none⟩) (fun he => by have := (World.ownsRow.lt HV4.out _ he).1; dsimp only at this; omega) _) (by omega)
    · exact HB4.out.setCell (p := ⟨w.heap.size, 0, none⟩) (Nat.le_refl _) _
end Go.Proofs.Ythkabimaebglhaa
