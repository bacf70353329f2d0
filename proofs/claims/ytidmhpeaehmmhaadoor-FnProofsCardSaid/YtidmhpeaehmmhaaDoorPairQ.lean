/- The draw of conditions and a proof, from the code. -/
import Derived.Test.YtidmhpeaehmmhaaDoorPairD
import Derived.Test.YtidmhpeaehmmhaaDoorThrustD
namespace Go.Proofs.YtidmhpeaehmmhaaDoor
set_option maxRecDepth 100000
open Go.ChangeShapes Go.WideShapes Go.ChangeAt Go.RowKit
set_option linter.unusedSimpArgs false
set_option linter.unusedVariables false

/-- What the draw handed back; of what was there nothing has turned. -/
def DrawnPf (w : World) (e : Ending) (w' : World) : Prop :=
  ∃ (gr gp gf m fc : Nat) (rs : List Cd) (ps fs : List Int), e = .returned (.tuple #[.slice (some ⟨gr, 0, none⟩) 3 3, .agg #[.slice (some ⟨gp, 0, none⟩) 2 2, .slice (some ⟨gf, 0, none⟩) m fc]]) ∧ Cds w' w.heap.size (some ⟨gr, 0, none⟩) 3 3 rs ∧ Ins w' w.heap.size (some ⟨gp, 0, none⟩) 2 2 ps ∧ Ins w' w.heap.size (some ⟨gf, 0, none⟩) m fc fs ∧ Below w.heap.size w w'

set_option maxHeartbeats 2000000 in
theorem drawProofs (w : World) (a : Option Addr) (n cap : Nat) (zs : List Int) (hr : IsCode w a n cap zs) :
    Calls Tryd.prog 5 #[.slice a n cap] w (DrawnPf w) := by
  have hr1 : IsCode (w.alloc (.cells #[.slice none 0 0, .slice none 0 0] 27)) a n cap zs := hr.below ((Below.refl _ _).alloc (by simp <;> omega) _)
  clear hr
  go_enter Tryd.func5, Tryd.ntmps5
  go_wp2_with fail
  refine (new_any _ _ _ _ zs hr1).mono ?_
  rintro e w1 ⟨rfl, hc1, hb1, hz1⟩
  clear hr1
  simp only [World.size_alloc] at hc1 hb1 hz1
  have HZ1 := Lib.hid hz1
  have HB1 := Lib.hid hb1
  have hl1 : w.heap.size + 1 < w1.heap.size := by omega
  clear hz1 hb1
  go_wp2_with fail
  refine (pair_any _ _ _ _ _ hc1).mono ?_
  rintro e w2 ⟨gr, gp, gf, m, fc, rs, ps, fs, rfl, hrs, hps, hfs, hg2⟩
  obtain ⟨kc0, kf0⟩ := kept_block HB1.out hg2 (by omega) w.heap.size (by omega) (by omega)
  have HRS := Lib.hid hrs
  have HPS := Lib.hid hps
  have HFS := Lib.hid hfs
  have HG2 := Lib.hid hg2
  have c00 : w2.cell? ⟨w.heap.size, 0, none⟩ = some (.slice none 0 0) := by rw [kc0]; go_simp
  have c01 : w2.cell? ⟨w.heap.size, 1, none⟩ = some (.slice none 0 0) := by rw [kc0]; go_simp
  have f00 : w2.frozen? ⟨w.heap.size, 0, none⟩ = false := by rw [kf0]; go_simp
  have f01 : w2.frozen? ⟨w.heap.size, 1, none⟩ = false := by rw [kf0]; go_simp
  have hm1 : w.heap.size < w2.heap.size := by have := HG2.out.size; omega
  clear kc0 kf0 hrs hps hfs hg2 hc1
  go_wp2_with fail
  go_region
  all_goals
    go_wp2_with fail
    refine World.any (p := fun W => bodyPost _ _ (DrawnPf w) _ _ W) (fun Z hW => ?_)
    have z0 : Z.cell? ⟨w.heap.size, 0, none⟩ = some (.slice (some ⟨gp, 0, none⟩) 2 2) := by subst hW; go_simp
    have z1 : Z.cell? ⟨w.heap.size, 1, none⟩ = some (.slice (some ⟨gf, 0, none⟩) m fc) := by subst hW; go_simp
    have hend : Cds Z w.heap.size (some ⟨gr, 0, none⟩) 3 3 rs ∧ Ins Z w.heap.size (some ⟨gp, 0, none⟩) 2 2 ps ∧ Ins Z w.heap.size (some ⟨gf, 0, none⟩) m fc fs ∧ Below w.heap.size w Z := by
      have k1 := HRS.out.ltG
      have k2 := HPS.out.ltG
      have k3 := HFS.out.ltG
      have G2 : w2.grownBy Z (some w.heap.size) := by
        subst hW
        first
          | exact grown_trans (grown_set (grown_setCell w2 _ 0 _) 1 _) (World.grownBy_alloc _ _ _)
          | exact grown_drew (grown_trans (grown_set (grown_setCell w2 _ 0 _) 1 _) (World.grownBy_alloc _ _ _))
          | exact grown_set (grown_set (World.grownBy_alloc w2 _ _) 0 _) 1 _
          | exact grown_drew (grown_set (grown_set (World.grownBy_alloc w2 _ _) 0 _) 1 _)
          | exact grown_trans (grown_drew (grown_set (grown_setCell w2 _ 0 _) 1 _)) (World.grownBy_alloc _ _ _)
          | exact grown_trans (grown_set (grown_drew (grown_setCell w2 _ 0 _)) 1 _) (World.grownBy_alloc _ _ _)
      have hw1 := ((Below.refl w.heap.size w).alloc (Nat.le_refl _) (.cells #[.slice none 0 0, .slice none 0 0] 27)).trans (HB1.out.mono (by omega))
      have hw2 := hw1.grown HG2.out (by omega) (fun k hk => by cases hk; omega)
      refine ⟨(HRS.out.keptG G2 (by simp; omega)).base (by omega), (HPS.out.keptG G2 (by simp; omega)).base (by omega), (HFS.out.keptG G2 (by simp; omega)).base (by omega), ?_⟩
      exact hw2.grown G2 (by omega) (fun k hk => by cases hk; omega)
    refine bodyPost_ret (v := .tuple #[.slice (some ⟨gr, 0, none⟩) 3 3, .agg #[.slice (some ⟨gp, 0, none⟩) 2 2, .slice (some ⟨gf, 0, none⟩) m fc]]) (by simp [results, Tryd.results5, go_sem, z0, z1]) rfl ⟨gr, gp, gf, m, fc, rs, ps, fs, rfl, hend.1, hend.2.1, hend.2.2.1, hend.2.2.2⟩
end Go.Proofs.YtidmhpeaehmmhaaDoor
