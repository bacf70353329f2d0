/- Joints: the contracts of StoneBetween, of the program and of the model. -/
import Derived.Test.YtoholdpobkgffaaJointP
import Derived.Test.YtoholdpobkgffaaStoneI
import Derived.Test.YtoholdpobkgffaaStoneS
import Derived.Deep.Cut
import Derived.Deep.CutRange
import Derived.Deep.AppendLies
namespace Go.Proofs.Ytoholdpobkgffaa
set_option maxRecDepth 100000
open Go.ChangeShapes Go.WideShapes Go.ChangeAt Go.RowKit

/-- A stone between two joints, and whether there is one, were handed back, in new memory; what was there is as it was. -/
def BetAns (a b : (Int × Int) × (Int × Int)) (w : World) (e : Ending) (w' : World) : Prop :=
  ∃ u, e = .returned (.tuple #[.agg #[u], .bool (stoneV (betw a b))]) ∧ Row w' w.heap.size u (betV a b) ∧ Below w.heap.size w w'

set_option maxHeartbeats 1000000 in
theorem implStoneBetween (ax ay bx by_ cx cy dx dy : Int) (w : World) :
    Calls Try.prog 26 #[.agg #[.int .i64 ax, .int .i64 ay, .int .i64 bx, .int .i64 by_], .agg #[.int .i64 cx, .int .i64 cy, .int .i64 dx, .int .i64 dy]] w (BetAns ((ax, ay), (bx, by_)) ((cx, cy), (dx, dy)) w) := by
  have hb0 := ((Below.refl w.heap.size w).alloc (Nat.le_refl _) (.cells #[.int .i64 ax, .int .i64 ay, .int .i64 bx, .int .i64 by_] 38)).alloc (by simp) (.cells #[.int .i64 cx, .int .i64 cy, .int .i64 dx, .int .i64 dy] 38)
  have hb1 := hb0.alloc (by simp <;> omega) (.cells #[.slice none 0 0] 51)
  have hb2 := hb1.alloc (by simp <;> omega) (.cells #[.int .i64 ax, .int .i64 ay, .int .i64 cx, .int .i64 cy, .int .i64 dx, .int .i64 dy, .int .i64 bx, .int .i64 by_] 36)
  have hb3 := hb2.alloc (by simp <;> omega) (.cells #[.slice (some ⟨w.heap.size + 1 + 1 + 1, 0, none⟩) 4 4] 51)
  have hrow : Row ((((((w.alloc (.cells #[.int .i64 ax, .int .i64 ay, .int .i64 bx, .int .i64 by_] 38)).alloc (.cells #[.int .i64 cx, .int .i64 cy, .int .i64 dx, .int .i64 dy] 38)).alloc (.cells #[.slice none 0 0] 51)).alloc (.cells #[.int .i64 ax, .int .i64 ay, .int .i64 cx, .int .i64 cy, .int .i64 dx, .int .i64 dy, .int .i64 bx, .int .i64 by_] 36))).alloc (.cells #[.slice (some ⟨w.heap.size + 1 + 1 + 1, 0, none⟩) 4 4] 51)) w.heap.size (.slice (some ⟨w.heap.size + 1 + 1 + 1, 0, none⟩) 4 4) (betw ((ax, ay), (bx, by_)) ((cx, cy), (dx, dy))) := by
    refine RowAt.alloc (B := w.heap.size) (g := w.heap.size + 1 + 1 + 1) (cap := 4) (cs := betw ((ax, ay), (bx, by_)) ((cx, cy), (dx, dy))) ?_ _
    have hro := World.ownsRow_lit (base := w.heap.size) (e := 36) (size := 2) (((w.alloc (.cells #[.int .i64 ax, .int .i64 ay, .int .i64 bx, .int .i64 by_] 38)).alloc (.cells #[.int .i64 cx, .int .i64 cy, .int .i64 dx, .int .i64 dy] 38)).alloc (.cells #[.slice none 0 0] 51)) #[.int .i64 ax, .int .i64 ay, .int .i64 cx, .int .i64 cy, .int .i64 dx, .int .i64 dy, .int .i64 bx, .int .i64 by_] 4 (by simp; omega) (by unfold maxLen; omega) rfl
    simp only [World.size_alloc] at hro
    exact hro
  have HB3 := Lib.hid hb3
  have HR := Lib.hid hrow
  clear hb0 hb1 hb2 hb3 hrow
  generalize hc : betw ((ax, ay), (bx, by_)) ((cx, cy), (dx, dy)) = cs at HR
  have HC := Lib.hid hc
  clear hc
  go_enter Try.func26, Try.ntmps26
  go_wp2_with fail
  refine (implStoneOk _ _ _ cs HR.out).mono ?_
  rintro e w1 ⟨rfl, hb⟩
  have HR1 := Lib.hid (Row.below HR.out hb)
  have HB1 := Lib.hid (HB3.out.trans (hb.mono HB3.out.size))
  have hz := hb.size
  simp only [World.size_alloc] at hz
  obtain ⟨hc1, hf1⟩ := bcell hb
  have s1 : w1.cell? ⟨w.heap.size + 1 + 1 + 1 + 1, 0, none⟩ = some (.slice (some ⟨w.heap.size + 1 + 1 + 1, 0, none⟩) 4 4) := by rw [hc1 _ _ (by simp <;> omega)]; go_simp
  have r1 : w1.cell? ⟨w.heap.size + 1 + 1, 0, none⟩ = some (.slice none 0 0) := by rw [hc1 _ _ (by simp <;> omega)]; go_simp
  have f1 : w1.frozen? ⟨w.heap.size + 1 + 1, 0, none⟩ = false := by rw [hf1 _ _ (by simp <;> omega)]; go_simp
  clear hb hc1 hf1
  cases hs : stoneV cs
  · have HS := Lib.hid hs
    clear hs
    go_wp2_with fail
    refine bodyPost_ret (v := .tuple #[.agg #[.slice none 0 0], .bool false]) (by simp [results, Try.results26, go_sem, r1]) rfl ⟨.slice none 0 0, ?_, ?_, ?_⟩
    · rw [HC.out, HS.out]
    · rw [betV_no (by rw [HC.out]; exact HS.out)]; exact Row.nil _ _
    · exact HB1.out.setCell (p := ⟨w.heap.size + 1 + 1, 0, none⟩) (by show _ ≤ w.heap.size + 1 + 1; omega) _
  · have HS := Lib.hid hs
    clear hs
    go_wp2_with fail
    refine bodyPost_ret (v := .tuple #[.agg #[.slice (some ⟨w.heap.size + 1 + 1 + 1, 0, none⟩) 4 4], .bool true]) (by simp [results, Try.results26, go_sem, r1]) rfl ⟨.slice (some ⟨w.heap.size + 1 + 1 + 1, 0, none⟩) 4 4, ?_, ?_, ?_⟩
    · rw [HC.out, HS.out]
    · rw [betV_yes (by rw [HC.out]; exact HS.out), HC.out]
      exact ownsRow_setCell_other HR1.out (a := ⟨w.heap.size + 1 + 1, 0, none⟩) (fun he => by simp [Value.ownBlock] at he) _
    · exact HB1.out.setCell (p := ⟨w.heap.size + 1 + 1, 0, none⟩) (by show _ ≤ w.heap.size + 1 + 1; omega) _

set_option maxHeartbeats 1000000 in
theorem specStoneBetween (ax ay bx by_ cx cy dx dy : Int) (w : World) :
    Calls Try.prog 17 #[.agg #[.int .i64 ax, .int .i64 ay, .int .i64 bx, .int .i64 by_], .agg #[.int .i64 cx, .int .i64 cy, .int .i64 dx, .int .i64 dy]] w (BetAns ((ax, ay), (bx, by_)) ((cx, cy), (dx, dy)) w) := by
  have hb0 := ((Below.refl w.heap.size w).alloc (Nat.le_refl _) (.cells #[.int .i64 ax, .int .i64 ay, .int .i64 bx, .int .i64 by_] 38)).alloc (by simp) (.cells #[.int .i64 cx, .int .i64 cy, .int .i64 dx, .int .i64 dy] 38)
  have hb1 := hb0.alloc (by simp <;> omega) (.cells #[.slice none 0 0] 51)
  have hb2 := hb1.alloc (by simp <;> omega) (.cells #[.int .i64 ax, .int .i64 ay, .int .i64 cx, .int .i64 cy, .int .i64 dx, .int .i64 dy, .int .i64 bx, .int .i64 by_] 36)
  have hb3 := hb2.alloc (by simp <;> omega) (.cells #[.slice (some ⟨w.heap.size + 1 + 1 + 1, 0, none⟩) 4 4] 51)
  have hrow : Row ((((((w.alloc (.cells #[.int .i64 ax, .int .i64 ay, .int .i64 bx, .int .i64 by_] 38)).alloc (.cells #[.int .i64 cx, .int .i64 cy, .int .i64 dx, .int .i64 dy] 38)).alloc (.cells #[.slice none 0 0] 51)).alloc (.cells #[.int .i64 ax, .int .i64 ay, .int .i64 cx, .int .i64 cy, .int .i64 dx, .int .i64 dy, .int .i64 bx, .int .i64 by_] 36))).alloc (.cells #[.slice (some ⟨w.heap.size + 1 + 1 + 1, 0, none⟩) 4 4] 51)) w.heap.size (.slice (some ⟨w.heap.size + 1 + 1 + 1, 0, none⟩) 4 4) (betw ((ax, ay), (bx, by_)) ((cx, cy), (dx, dy))) := by
    refine RowAt.alloc (B := w.heap.size) (g := w.heap.size + 1 + 1 + 1) (cap := 4) (cs := betw ((ax, ay), (bx, by_)) ((cx, cy), (dx, dy))) ?_ _
    have hro := World.ownsRow_lit (base := w.heap.size) (e := 36) (size := 2) (((w.alloc (.cells #[.int .i64 ax, .int .i64 ay, .int .i64 bx, .int .i64 by_] 38)).alloc (.cells #[.int .i64 cx, .int .i64 cy, .int .i64 dx, .int .i64 dy] 38)).alloc (.cells #[.slice none 0 0] 51)) #[.int .i64 ax, .int .i64 ay, .int .i64 cx, .int .i64 cy, .int .i64 dx, .int .i64 dy, .int .i64 bx, .int .i64 by_] 4 (by simp; omega) (by unfold maxLen; omega) rfl
    simp only [World.size_alloc] at hro
    exact hro
  have HB3 := Lib.hid hb3
  have HR := Lib.hid hrow
  clear hb0 hb1 hb2 hb3 hrow
  generalize hc : betw ((ax, ay), (bx, by_)) ((cx, cy), (dx, dy)) = cs at HR
  have HC := Lib.hid hc
  clear hc
  go_enter Try.func17, Try.ntmps17
  go_wp2_with fail
  refine (specStoneOk _ _ _ cs HR.out).mono ?_
  rintro e w1 ⟨rfl, hb⟩
  have HR1 := Lib.hid (Row.below HR.out hb)
  have HB1 := Lib.hid (HB3.out.trans (hb.mono HB3.out.size))
  have hz := hb.size
  simp only [World.size_alloc] at hz
  obtain ⟨hc1, hf1⟩ := bcell hb
  have s1 : w1.cell? ⟨w.heap.size + 1 + 1 + 1 + 1, 0, none⟩ = some (.slice (some ⟨w.heap.size + 1 + 1 + 1, 0, none⟩) 4 4) := by rw [hc1 _ _ (by simp <;> omega)]; go_simp
  have r1 : w1.cell? ⟨w.heap.size + 1 + 1, 0, none⟩ = some (.slice none 0 0) := by rw [hc1 _ _ (by simp <;> omega)]; go_simp
  have f1 : w1.frozen? ⟨w.heap.size + 1 + 1, 0, none⟩ = false := by rw [hf1 _ _ (by simp <;> omega)]; go_simp
  clear hb hc1 hf1
  cases hs : stoneV cs
  · have HS := Lib.hid hs
    clear hs
    go_wp2_with fail
    refine bodyPost_ret (v := .tuple #[.agg #[.slice none 0 0], .bool false]) (by simp [results, Try.results17, go_sem, r1]) rfl ⟨.slice none 0 0, ?_, ?_, ?_⟩
    · rw [HC.out, HS.out]
    · rw [betV_no (by rw [HC.out]; exact HS.out)]; exact Row.nil _ _
    · exact HB1.out.setCell (p := ⟨w.heap.size + 1 + 1, 0, none⟩) (by show _ ≤ w.heap.size + 1 + 1; omega) _
  · have HS := Lib.hid hs
    clear hs
    go_wp2_with fail
    refine bodyPost_ret (v := .tuple #[.agg #[.slice (some ⟨w.heap.size + 1 + 1 + 1, 0, none⟩) 4 4], .bool true]) (by simp [results, Try.results17, go_sem, r1]) rfl ⟨.slice (some ⟨w.heap.size + 1 + 1 + 1, 0, none⟩) 4 4, ?_, ?_, ?_⟩
    · rw [HC.out, HS.out]
    · rw [betV_yes (by rw [HC.out]; exact HS.out), HC.out]
      exact ownsRow_setCell_other HR1.out (a := ⟨w.heap.size + 1 + 1, 0, none⟩) (fun he => by simp [Value.ownBlock] at he) _
    · exact HB1.out.setCell (p := ⟨w.heap.size + 1 + 1, 0, none⟩) (by show _ ≤ w.heap.size + 1 + 1; omega) _

end Go.Proofs.Ytoholdpobkgffaa
