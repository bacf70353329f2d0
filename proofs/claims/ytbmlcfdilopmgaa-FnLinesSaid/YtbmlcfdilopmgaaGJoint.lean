/- Joints: the contracts of StoneBetween, of the program and of the model; Joints: the struct as it comes in, and the contracts of the functions on one joint: JointOk, IsOnJoint, IsFlat, MirrorJoint, of the program and of the model; Joints: the contracts of IsOnJoint, MirrorJoint, of the program and of the model. -/
import Derived.Test.YtbmlcfdilopmgaaGPlain
import Derived.Test.YtbmlcfdilopmgaaGStone
import Derived.Deep.Cut
import Derived.Deep.CutRange
import Derived.Deep.AppendLies
import Derived.Test.YtbmlcfdilopmgaaGPt
import Derived.Test.YtbmlcfdilopmgaaStoneC
import Derived.StillTailTactics

/- Joints: the contracts of StoneBetween, of the program and of the model. -/
namespace Go.Proofs.Ytbmlcfdilopmgaa
set_option maxRecDepth 100000
open Go.ChangeShapes Go.WideShapes Go.ChangeAt Go.RowKit

/-- A stone between two joints, and whether there is one, were handed back, in new memory; what was there is as it was. -/
def BetAns (a b : (Int × Int) × (Int × Int)) (w : World) (e : Ending) (w' : World) : Prop :=
  ∃ u, e = .returned (.tuple #[.agg #[u], .bool (stoneV (betw a b))]) ∧ Row w' w.heap.size u (betV a b) ∧ Below w.heap.size w w'

set_option maxHeartbeats 1000000 in
theorem implStoneBetween (ax ay bx by_ cx cy dx dy : Int) (w : World) :
    Calls Try.prog 115 #[.agg #[.int .i64 ax, .int .i64 ay, .int .i64 bx, .int .i64 by_], .agg #[.int .i64 cx, .int .i64 cy, .int .i64 dx, .int .i64 dy]] w (BetAns ((ax, ay), (bx, by_)) ((cx, cy), (dx, dy)) w) := by
  have hb0 := ((Below.refl w.heap.size w).alloc (Nat.le_refl _) (.cells #[.int .i64 ax, .int .i64 ay, .int .i64 bx, .int .i64 by_] 102)).alloc (by simp) (.cells #[.int .i64 cx, .int .i64 cy, .int .i64 dx, .int .i64 dy] 102)
  have hb1 := hb0.alloc (by simp <;> omega) (.cells #[.slice none 0 0] 129)
  have hb2 := hb1.alloc (by simp <;> omega) (.cells #[.int .i64 ax, .int .i64 ay, .int .i64 cx, .int .i64 cy, .int .i64 dx, .int .i64 dy, .int .i64 bx, .int .i64 by_] 100)
  have hb3 := hb2.alloc (by simp <;> omega) (.cells #[.slice (some ⟨w.heap.size + 1 + 1 + 1, 0, none⟩) 4 4] 129)
  have hrow : Row ((((((w.alloc (.cells #[.int .i64 ax, .int .i64 ay, .int .i64 bx, .int .i64 by_] 102)).alloc (.cells #[.int .i64 cx, .int .i64 cy, .int .i64 dx, .int .i64 dy] 102)).alloc (.cells #[.slice none 0 0] 129)).alloc (.cells #[.int .i64 ax, .int .i64 ay, .int .i64 cx, .int .i64 cy, .int .i64 dx, .int .i64 dy, .int .i64 bx, .int .i64 by_] 100))).alloc (.cells #[.slice (some ⟨w.heap.size + 1 + 1 + 1, 0, none⟩) 4 4] 129)) w.heap.size (.slice (some ⟨w.heap.size + 1 + 1 + 1, 0, none⟩) 4 4) (betw ((ax, ay), (bx, by_)) ((cx, cy), (dx, dy))) := by
    refine RowAt.alloc (B := w.heap.size) (g := w.heap.size + 1 + 1 + 1) (cap := 4) (cs := betw ((ax, ay), (bx, by_)) ((cx, cy), (dx, dy))) ?_ _
    have hro := World.ownsRow_lit (base := w.heap.size) (e := 100) (size := 2) (((w.alloc (.cells #[.int .i64 ax, .int .i64 ay, .int .i64 bx, .int .i64 by_] 102)).alloc (.cells #[.int .i64 cx, .int .i64 cy, .int .i64 dx, .int .i64 dy] 102)).alloc (.cells #[.slice none 0 0] 129)) #[.int .i64 ax, .int .i64 ay, .int .i64 cx, .int .i64 cy, .int .i64 dx, .int .i64 dy, .int .i64 bx, .int .i64 by_] 4 (by simp; omega) (by unfold maxLen; omega) rfl
    simp only [World.size_alloc] at hro
    exact hro
  have HB3 := Lib.hid hb3
  have HR := Lib.hid hrow
  clear hb0 hb1 hb2 hb3 hrow
  generalize hc : betw ((ax, ay), (bx, by_)) ((cx, cy), (dx, dy)) = cs at HR
  have HC := Lib.hid hc
  clear hc
  go_enter Try.func115, Try.ntmps115
  go_wp2_with fail
  refine (implStoneOk _ _ _ cs HR.out).mono ?_
  rintro e w1 ⟨rfl, hb⟩
  have HR1 := Lib.hid (Row.below HR.out hb)
  have HB1 := Lib.hid (HB3.out.trans (hb.mono HB3.out.size))
  have hz := hb.size
  simp only [World.size_alloc] at hz
  obtain ⟨hc1, hf1⟩ := bcell hb
  have s1 : w1.cell? ⟨w.heap.size + 1 + 1 + 1 + 1, 0, none⟩ = some (.slice (some ⟨w.heap.size + 1 + 1 + 1, 0, none⟩) 4 4) := by rw [hc1 _ _ (by simp <;> omega)]; go_simp
  have r1 : w1.cell? ⟨w.heap.size + 1 + 1, 0, none⟩ = some (.slice none 0 0) := by rw [hc1 _ _ (by simp <;> omega)]; go_simp
  have f1 : w1.frozen? ⟨w.heap.size + 1 + 1, 0, none⟩ = false := by rw [hf1 _ _ (by simp <;> omega)]; go_simp
  clear hb hc1 hf1
  cases hs : stoneV cs
  · have HS := Lib.hid hs
    clear hs
    go_wp2_with fail
    refine bodyPost_ret (v := .tuple #[.agg #[.slice none 0 0], .bool false]) (by simp [results, Try.results115, go_sem, r1]) rfl ⟨.slice none 0 0, ?_, ?_, ?_⟩
    · rw [HC.out, HS.out]
    · rw [betV_no (by rw [HC.out]; exact HS.out)]; exact Row.nil _ _
    · exact HB1.out.setCell (p := ⟨w.heap.size + 1 + 1, 0, none⟩) (by show _ ≤ w.heap.size + 1 + 1; omega) _
  · have HS := Lib.hid hs
    clear hs
    go_wp2_with fail
    refine bodyPost_ret (v := .tuple #[.agg #[.slice (some ⟨w.heap.size + 1 + 1 + 1, 0, none⟩) 4 4], .bool true]) (by simp [results, Try.results115, go_sem, r1]) rfl ⟨.slice (some ⟨w.heap.size + 1 + 1 + 1, 0, none⟩) 4 4, ?_, ?_, ?_⟩
    · rw [HC.out, HS.out]
    · rw [betV_yes (by rw [HC.out]; exact HS.out), HC.out]
      exact ownsRow_setCell_other HR1.out (a := ⟨w.heap.size + 1 + 1, 0, none⟩) (fun he => by simp [Value.ownBlock] at he) _
    · exact HB1.out.setCell (p := ⟨w.heap.size + 1 + 1, 0, none⟩) (by show _ ≤ w.heap.size + 1 + 1; omega) _

set_option maxHeartbeats 1000000 in
theorem specStoneBetween (ax ay bx by_ cx cy dx dy : Int) (w : World) :
    Calls Try.prog 77 #[.agg #[.int .i64 ax, .int .i64 ay, .int .i64 bx, .int .i64 by_], .agg #[.int .i64 cx, .int .i64 cy, .int .i64 dx, .int .i64 dy]] w (BetAns ((ax, ay), (bx, by_)) ((cx, cy), (dx, dy)) w) := by
  have hb0 := ((Below.refl w.heap.size w).alloc (Nat.le_refl _) (.cells #[.int .i64 ax, .int .i64 ay, .int .i64 bx, .int .i64 by_] 102)).alloc (by simp) (.cells #[.int .i64 cx, .int .i64 cy, .int .i64 dx, .int .i64 dy] 102)
  have hb1 := hb0.alloc (by simp <;> omega) (.cells #[.slice none 0 0] 129)
  have hb2 := hb1.alloc (by simp <;> omega) (.cells #[.int .i64 ax, .int .i64 ay, .int .i64 cx, .int .i64 cy, .int .i64 dx, .int .i64 dy, .int .i64 bx, .int .i64 by_] 100)
  have hb3 := hb2.alloc (by simp <;> omega) (.cells #[.slice (some ⟨w.heap.size + 1 + 1 + 1, 0, none⟩) 4 4] 129)
  have hrow : Row ((((((w.alloc (.cells #[.int .i64 ax, .int .i64 ay, .int .i64 bx, .int .i64 by_] 102)).alloc (.cells #[.int .i64 cx, .int .i64 cy, .int .i64 dx, .int .i64 dy] 102)).alloc (.cells #[.slice none 0 0] 129)).alloc (.cells #[.int .i64 ax, .int .i64 ay, .int .i64 cx, .int .i64 cy, .int .i64 dx, .int .i64 dy, .int .i64 bx, .int .i64 by_] 100))).alloc (.cells #[.slice (some ⟨w.heap.size + 1 + 1 + 1, 0, none⟩) 4 4] 129)) w.heap.size (.slice (some ⟨w.heap.size + 1 + 1 + 1, 0, none⟩) 4 4) (betw ((ax, ay), (bx, by_)) ((cx, cy), (dx, dy))) := by
    refine RowAt.alloc (B := w.heap.size) (g := w.heap.size + 1 + 1 + 1) (cap := 4) (cs := betw ((ax, ay), (bx, by_)) ((cx, cy), (dx, dy))) ?_ _
    have hro := World.ownsRow_lit (base := w.heap.size) (e := 100) (size := 2) (((w.alloc (.cells #[.int .i64 ax, .int .i64 ay, .int .i64 bx, .int .i64 by_] 102)).alloc (.cells #[.int .i64 cx, .int .i64 cy, .int .i64 dx, .int .i64 dy] 102)).alloc (.cells #[.slice none 0 0] 129)) #[.int .i64 ax, .int .i64 ay, .int .i64 cx, .int .i64 cy, .int .i64 dx, .int .i64 dy, .int .i64 bx, .int .i64 by_] 4 (by simp; omega) (by unfold maxLen; omega) rfl
    simp only [World.size_alloc] at hro
    exact hro
  have HB3 := Lib.hid hb3
  have HR := Lib.hid hrow
  clear hb0 hb1 hb2 hb3 hrow
  generalize hc : betw ((ax, ay), (bx, by_)) ((cx, cy), (dx, dy)) = cs at HR
  have HC := Lib.hid hc
  clear hc
  go_enter Try.func77, Try.ntmps77
  go_wp2_with fail
  refine (specStoneOk _ _ _ cs HR.out).mono ?_
  rintro e w1 ⟨rfl, hb⟩
  have HR1 := Lib.hid (Row.below HR.out hb)
  have HB1 := Lib.hid (HB3.out.trans (hb.mono HB3.out.size))
  have hz := hb.size
  simp only [World.size_alloc] at hz
  obtain ⟨hc1, hf1⟩ := bcell hb
  have s1 : w1.cell? ⟨w.heap.size + 1 + 1 + 1 + 1, 0, none⟩ = some (.slice (some ⟨w.heap.size + 1 + 1 + 1, 0, none⟩) 4 4) := by rw [hc1 _ _ (by simp <;> omega)]; go_simp
  have r1 : w1.cell? ⟨w.heap.size + 1 + 1, 0, none⟩ = some (.slice none 0 0) := by rw [hc1 _ _ (by simp <;> omega)]; go_simp
  have f1 : w1.frozen? ⟨w.heap.size + 1 + 1, 0, none⟩ = false := by rw [hf1 _ _ (by simp <;> omega)]; go_simp
  clear hb hc1 hf1
  cases hs : stoneV cs
  · have HS := Lib.hid hs
    clear hs
    go_wp2_with fail
    refine bodyPost_ret (v := .tuple #[.agg #[.slice none 0 0], .bool false]) (by simp [results, Try.results77, go_sem, r1]) rfl ⟨.slice none 0 0, ?_, ?_, ?_⟩
    · rw [HC.out, HS.out]
    · rw [betV_no (by rw [HC.out]; exact HS.out)]; exact Row.nil _ _
    · exact HB1.out.setCell (p := ⟨w.heap.size + 1 + 1, 0, none⟩) (by show _ ≤ w.heap.size + 1 + 1; omega) _
  · have HS := Lib.hid hs
    clear hs
    go_wp2_with fail
    refine bodyPost_ret (v := .tuple #[.agg #[.slice (some ⟨w.heap.size + 1 + 1 + 1, 0, none⟩) 4 4], .bool true]) (by simp [results, Try.results77, go_sem, r1]) rfl ⟨.slice (some ⟨w.heap.size + 1 + 1 + 1, 0, none⟩) 4 4, ?_, ?_, ?_⟩
    · rw [HC.out, HS.out]
    · rw [betV_yes (by rw [HC.out]; exact HS.out), HC.out]
      exact ownsRow_setCell_other HR1.out (a := ⟨w.heap.size + 1 + 1, 0, none⟩) (fun he => by simp [Value.ownBlock] at he) _
    · exact HB1.out.setCell (p := ⟨w.heap.size + 1 + 1, 0, none⟩) (by show _ ≤ w.heap.size + 1 + 1; omega) _

end Go.Proofs.Ytbmlcfdilopmgaa

/- Joints: the struct as it comes in, and the contracts of the functions on one joint: JointOk, IsOnJoint, IsFlat, MirrorJoint, of the program and of the model. -/
namespace Go.Proofs.Ytbmlcfdilopmgaa
set_option maxRecDepth 100000
open Go.ChangeShapes Go.WideShapes Go.ChangeAt Go.RowKit Go.Joins Go.Deep

theorem frozen_after {w w' : World} {b o o' n : Nat} {v : Value} (hf : w.frozen? ⟨b, o, none⟩ = false) (h : w.cell? ⟨b, o', none⟩ = some v) (k : Below (w.drewN n).heap.size (w.drewN n) w') : w'.frozen? ⟨b, o, none⟩ = false :=
  (k.frozen (p := ⟨b, o, none⟩) (show b < w.heap.size from cell_block_lt h)).trans hf
theorem frozen_kept {w w' : World} {b o o' : Nat} {v : Value} (hf : w.frozen? ⟨b, o, none⟩ = false) (h : w.cell? ⟨b, o', none⟩ = some v) (k : Below w.heap.size w w') : w'.frozen? ⟨b, o, none⟩ = false :=
  (k.frozen (p := ⟨b, o, none⟩) (show b < w.heap.size from cell_block_lt h)).trans hf

theorem cellsJoint : Try.prog.cellsOf 118 = 4 := by kernel_rfl

/-- Two cells that read as a point are two ints. -/
theorem point_cells {H : Type} {enc : TypeId × Value → H} {w : World} {base fuel : Nat} {spare : Nat → Bool} {held : Bool} {c0 c1 : Value} {d : DataW H × List MemPlace}
    (hf : DataW.trod enc Try.prog w base spare held fuel 116 [c0, c1] = some d) : ∃ x y : Int, c0 = .int .i64 x ∧ c1 = .int .i64 y ∧ I64 x ∧ I64 y := by
  obtain ⟨y0, y1, n, hx, -, h0, h1⟩ := trod_struct2 Try.underlying116 hf
  have ci : Try.prog.cellsOf 3 = 1 := by kernel_rfl
  simp only [ci, List.drop_zero, List.take_succ_cons, List.take_zero, List.drop_succ_cons] at h0 h1
  obtain ⟨a, e0, -, wa⟩ := DataW.trod_int Try.underlying3 h0
  obtain ⟨b, e1, -, wb⟩ := DataW.trod_int Try.underlying3 h1
  simp at e0 e1
  exact ⟨a, b, e0, e1, I64.of_wf wa, I64.of_wf wb⟩
/-- A joint that came in: four ints. -/
theorem open_joint {H : Type} {enc : TypeId × Value → H} {w : World} {r : Reach} {b0 base : Nat} {spare : Nat → Bool} {held : Bool} {v : Value} {d : DataW H} {p : List MemPlace}
    (hv : Value.okWide Try.prog w r b0 118 v) (h : DataW.Trod enc Try.prog w base spare held 118 v d p) :
    ∃ x y z u : Int, v = .agg #[.int .i64 x, .int .i64 y, .int .i64 z, .int .i64 u] ∧ I64 x ∧ I64 y ∧ I64 z ∧ I64 u := by
  obtain ⟨cs, rfl, hsz⟩ := okWide_struct Try.underlying118 hv
  obtain ⟨c0, c1, c2, c3, rfl⟩ := array4 (hsz.trans cellsJoint)
  obtain ⟨fuel, hf⟩ := h
  obtain ⟨y0, y1, n, hx, -, h0, h1⟩ := trod_struct2 Try.underlying118 hf
  have cp : Try.prog.cellsOf 116 = 2 := by kernel_rfl
  simp only [Value.cells, cp, List.drop_zero, List.take_succ_cons, List.take_zero, List.drop_succ_cons] at h0 h1
  obtain ⟨x, y, rfl, rfl, ix, iy⟩ := point_cells h0
  obtain ⟨z, u, rfl, rfl, iz, iu⟩ := point_cells h1
  exact ⟨x, y, z, u, rfl, ix, iy, iz, iu⟩

set_option maxHeartbeats 1000000 in
theorem toJoint (ax ay bx by_ : Int) (w : World) :
    Calls Try.prog 66 #[.agg #[.int .i64 ax, .int .i64 ay, .int .i64 bx, .int .i64 by_]] w fun e w' => e = .returned (.agg #[.int .i64 ax, .int .i64 ay, .int .i64 bx, .int .i64 by_]) ∧ Below w.heap.size w w' := by
  have hb0 := (((Below.refl w.heap.size w).alloc (by simp) (.cells #[.int .i64 ax, .int .i64 ay, .int .i64 bx, .int .i64 by_] 118)).alloc (by simp) (.cells #[.int .i64 0, .int .i64 0, .int .i64 0, .int .i64 0] 102)).alloc (by simp <;> omega) (.cells #[.int .i64 0, .int .i64 0, .int .i64 0, .int .i64 0] 102)
  have HB0 := Lib.hid hb0
  clear hb0
  have b0 : (((w.alloc (.cells #[.int .i64 ax, .int .i64 ay, .int .i64 bx, .int .i64 by_] 118)).alloc (.cells #[.int .i64 0, .int .i64 0, .int .i64 0, .int .i64 0] 102)).alloc (.cells #[.int .i64 0, .int .i64 0, .int .i64 0, .int .i64 0] 102)).cell? ⟨w.heap.size, 0, none⟩ = some (.int .i64 ax) := by go_simp
  have b1 : (((w.alloc (.cells #[.int .i64 ax, .int .i64 ay, .int .i64 bx, .int .i64 by_] 118)).alloc (.cells #[.int .i64 0, .int .i64 0, .int .i64 0, .int .i64 0] 102)).alloc (.cells #[.int .i64 0, .int .i64 0, .int .i64 0, .int .i64 0] 102)).cell? ⟨w.heap.size, 1, none⟩ = some (.int .i64 ay) := by go_simp
  have b2 : (((w.alloc (.cells #[.int .i64 ax, .int .i64 ay, .int .i64 bx, .int .i64 by_] 118)).alloc (.cells #[.int .i64 0, .int .i64 0, .int .i64 0, .int .i64 0] 102)).alloc (.cells #[.int .i64 0, .int .i64 0, .int .i64 0, .int .i64 0] 102)).cell? ⟨w.heap.size, 2, none⟩ = some (.int .i64 bx) := by go_simp
  have b3 : (((w.alloc (.cells #[.int .i64 ax, .int .i64 ay, .int .i64 bx, .int .i64 by_] 118)).alloc (.cells #[.int .i64 0, .int .i64 0, .int .i64 0, .int .i64 0] 102)).alloc (.cells #[.int .i64 0, .int .i64 0, .int .i64 0, .int .i64 0] 102)).cell? ⟨w.heap.size, 3, none⟩ = some (.int .i64 by_) := by go_simp
  have r0 : (((w.alloc (.cells #[.int .i64 ax, .int .i64 ay, .int .i64 bx, .int .i64 by_] 118)).alloc (.cells #[.int .i64 0, .int .i64 0, .int .i64 0, .int .i64 0] 102)).alloc (.cells #[.int .i64 0, .int .i64 0, .int .i64 0, .int .i64 0] 102)).cell? ⟨w.heap.size + 1, 0, none⟩ = some (.int .i64 0) := by go_simp
  have r1 : (((w.alloc (.cells #[.int .i64 ax, .int .i64 ay, .int .i64 bx, .int .i64 by_] 118)).alloc (.cells #[.int .i64 0, .int .i64 0, .int .i64 0, .int .i64 0] 102)).alloc (.cells #[.int .i64 0, .int .i64 0, .int .i64 0, .int .i64 0] 102)).cell? ⟨w.heap.size + 1, 1, none⟩ = some (.int .i64 0) := by go_simp
  have r2 : (((w.alloc (.cells #[.int .i64 ax, .int .i64 ay, .int .i64 bx, .int .i64 by_] 118)).alloc (.cells #[.int .i64 0, .int .i64 0, .int .i64 0, .int .i64 0] 102)).alloc (.cells #[.int .i64 0, .int .i64 0, .int .i64 0, .int .i64 0] 102)).cell? ⟨w.heap.size + 1, 2, none⟩ = some (.int .i64 0) := by go_simp
  have r3 : (((w.alloc (.cells #[.int .i64 ax, .int .i64 ay, .int .i64 bx, .int .i64 by_] 118)).alloc (.cells #[.int .i64 0, .int .i64 0, .int .i64 0, .int .i64 0] 102)).alloc (.cells #[.int .i64 0, .int .i64 0, .int .i64 0, .int .i64 0] 102)).cell? ⟨w.heap.size + 1, 3, none⟩ = some (.int .i64 0) := by go_simp
  have o0 : (((w.alloc (.cells #[.int .i64 ax, .int .i64 ay, .int .i64 bx, .int .i64 by_] 118)).alloc (.cells #[.int .i64 0, .int .i64 0, .int .i64 0, .int .i64 0] 102)).alloc (.cells #[.int .i64 0, .int .i64 0, .int .i64 0, .int .i64 0] 102)).cell? ⟨w.heap.size + 1 + 1, 0, none⟩ = some (.int .i64 0) := by go_simp
  have o1 : (((w.alloc (.cells #[.int .i64 ax, .int .i64 ay, .int .i64 bx, .int .i64 by_] 118)).alloc (.cells #[.int .i64 0, .int .i64 0, .int .i64 0, .int .i64 0] 102)).alloc (.cells #[.int .i64 0, .int .i64 0, .int .i64 0, .int .i64 0] 102)).cell? ⟨w.heap.size + 1 + 1, 1, none⟩ = some (.int .i64 0) := by go_simp
  have o2 : (((w.alloc (.cells #[.int .i64 ax, .int .i64 ay, .int .i64 bx, .int .i64 by_] 118)).alloc (.cells #[.int .i64 0, .int .i64 0, .int .i64 0, .int .i64 0] 102)).alloc (.cells #[.int .i64 0, .int .i64 0, .int .i64 0, .int .i64 0] 102)).cell? ⟨w.heap.size + 1 + 1, 2, none⟩ = some (.int .i64 0) := by go_simp
  have o3 : (((w.alloc (.cells #[.int .i64 ax, .int .i64 ay, .int .i64 bx, .int .i64 by_] 118)).alloc (.cells #[.int .i64 0, .int .i64 0, .int .i64 0, .int .i64 0] 102)).alloc (.cells #[.int .i64 0, .int .i64 0, .int .i64 0, .int .i64 0] 102)).cell? ⟨w.heap.size + 1 + 1, 3, none⟩ = some (.int .i64 0) := by go_simp
  have f1 : ∀ o, (((w.alloc (.cells #[.int .i64 ax, .int .i64 ay, .int .i64 bx, .int .i64 by_] 118)).alloc (.cells #[.int .i64 0, .int .i64 0, .int .i64 0, .int .i64 0] 102)).alloc (.cells #[.int .i64 0, .int .i64 0, .int .i64 0, .int .i64 0] 102)).frozen? ⟨w.heap.size + 1, o, none⟩ = false := fun o => by go_simp
  have f2 : ∀ o, (((w.alloc (.cells #[.int .i64 ax, .int .i64 ay, .int .i64 bx, .int .i64 by_] 118)).alloc (.cells #[.int .i64 0, .int .i64 0, .int .i64 0, .int .i64 0] 102)).alloc (.cells #[.int .i64 0, .int .i64 0, .int .i64 0, .int .i64 0] 102)).frozen? ⟨w.heap.size + 1 + 1, o, none⟩ = false := fun o => by go_simp
  go_enter Try.func66, Try.ntmps66
  go_wp2_with fail
  refine (toPoint _ _ _).mono ?_
  rintro e w1 ⟨rfl, hb1⟩
  have g1 : ∀ o, w1.frozen? ⟨w.heap.size + 1, o, none⟩ = false := fun o => frozen_kept (f1 o) r0 hb1
  have g2 : ∀ o, w1.frozen? ⟨w.heap.size + 1 + 1, o, none⟩ = false := fun o => frozen_kept (f2 o) o0 hb1
  replace b0 := cell_kept b0 hb1
  replace b1 := cell_kept b1 hb1
  replace b2 := cell_kept b2 hb1
  replace b3 := cell_kept b3 hb1
  replace r0 := cell_kept r0 hb1
  replace r1 := cell_kept r1 hb1
  replace r2 := cell_kept r2 hb1
  replace r3 := cell_kept r3 hb1
  replace o0 := cell_kept o0 hb1
  replace o1 := cell_kept o1 hb1
  replace o2 := cell_kept o2 hb1
  replace o3 := cell_kept o3 hb1
  have HB1 := Lib.hid (HB0.out.trans (hb1.mono HB0.out.size))
  clear hb1 f1 f2 b0 b1
  go_wp2_with fail
  refine World.any (p := fun W => Calls _ _ _ W _) (fun W hW => ?_)
  have q0 : w.heap.size ≤ w.heap.size + 1 + 1 := by omega
  have q1 := HB1.out.setCell (p := ⟨w.heap.size + 1 + 1, 0, none⟩) q0 (.int .i64 ax)
  have q2 := q1.setCell (p := ⟨w.heap.size + 1 + 1, 1, none⟩) q0 (.int .i64 ay)
  have HBW : RowKit.Hid (Below w.heap.size w W) := Lib.hid (by subst hW; exact q2)
  have pr0 : W.cell? ⟨w.heap.size + 1, 0, none⟩ = some (.int .i64 0) := by subst hW; go_simp
  have pr1 : W.cell? ⟨w.heap.size + 1, 1, none⟩ = some (.int .i64 0) := by subst hW; go_simp
  have pr2 : W.cell? ⟨w.heap.size + 1, 2, none⟩ = some (.int .i64 0) := by subst hW; go_simp
  have pr3 : W.cell? ⟨w.heap.size + 1, 3, none⟩ = some (.int .i64 0) := by subst hW; go_simp
  have po0 : W.cell? ⟨w.heap.size + 1 + 1, 0, none⟩ = some (.int .i64 ax) := by subst hW; go_simp
  have po1 : W.cell? ⟨w.heap.size + 1 + 1, 1, none⟩ = some (.int .i64 ay) := by subst hW; go_simp
  have po2 : W.cell? ⟨w.heap.size + 1 + 1, 2, none⟩ = some (.int .i64 0) := by subst hW; go_simp
  have po3 : W.cell? ⟨w.heap.size + 1 + 1, 3, none⟩ = some (.int .i64 0) := by subst hW; go_simp
  have f1 : ∀ o, W.frozen? ⟨w.heap.size + 1, o, none⟩ = false := fun o => by subst hW; rw [World.frozen?_setCell, World.frozen?_setCell]; exact g1 o
  have f2 : ∀ o, W.frozen? ⟨w.heap.size + 1 + 1, o, none⟩ = false := fun o => by subst hW; rw [World.frozen?_setCell, World.frozen?_setCell]; exact g2 o
  clear hW q1 q2 g1 g2 HB0 HB1 b2 b3 r0 r1 r2 r3 o0 o1 o2 o3
  refine (toPoint _ _ _).mono ?_
  rintro e w2 ⟨rfl, hb2⟩
  have g1 : ∀ o, w2.frozen? ⟨w.heap.size + 1, o, none⟩ = false := fun o => frozen_kept (f1 o) pr0 hb2
  have g2 : ∀ o, w2.frozen? ⟨w.heap.size + 1 + 1, o, none⟩ = false := fun o => frozen_kept (f2 o) po0 hb2
  replace pr0 := cell_kept pr0 hb2
  replace pr1 := cell_kept pr1 hb2
  replace pr2 := cell_kept pr2 hb2
  replace pr3 := cell_kept pr3 hb2
  replace po0 := cell_kept po0 hb2
  replace po1 := cell_kept po1 hb2
  replace po2 := cell_kept po2 hb2
  replace po3 := cell_kept po3 hb2
  have HB2 := Lib.hid (HBW.out.trans (hb2.mono HBW.out.size))
  clear hb2 f1 f2 HBW
  go_wp2_with fail
  refine World.any (p := fun W => bodyPost _ _ _ _ _ W) (fun Z hW => ?_)
  have z0 : Z.cell? ⟨w.heap.size + 1, 0, none⟩ = some (.int .i64 ax) := by subst hW; go_simp
  have z1 : Z.cell? ⟨w.heap.size + 1, 1, none⟩ = some (.int .i64 ay) := by subst hW; go_simp
  have z2 : Z.cell? ⟨w.heap.size + 1, 2, none⟩ = some (.int .i64 bx) := by subst hW; go_simp
  have z3 : Z.cell? ⟨w.heap.size + 1, 3, none⟩ = some (.int .i64 by_) := by subst hW; go_simp
  have q3 : w.heap.size ≤ w.heap.size + 1 := by omega
  have HBZ : Below w.heap.size w Z := by
    subst hW
    repeat refine Below.setCell ?_ (by first | exact q3 | exact q0) _
    exact HB2.out
  clear hW pr0 pr1 pr2 pr3 po0 po1 po2 po3 g1 g2 HB2
  exact bodyPost_ret (v := .agg #[.int .i64 ax, .int .i64 ay, .int .i64 bx, .int .i64 by_]) (by simp [results, Try.results66, go_sem, z0, z1, z2, z3]) rfl ⟨rfl, HBZ⟩

set_option maxHeartbeats 400000 in
theorem eqJoint_same (ax ay bx by_ : Int) (w : World) :
    Calls Try.prog 67 #[.agg #[.int .i64 ax, .int .i64 ay, .int .i64 bx, .int .i64 by_], .agg #[.int .i64 ax, .int .i64 ay, .int .i64 bx, .int .i64 by_]] w fun e w' => e = .returned (.bool true) ∧ Below w.heap.size w w' := by
  have hb0 := ((Below.refl w.heap.size w).alloc (by simp) (.cells #[.int .i64 ax, .int .i64 ay, .int .i64 bx, .int .i64 by_] 102)).alloc (by simp) (.cells #[.int .i64 ax, .int .i64 ay, .int .i64 bx, .int .i64 by_] 102)
  have HB0 := Lib.hid hb0
  clear hb0
  go_enter Try.func67, Try.ntmps67
  go_wp2_with fail
  refine (eqPoint_same _ _ _).mono ?_
  rintro e w1 ⟨rfl, hb1⟩
  have HB1 := Lib.hid (HB0.out.trans (hb1.mono HB0.out.size))
  obtain ⟨hc1, hf1⟩ := bcell hb1
  clear hb1
  go_wp2_with fail
  refine (eqPoint_same _ _ _).mono ?_
  rintro e w2 ⟨rfl, hb2⟩
  have HB2 := Lib.hid (HB1.out.trans (hb2.mono HB1.out.size))
  clear hb2
  go_wp2_with fail
  go_ret
  exact ⟨rfl, HB2.out⟩

end Go.Proofs.Ytbmlcfdilopmgaa

/- Joints: the contracts of IsOnJoint, MirrorJoint, of the program and of the model. -/
namespace Go.Proofs.Ytbmlcfdilopmgaa
set_option maxRecDepth 100000
open Go.ChangeShapes Go.WideShapes Go.ChangeAt Go.RowKit Go.Joins Go.Deep

theorem isBetween (n a b : Int) (w : World) :
    Calls Try.prog 37 #[.int .i64 n, .int .i64 a, .int .i64 b] w fun e w' => e = .returned (.bool (amid n a b)) ∧ w = w' := by
  go_enter Try.func37, Try.ntmps37
  go_wp2
  all_goals
    go_ret
    refine ⟨ret_bool ?_, rfl⟩
    rw [Bool.eq_iff_iff, amid_iff]
    first
      | (rw [decide_eq_true_iff]; omega)
      | (simp only [Bool.false_eq_true, false_iff]; omega)

theorem l01InM (n a b lo hi : Int) (w : World) (h1 : lo = min a b) (h2 : hi = max a b) :
    Calls Try.prog 73 #[.int .i64 n, .int .i64 lo, .int .i64 hi] w fun e w' => e = .returned (.bool (amid n a b)) ∧ w = w' := by
  have hV : amid n a b = decide (lo ≤ n ∧ n ≤ hi) := by unfold amid; rw [h1, h2]
  rw [hV]
  clear hV h1 h2
  by_cases h : n < lo
  · go_enter Try.func73, Try.ntmps73
    go_wp2
    go_ret
    exact ⟨ret_bool (by simp <;> omega), rfl⟩
  · go_enter Try.func73, Try.ntmps73
    go_wp2
    go_ret
    exact ⟨ret_bool (by simp <;> omega), rfl⟩

theorem onV_j {ax ay bx by_ px py : Int} (h : okJ ax ay bx by_ = false) : onV ax ay bx by_ px py = false := by unfold onV; rw [h]; rfl
theorem onV_p {ax ay bx by_ px py : Int} (h : okP px py = false) : onV ax ay bx by_ px py = false := by unfold onV; rw [h]; simp
theorem onV_s {ax ay bx by_ px py : Int} (h : sideV ax ay bx by_ px py ≠ 0) : onV ax ay bx by_ px py = false := by unfold onV; rw [decide_eq_false h]; simp
theorem onV_yes {ax ay bx by_ px py : Int} (h : okJ ax ay bx by_ = true) (hp : okP px py = true) (hs : sideV ax ay bx by_ px py = 0) : onV ax ay bx by_ px py = (amid px ax bx && amid py ay by_) := by
  unfold onV; rw [h, hp, decide_eq_true hs]; rfl

end Go.Proofs.Ytbmlcfdilopmgaa
