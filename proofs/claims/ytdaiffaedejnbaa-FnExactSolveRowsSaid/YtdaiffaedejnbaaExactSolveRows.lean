/- For every three rows, FnExactSolveRows answers true: the program's SolveRows gives what the model's gives, both results. No condition. -/
import Derived.Test.YtdaiffaedejnbaaThreeK
import Derived.Test.YtdaiffaedejnbaaThreeS
import Derived.Test.YtdaiffaedejnbaaThrustX
import Derived.Test.YtdaiffaedejnbaaCdL
import Derived.Test.YtdaiffaedejnbaaRows
import Derived.WalkKit
import Derived.ProofKit
import Derived.OpenShut
import Derived.ShutString
import Derived.ChangeOld
import Derived.Below
namespace Go.Proofs.Ytdaiffaedejnbaa.fnExactSolveRows
set_option maxRecDepth 100000
open Go.ChangeShapes Go.WideShapes Go.ChangeAt Go.RowKit
open Go.ChangeMaps (open_string shut_string)
set_option linter.unusedVariables false

theorem own : ownKnob Try.prog.godebug = none := by kernel_rfl
theorem laidOut : laidOutB Try.prog = true := by kernel_rfl

/-! ### THE WALK: the Go text returns true, and writes nothing that was there. -/
set_option maxRecDepth 100000 in
set_option maxHeartbeats 8000000 in
theorem walk (jx0 jy0 jz0 ju0 : Int) (jx1 jy1 jz1 ju1 : Int) (jx2 jy2 jz2 ju2 : Int) (w : World) (g0 : I64 jx0 ∧ I64 jy0 ∧ I64 jz0 ∧ I64 ju0) (g1 : I64 jx1 ∧ I64 jy1 ∧ I64 jz1 ∧ I64 ju1) (g2 : I64 jx2 ∧ I64 jy2 ∧ I64 jz2 ∧ I64 ju2) :
    Calls Try.prog 5 #[.agg #[.int .i64 jx0, .int .i64 jy0, .int .i64 jz0, .int .i64 ju0], .agg #[.int .i64 jx1, .int .i64 jy1, .int .i64 jz1, .int .i64 ju1], .agg #[.int .i64 jx2, .int .i64 jy2, .int .i64 jz2, .int .i64 ju2]] w fun e w' => e = .returned (.bool true) ∧ Below w.heap.size w w' := by
  obtain ⟨ra, rb, rc, re, rt, hr⟩ := mkV_any (dtH (jx0, jy0, jz0, ju0) (jx1, jy1, jz1, ju1) (jx2, jy2, jz2, ju2)) (dtU (jx0, jy0, jz0, ju0) (jx1, jy1, jz1, ju1) (jx2, jy2, jz2, ju2)) (dtM (jx0, jy0, jz0, ju0) (jx1, jy1, jz1, ju1) (jx2, jy2, jz2, ju2)) (dtV (jx0, jy0, jz0, ju0) (jx1, jy1, jz1, ju1) (jx2, jy2, jz2, ju2))
  have HS := Lib.hid (fun W => specSolveRows jx0 jy0 jz0 ju0 jx1 jy1 jz1 ju1 jx2 jy2 jz2 ju2 W)
  have HI := Lib.hid (fun W => implSolveRows jx0 jy0 jz0 ju0 jx1 jy1 jz1 ju1 jx2 jy2 jz2 ju2 W)
  unfold soV at HI
  rw [hr] at HS HI
  clear hr
  have hTT : (rt != rt) = false := by simp
  have HK0 : RowKit.Hid (Known (((w.alloc (.cells #[.int .i64 jx0, .int .i64 jy0, .int .i64 jz0, .int .i64 ju0] 48)).alloc (.cells #[.int .i64 jx1, .int .i64 jy1, .int .i64 jz1, .int .i64 ju1] 48)).alloc (.cells #[.int .i64 jx2, .int .i64 jy2, .int .i64 jz2, .int .i64 ju2] 48)) [(w.heap.size, 0, .int .i64 jx0), (w.heap.size, 1, .int .i64 jy0), (w.heap.size, 2, .int .i64 jz0), (w.heap.size, 3, .int .i64 ju0), (w.heap.size + 1, 0, .int .i64 jx1), (w.heap.size + 1, 1, .int .i64 jy1), (w.heap.size + 1, 2, .int .i64 jz1), (w.heap.size + 1, 3, .int .i64 ju1), (w.heap.size + 1 + 1, 0, .int .i64 jx2), (w.heap.size + 1 + 1, 1, .int .i64 jy2), (w.heap.size + 1 + 1, 2, .int .i64 jz2), (w.heap.size + 1 + 1, 3, .int .i64 ju2)]) := Lib.hid (by
    simp only [known_cons]
    refine ⟨?_, ?_, ?_, ?_, ?_, ?_, ?_, ?_, ?_, ?_, ?_, ?_, Known.nil _⟩
    all_goals go_simp)
  have HB0 := Lib.hid (((Below.refl w.heap.size w).alloc (Nat.le_refl _) (.cells #[.int .i64 jx0, .int .i64 jy0, .int .i64 jz0, .int .i64 ju0] 48)).alloc (by simp) (.cells #[.int .i64 jx1, .int .i64 jy1, .int .i64 jz1, .int .i64 ju1] 48) |>.alloc (by simp <;> omega) (.cells #[.int .i64 jx2, .int .i64 jy2, .int .i64 jz2, .int .i64 ju2] 48))
  go_enter Try.func5, Try.ntmps5
  go_wp2_with fail
  refine World.any (p := fun W => Code.wp _ _ _ _ W) (fun W hW => ?_)
  have HKW : RowKit.Hid (Known W [(w.heap.size, 0, .int .i64 jx0), (w.heap.size, 1, .int .i64 jy0), (w.heap.size, 2, .int .i64 jz0), (w.heap.size, 3, .int .i64 ju0), (w.heap.size + 1, 0, .int .i64 jx1), (w.heap.size + 1, 1, .int .i64 jy1), (w.heap.size + 1, 2, .int .i64 jz1), (w.heap.size + 1, 3, .int .i64 ju1), (w.heap.size + 1 + 1, 0, .int .i64 jx2), (w.heap.size + 1 + 1, 1, .int .i64 jy2), (w.heap.size + 1 + 1, 2, .int .i64 jz2), (w.heap.size + 1 + 1, 3, .int .i64 ju2)]) := Lib.hid (by subst hW; exact HK0.out)
  have HBW : RowKit.Hid (Below w.heap.size w W) := Lib.hid (by subst hW; exact HB0.out)
  clear hW HK0 HB0
  obtain ⟨c00, c01, c02, c03, c10, c11, c12, c13, c20, c21, c22, c23⟩ : W.cell? ⟨w.heap.size, 0, none⟩ = some (.int .i64 jx0) ∧ W.cell? ⟨w.heap.size, 1, none⟩ = some (.int .i64 jy0) ∧ W.cell? ⟨w.heap.size, 2, none⟩ = some (.int .i64 jz0) ∧ W.cell? ⟨w.heap.size, 3, none⟩ = some (.int .i64 ju0) ∧ W.cell? ⟨w.heap.size + 1, 0, none⟩ = some (.int .i64 jx1) ∧ W.cell? ⟨w.heap.size + 1, 1, none⟩ = some (.int .i64 jy1) ∧ W.cell? ⟨w.heap.size + 1, 2, none⟩ = some (.int .i64 jz1) ∧ W.cell? ⟨w.heap.size + 1, 3, none⟩ = some (.int .i64 ju1) ∧ W.cell? ⟨w.heap.size + 1 + 1, 0, none⟩ = some (.int .i64 jx2) ∧ W.cell? ⟨w.heap.size + 1 + 1, 1, none⟩ = some (.int .i64 jy2) ∧ W.cell? ⟨w.heap.size + 1 + 1, 2, none⟩ = some (.int .i64 jz2) ∧ W.cell? ⟨w.heap.size + 1 + 1, 3, none⟩ = some (.int .i64 ju2) := by
    have hk := HKW.out
    simp only [known_cons] at hk
    exact ⟨hk.1, hk.2.1, hk.2.2.1, hk.2.2.2.1, hk.2.2.2.2.1, hk.2.2.2.2.2.1, hk.2.2.2.2.2.2.1, hk.2.2.2.2.2.2.2.1, hk.2.2.2.2.2.2.2.2.1, hk.2.2.2.2.2.2.2.2.2.1, hk.2.2.2.2.2.2.2.2.2.2.1, hk.2.2.2.2.2.2.2.2.2.2.2.1⟩
  have F0 := Lib.hid (fun (U : World) (hU : Below W.heap.size W U) => (⟨tcell c00 hU, tcell c01 hU, tcell c02 hU, tcell c03 hU, tcell c10 hU, tcell c11 hU, tcell c12 hU, tcell c13 hU, tcell c20 hU, tcell c21 hU, tcell c22 hU, tcell c23 hU⟩ : U.cell? ⟨w.heap.size, 0, none⟩ = some (.int .i64 jx0) ∧ U.cell? ⟨w.heap.size, 1, none⟩ = some (.int .i64 jy0) ∧ U.cell? ⟨w.heap.size, 2, none⟩ = some (.int .i64 jz0) ∧ U.cell? ⟨w.heap.size, 3, none⟩ = some (.int .i64 ju0) ∧ U.cell? ⟨w.heap.size + 1, 0, none⟩ = some (.int .i64 jx1) ∧ U.cell? ⟨w.heap.size + 1, 1, none⟩ = some (.int .i64 jy1) ∧ U.cell? ⟨w.heap.size + 1, 2, none⟩ = some (.int .i64 jz1) ∧ U.cell? ⟨w.heap.size + 1, 3, none⟩ = some (.int .i64 ju1) ∧ U.cell? ⟨w.heap.size + 1 + 1, 0, none⟩ = some (.int .i64 jx2) ∧ U.cell? ⟨w.heap.size + 1 + 1, 1, none⟩ = some (.int .i64 jy2) ∧ U.cell? ⟨w.heap.size + 1 + 1, 2, none⟩ = some (.int .i64 jz2) ∧ U.cell? ⟨w.heap.size + 1 + 1, 3, none⟩ = some (.int .i64 ju2)))
  have ZZ := Lib.hid (Below.refl W.heap.size W)
  have q0 := Nat.ne_of_lt (cell_block_lt c00)
  have q1 := Nat.ne_of_lt (cell_block_lt c10)
  have q2 := Nat.ne_of_lt (cell_block_lt c20)
  dsimp only at q0 q1 q2
  have n0 := Ne.symm q0
  have n1 := Ne.symm q1
  have n2 := Ne.symm q2
  go_cut [7, 8] from 11 to 20 (fun p q wx => ∃ b : Nat, p = .pointer (some ⟨b, 0, none⟩) ∧ q = .bool rt ∧ W.heap.size ≤ b ∧ wx.cell? ⟨b, 0, none⟩ = some (.int .i64 ra) ∧ wx.cell? ⟨b, 1, none⟩ = some (.int .i64 rb) ∧ wx.cell? ⟨b, 2, none⟩ = some (.int .i64 rc) ∧ wx.cell? ⟨b, 3, none⟩ = some (.int .i64 re) ∧ Below W.heap.size W wx)
  case first =>
    go_region_held3 (fun w' => w'.cell? ⟨w.heap.size, 0, none⟩ = some (.int .i64 jx0) ∧ w'.cell? ⟨w.heap.size, 1, none⟩ = some (.int .i64 jy0) ∧ w'.cell? ⟨w.heap.size, 2, none⟩ = some (.int .i64 jz0) ∧ w'.cell? ⟨w.heap.size, 3, none⟩ = some (.int .i64 ju0) ∧ w'.cell? ⟨w.heap.size + 1, 0, none⟩ = some (.int .i64 jx1) ∧ w'.cell? ⟨w.heap.size + 1, 1, none⟩ = some (.int .i64 jy1) ∧ w'.cell? ⟨w.heap.size + 1, 2, none⟩ = some (.int .i64 jz1) ∧ w'.cell? ⟨w.heap.size + 1, 3, none⟩ = some (.int .i64 ju1) ∧ w'.cell? ⟨w.heap.size + 1 + 1, 0, none⟩ = some (.int .i64 jx2) ∧ w'.cell? ⟨w.heap.size + 1 + 1, 1, none⟩ = some (.int .i64 jy2) ∧ w'.cell? ⟨w.heap.size + 1 + 1, 2, none⟩ = some (.int .i64 jz2) ∧ w'.cell? ⟨w.heap.size + 1 + 1, 3, none⟩ = some (.int .i64 ju2))
      (first | (exact F0.out _ ZZ.out) | (exact F0.out _ (tbelowD ZZ.out)) | (exact F0.out _ (below_drewN ZZ.out _)) | (exact F0.out _ (cal ZZ.out _)) | (exact F0.out _ (cal (tbelowD ZZ.out) _)) | (exact F0.out _ (cal (below_drewN ZZ.out _) _)) | (exact F0.out _ (tbelowD (cal ZZ.out _))) | (refine ⟨?_, ?_, ?_, ?_, ?_, ?_, ?_, ?_, ?_, ?_, ?_, ?_⟩ <;> exact tcell_sf (by assumption) (by assumption)) | go_keep | trivial)
      (first
        | (go_at_call_of 23 (Value.int .i64 jx0); refine (toRow _ _ _ _ _).mono ?_; rintro e y ⟨rfl, hy⟩; (first | (have z := ft_dal hy) | (have z := ft_al hy) | (have z := ft_keep z hy) | (have z := ft_keep z (ts_drew hy)) | skip); have ZZ : RowKit.Hid (Below W.heap.size W y) := Lib.hid (by first | exact cstep ZZ hy | exact cstepD ZZ hy | exact cstepA ZZ hy | exact cstepDA ZZ hy); clear hy; have sz := ZZ.out.size; have q0 := Nat.ne_of_lt (cell_block_lt (F0.out _ ZZ.out).1); have q1 := Nat.ne_of_lt (cell_block_lt (F0.out _ ZZ.out).2.2.2.2.1); have q2 := Nat.ne_of_lt (cell_block_lt (F0.out _ ZZ.out).2.2.2.2.2.2.2.2.1); dsimp only at q0 q1 q2; have n0 := Ne.symm q0; have n1 := Ne.symm q1; have n2 := Ne.symm q2)
        | (go_at_call_of 23 (Value.int .i64 jx1); refine (toRow _ _ _ _ _).mono ?_; rintro e y ⟨rfl, hy⟩; (first | (have z := ft_dal hy) | (have z := ft_al hy) | (have z := ft_keep z hy) | (have z := ft_keep z (ts_drew hy)) | skip); have ZZ : RowKit.Hid (Below W.heap.size W y) := Lib.hid (by first | exact cstep ZZ hy | exact cstepD ZZ hy | exact cstepA ZZ hy | exact cstepDA ZZ hy); clear hy; have sz := ZZ.out.size; have q0 := Nat.ne_of_lt (cell_block_lt (F0.out _ ZZ.out).1); have q1 := Nat.ne_of_lt (cell_block_lt (F0.out _ ZZ.out).2.2.2.2.1); have q2 := Nat.ne_of_lt (cell_block_lt (F0.out _ ZZ.out).2.2.2.2.2.2.2.2.1); dsimp only at q0 q1 q2; have n0 := Ne.symm q0; have n1 := Ne.symm q1; have n2 := Ne.symm q2)
        | (go_at_call_of 23 (Value.int .i64 jx2); refine (toRow _ _ _ _ _).mono ?_; rintro e y ⟨rfl, hy⟩; (first | (have z := ft_dal hy) | (have z := ft_al hy) | (have z := ft_keep z hy) | (have z := ft_keep z (ts_drew hy)) | skip); have ZZ : RowKit.Hid (Below W.heap.size W y) := Lib.hid (by first | exact cstep ZZ hy | exact cstepD ZZ hy | exact cstepA ZZ hy | exact cstepDA ZZ hy); clear hy; have sz := ZZ.out.size; have q0 := Nat.ne_of_lt (cell_block_lt (F0.out _ ZZ.out).1); have q1 := Nat.ne_of_lt (cell_block_lt (F0.out _ ZZ.out).2.2.2.2.1); have q2 := Nat.ne_of_lt (cell_block_lt (F0.out _ ZZ.out).2.2.2.2.2.2.2.2.1); dsimp only at q0 q1 q2; have n0 := Ne.symm q0; have n1 := Ne.symm q1; have n2 := Ne.symm q2)
        | (go_at_call 24; refine (HS.out _).mono ?_; rintro e y ⟨rfl, hy⟩; (first | (have z := ft_dal hy) | (have z := ft_al hy) | (have z := ft_keep z hy) | (have z := ft_keep z (ts_drew hy)) | skip); have ZZ : RowKit.Hid (Below W.heap.size W y) := Lib.hid (by first | exact cstep ZZ hy | exact cstepD ZZ hy | exact cstepA ZZ hy | exact cstepDA ZZ hy); clear hy; have sz := ZZ.out.size; have q0 := Nat.ne_of_lt (cell_block_lt (F0.out _ ZZ.out).1); have q1 := Nat.ne_of_lt (cell_block_lt (F0.out _ ZZ.out).2.2.2.2.1); have q2 := Nat.ne_of_lt (cell_block_lt (F0.out _ ZZ.out).2.2.2.2.2.2.2.2.1); dsimp only at q0 q1 q2; have n0 := Ne.symm q0; have n1 := Ne.symm q1; have n2 := Ne.symm q2; obtain ⟨c00, c01, c02, c03, c10, c11, c12, c13, c20, c21, c22, c23⟩ := F0.out _ ZZ.out; (try (obtain ⟨zc, zd, ze, zh, zf, zl⟩ := z))))
    all_goals
      go_wp2_with fail
      go_meet
      refine ⟨_, rfl, rfl, by first | exact Nat.le_refl _ | with_reducible assumption | omega, by first | (go_simp; done) | (go_keep; done), by first | (go_simp; done) | (go_keep; done), by first | (go_simp; done) | (go_keep; done), by first | (go_simp; done) | (go_keep; done), ?_⟩
      first
        | (with_reducible exact ZZ.out)
        | (with_reducible exact cal ZZ.out _)
        | (with_reducible exact tbelowD (cal ZZ.out _))
        | (with_reducible exact cal (tbelowD ZZ.out) _)
        | (iterate 4 (with_reducible refine Below.setCell ?_ (by first | exact Nat.le_refl _ | with_reducible assumption | omega) _)); with_reducible exact ZZ.out
        | trace_state
  case rest =>
    obtain ⟨b5, rfl, rfl, -, k0, k1, k2, k3, hX⟩ := hcut
    have HK1 := Lib.hid (((((HKW.out.below hX).cons k3).cons k2).cons k1).cons k0)
    have HB1 := Lib.hid (HBW.out.trans (hX.mono HBW.out.size))
    clear hX k0 k1 k2 k3 HKW HBW F0 ZZ q0 q1 q2 n0 n1 n2 c00 c01 c02 c03 c10 c11 c12 c13 c20 c21 c22 c23
    go_wp2_with fail
    refine World.any (p := fun W => Code.wp _ _ _ _ W) (fun X hW => ?_)
    have HKX : RowKit.Hid (Known X ((b5, 0, .int .i64 ra) :: (b5, 1, .int .i64 rb) :: (b5, 2, .int .i64 rc) :: (b5, 3, .int .i64 re) :: [(w.heap.size, 0, .int .i64 jx0), (w.heap.size, 1, .int .i64 jy0), (w.heap.size, 2, .int .i64 jz0), (w.heap.size, 3, .int .i64 ju0), (w.heap.size + 1, 0, .int .i64 jx1), (w.heap.size + 1, 1, .int .i64 jy1), (w.heap.size + 1, 2, .int .i64 jz1), (w.heap.size + 1, 3, .int .i64 ju1), (w.heap.size + 1 + 1, 0, .int .i64 jx2), (w.heap.size + 1 + 1, 1, .int .i64 jy2), (w.heap.size + 1 + 1, 2, .int .i64 jz2), (w.heap.size + 1 + 1, 3, .int .i64 ju2)])) := Lib.hid (by subst hW; exact HK1.out)
    have HBX : RowKit.Hid (Below w.heap.size w X) := Lib.hid (by subst hW; exact HB1.out)
    clear hW HK1 HB1
    obtain ⟨c00, c01, c02, c03, c10, c11, c12, c13, c20, c21, c22, c23⟩ : X.cell? ⟨w.heap.size, 0, none⟩ = some (.int .i64 jx0) ∧ X.cell? ⟨w.heap.size, 1, none⟩ = some (.int .i64 jy0) ∧ X.cell? ⟨w.heap.size, 2, none⟩ = some (.int .i64 jz0) ∧ X.cell? ⟨w.heap.size, 3, none⟩ = some (.int .i64 ju0) ∧ X.cell? ⟨w.heap.size + 1, 0, none⟩ = some (.int .i64 jx1) ∧ X.cell? ⟨w.heap.size + 1, 1, none⟩ = some (.int .i64 jy1) ∧ X.cell? ⟨w.heap.size + 1, 2, none⟩ = some (.int .i64 jz1) ∧ X.cell? ⟨w.heap.size + 1, 3, none⟩ = some (.int .i64 ju1) ∧ X.cell? ⟨w.heap.size + 1 + 1, 0, none⟩ = some (.int .i64 jx2) ∧ X.cell? ⟨w.heap.size + 1 + 1, 1, none⟩ = some (.int .i64 jy2) ∧ X.cell? ⟨w.heap.size + 1 + 1, 2, none⟩ = some (.int .i64 jz2) ∧ X.cell? ⟨w.heap.size + 1 + 1, 3, none⟩ = some (.int .i64 ju2) := by
      have hk := HKX.out
      simp only [known_cons] at hk
      exact ⟨hk.2.2.2.2.1, hk.2.2.2.2.2.1, hk.2.2.2.2.2.2.1, hk.2.2.2.2.2.2.2.1, hk.2.2.2.2.2.2.2.2.1, hk.2.2.2.2.2.2.2.2.2.1, hk.2.2.2.2.2.2.2.2.2.2.1, hk.2.2.2.2.2.2.2.2.2.2.2.1, hk.2.2.2.2.2.2.2.2.2.2.2.2.1, hk.2.2.2.2.2.2.2.2.2.2.2.2.2.1, hk.2.2.2.2.2.2.2.2.2.2.2.2.2.2.1, hk.2.2.2.2.2.2.2.2.2.2.2.2.2.2.2.1⟩
    have F0 := Lib.hid (fun (U : World) (hU : Below X.heap.size X U) => (⟨tcell c00 hU, tcell c01 hU, tcell c02 hU, tcell c03 hU, tcell c10 hU, tcell c11 hU, tcell c12 hU, tcell c13 hU, tcell c20 hU, tcell c21 hU, tcell c22 hU, tcell c23 hU⟩ : U.cell? ⟨w.heap.size, 0, none⟩ = some (.int .i64 jx0) ∧ U.cell? ⟨w.heap.size, 1, none⟩ = some (.int .i64 jy0) ∧ U.cell? ⟨w.heap.size, 2, none⟩ = some (.int .i64 jz0) ∧ U.cell? ⟨w.heap.size, 3, none⟩ = some (.int .i64 ju0) ∧ U.cell? ⟨w.heap.size + 1, 0, none⟩ = some (.int .i64 jx1) ∧ U.cell? ⟨w.heap.size + 1, 1, none⟩ = some (.int .i64 jy1) ∧ U.cell? ⟨w.heap.size + 1, 2, none⟩ = some (.int .i64 jz1) ∧ U.cell? ⟨w.heap.size + 1, 3, none⟩ = some (.int .i64 ju1) ∧ U.cell? ⟨w.heap.size + 1 + 1, 0, none⟩ = some (.int .i64 jx2) ∧ U.cell? ⟨w.heap.size + 1 + 1, 1, none⟩ = some (.int .i64 jy2) ∧ U.cell? ⟨w.heap.size + 1 + 1, 2, none⟩ = some (.int .i64 jz2) ∧ U.cell? ⟨w.heap.size + 1 + 1, 3, none⟩ = some (.int .i64 ju2)))
    have ZZ := Lib.hid (Below.refl X.heap.size X)
    have q0 := Nat.ne_of_lt (cell_block_lt c00)
    have q1 := Nat.ne_of_lt (cell_block_lt c10)
    have q2 := Nat.ne_of_lt (cell_block_lt c20)
    dsimp only at q0 q1 q2
    have n0 := Ne.symm q0
    have n1 := Ne.symm q1
    have n2 := Ne.symm q2
    go_cut [9, 10] from 21 to 30 (fun p q wx => ∃ b : Nat, p = .pointer (some ⟨b, 0, none⟩) ∧ q = .bool rt ∧ X.heap.size ≤ b ∧ wx.cell? ⟨b, 0, none⟩ = some (.int .i64 ra) ∧ wx.cell? ⟨b, 1, none⟩ = some (.int .i64 rb) ∧ wx.cell? ⟨b, 2, none⟩ = some (.int .i64 rc) ∧ wx.cell? ⟨b, 3, none⟩ = some (.int .i64 re) ∧ Below X.heap.size X wx)
    case first =>
      go_region_held3 (fun w' => w'.cell? ⟨w.heap.size, 0, none⟩ = some (.int .i64 jx0) ∧ w'.cell? ⟨w.heap.size, 1, none⟩ = some (.int .i64 jy0) ∧ w'.cell? ⟨w.heap.size, 2, none⟩ = some (.int .i64 jz0) ∧ w'.cell? ⟨w.heap.size, 3, none⟩ = some (.int .i64 ju0) ∧ w'.cell? ⟨w.heap.size + 1, 0, none⟩ = some (.int .i64 jx1) ∧ w'.cell? ⟨w.heap.size + 1, 1, none⟩ = some (.int .i64 jy1) ∧ w'.cell? ⟨w.heap.size + 1, 2, none⟩ = some (.int .i64 jz1) ∧ w'.cell? ⟨w.heap.size + 1, 3, none⟩ = some (.int .i64 ju1) ∧ w'.cell? ⟨w.heap.size + 1 + 1, 0, none⟩ = some (.int .i64 jx2) ∧ w'.cell? ⟨w.heap.size + 1 + 1, 1, none⟩ = some (.int .i64 jy2) ∧ w'.cell? ⟨w.heap.size + 1 + 1, 2, none⟩ = some (.int .i64 jz2) ∧ w'.cell? ⟨w.heap.size + 1 + 1, 3, none⟩ = some (.int .i64 ju2))
        (first | (exact F0.out _ ZZ.out) | (exact F0.out _ (tbelowD ZZ.out)) | (exact F0.out _ (below_drewN ZZ.out _)) | (exact F0.out _ (cal ZZ.out _)) | (exact F0.out _ (cal (tbelowD ZZ.out) _)) | (exact F0.out _ (cal (below_drewN ZZ.out _) _)) | (exact F0.out _ (tbelowD (cal ZZ.out _))) | (refine ⟨?_, ?_, ?_, ?_, ?_, ?_, ?_, ?_, ?_, ?_, ?_, ?_⟩ <;> exact tcell_sf (by assumption) (by assumption)) | go_keep | trivial)
        (first
          | (go_at_call_of 23 (Value.int .i64 jx0); refine (toRow _ _ _ _ _).mono ?_; rintro e y ⟨rfl, hy⟩; (first | (have z := ft_dal hy) | (have z := ft_al hy) | (have z := ft_keep z hy) | (have z := ft_keep z (ts_drew hy)) | skip); have ZZ : RowKit.Hid (Below X.heap.size X y) := Lib.hid (by first | exact cstep ZZ hy | exact cstepD ZZ hy | exact cstepA ZZ hy | exact cstepDA ZZ hy); clear hy; have sz := ZZ.out.size; have q0 := Nat.ne_of_lt (cell_block_lt (F0.out _ ZZ.out).1); have q1 := Nat.ne_of_lt (cell_block_lt (F0.out _ ZZ.out).2.2.2.2.1); have q2 := Nat.ne_of_lt (cell_block_lt (F0.out _ ZZ.out).2.2.2.2.2.2.2.2.1); dsimp only at q0 q1 q2; have n0 := Ne.symm q0; have n1 := Ne.symm q1; have n2 := Ne.symm q2)
          | (go_at_call_of 23 (Value.int .i64 jx1); refine (toRow _ _ _ _ _).mono ?_; rintro e y ⟨rfl, hy⟩; (first | (have z := ft_dal hy) | (have z := ft_al hy) | (have z := ft_keep z hy) | (have z := ft_keep z (ts_drew hy)) | skip); have ZZ : RowKit.Hid (Below X.heap.size X y) := Lib.hid (by first | exact cstep ZZ hy | exact cstepD ZZ hy | exact cstepA ZZ hy | exact cstepDA ZZ hy); clear hy; have sz := ZZ.out.size; have q0 := Nat.ne_of_lt (cell_block_lt (F0.out _ ZZ.out).1); have q1 := Nat.ne_of_lt (cell_block_lt (F0.out _ ZZ.out).2.2.2.2.1); have q2 := Nat.ne_of_lt (cell_block_lt (F0.out _ ZZ.out).2.2.2.2.2.2.2.2.1); dsimp only at q0 q1 q2; have n0 := Ne.symm q0; have n1 := Ne.symm q1; have n2 := Ne.symm q2)
          | (go_at_call_of 23 (Value.int .i64 jx2); refine (toRow _ _ _ _ _).mono ?_; rintro e y ⟨rfl, hy⟩; (first | (have z := ft_dal hy) | (have z := ft_al hy) | (have z := ft_keep z hy) | (have z := ft_keep z (ts_drew hy)) | skip); have ZZ : RowKit.Hid (Below X.heap.size X y) := Lib.hid (by first | exact cstep ZZ hy | exact cstepD ZZ hy | exact cstepA ZZ hy | exact cstepDA ZZ hy); clear hy; have sz := ZZ.out.size; have q0 := Nat.ne_of_lt (cell_block_lt (F0.out _ ZZ.out).1); have q1 := Nat.ne_of_lt (cell_block_lt (F0.out _ ZZ.out).2.2.2.2.1); have q2 := Nat.ne_of_lt (cell_block_lt (F0.out _ ZZ.out).2.2.2.2.2.2.2.2.1); dsimp only at q0 q1 q2; have n0 := Ne.symm q0; have n1 := Ne.symm q1; have n2 := Ne.symm q2)
          | (go_at_call 11; refine (HI.out _).mono ?_; rintro e y ⟨rfl, hy⟩; (first | (have z := ft_dal hy) | (have z := ft_al hy) | (have z := ft_keep z hy) | (have z := ft_keep z (ts_drew hy)) | skip); have ZZ : RowKit.Hid (Below X.heap.size X y) := Lib.hid (by first | exact cstep ZZ hy | exact cstepD ZZ hy | exact cstepA ZZ hy | exact cstepDA ZZ hy); clear hy; have sz := ZZ.out.size; have q0 := Nat.ne_of_lt (cell_block_lt (F0.out _ ZZ.out).1); have q1 := Nat.ne_of_lt (cell_block_lt (F0.out _ ZZ.out).2.2.2.2.1); have q2 := Nat.ne_of_lt (cell_block_lt (F0.out _ ZZ.out).2.2.2.2.2.2.2.2.1); dsimp only at q0 q1 q2; have n0 := Ne.symm q0; have n1 := Ne.symm q1; have n2 := Ne.symm q2; obtain ⟨c00, c01, c02, c03, c10, c11, c12, c13, c20, c21, c22, c23⟩ := F0.out _ ZZ.out; (try (obtain ⟨zc, zd, ze, zh, zf, zl⟩ := z))))
      all_goals
        go_wp2_with fail
        go_meet
        refine ⟨_, rfl, rfl, by first | exact Nat.le_refl _ | with_reducible assumption | omega, by first | (go_simp; done) | (go_keep; done), by first | (go_simp; done) | (go_keep; done), by first | (go_simp; done) | (go_keep; done), by first | (go_simp; done) | (go_keep; done), ?_⟩
        first
          | (with_reducible exact ZZ.out)
          | (with_reducible exact cal ZZ.out _)
          | (with_reducible exact tbelowD (cal ZZ.out _))
          | (with_reducible exact cal (tbelowD ZZ.out) _)
          | (iterate 4 (with_reducible refine Below.setCell ?_ (by first | exact Nat.le_refl _ | with_reducible assumption | omega) _)); with_reducible exact ZZ.out
          | trace_state
    case rest =>
      obtain ⟨b6, rfl, rfl, -, p0, p1, p2, p3, hY⟩ := hcut
      have HKY := Lib.hid (HKX.out.below hY)
      have HBY := Lib.hid (HBX.out.trans (hY.mono HBX.out.size))
      clear hY HKX HBX F0 ZZ q0 q1 q2 n0 n1 n2 c00 c01 c02 c03 c10 c11 c12 c13 c20 c21 c22 c23
      obtain ⟨k0, k1, k2, k3⟩ : wc.cell? ⟨b5, 0, none⟩ = some (.int .i64 ra) ∧ wc.cell? ⟨b5, 1, none⟩ = some (.int .i64 rb) ∧ wc.cell? ⟨b5, 2, none⟩ = some (.int .i64 rc) ∧ wc.cell? ⟨b5, 3, none⟩ = some (.int .i64 re) := by
        have hk := HKY.out
        simp only [known_cons] at hk
        exact ⟨hk.1, hk.2.1, hk.2.2.1, hk.2.2.2.1⟩
      go_wp2_with fail
      refine (eqThrust_same _ _ _ _ _).mono ?_
      rintro e w9 ⟨rfl, hb9⟩
      have HB9 := Lib.hid (HBY.out.trans (hb9.mono HBY.out.size))
      clear hb9
      go_wp2_with fail
      go_ret
      exact ⟨rfl, HB9.out⟩

/-! ### THE ROW's STEP -/
set_option maxRecDepth 100000 in
theorem lifted (os : Os) (started : os.Started) (H : Type) (enc : TypeId × Value → H) :
    ReturnsInHanded {} Try.checked os 5 .any (Rows.fnExactSolveRowsSpec.pre6 enc Try.prog Try.f5 Rows.fnExactSolveRowsRow.domain false) (Rows.fnExactSolveRowsSpec.post enc Try.prog Try.f5 false true false false) := by
  refine returnsInHanded_of_change (C := Try.checked) own started (by kernel_rfl) Try.func5
    (ChangeSpec.witness6 (enc := enc) (C := Try.checked) false ⟨#[], #[.agg #[.int .i64 0, .int .i64 0, .int .i64 0, .int .i64 0], .agg #[.int .i64 0, .int .i64 0, .int .i64 0, .int .i64 0], .agg #[.int .i64 0, .int .i64 0, .int .i64 0, .int .i64 0]], []⟩ 8 (by kernel_rfl) (by kernel_rfl) (by kernel_rfl) (by kernel_rfl)) ?_
  intro W base args ds gs before hval0 hW hcnd _
  have hval : ∀ (j : Nat) t v, Try.f5.params[j]? = some t → args[j]? = some v → Value.okWide Try.prog W .any base t v := hval0
  have hW' := hW
  obtain ⟨p, q, hA0, hV, rfl, hfz, hnd⟩ := hW
  have hA : DataW.TrodAll enc Try.prog W 0 (fun _ => true) true Try.f5.params.toList args.toList ds p := hA0
  rw [Try.params5] at hA hval
  obtain ⟨v0, vs0, d0, ds0, p0, q0, hargs, rfl, rfl, h0, r0⟩ := trodAll_cons hA
  obtain ⟨v1, vs1, d1, ds1, p1, q1, rfl, rfl, rfl, h1, r1⟩ := trodAll_cons r0
  obtain ⟨v2, vs2, d2, ds2, p2, q2, rfl, rfl, rfl, h2, r2⟩ := trodAll_cons r1
  obtain ⟨rfl, rfl, rfl⟩ := trodAll_nil r2
  obtain rfl : args = #[v0, v1, v2] := by cases args; simp_all
  obtain ⟨rfl, rfl⟩ := trodVars_none hV
  have k0 := h0
  have lt0 : ∀ x ∈ p0, x.block < W.heap.size := by obtain ⟨m, hm⟩ := k0; exact DataW.trod_lt m _ _ _ hm
  obtain ⟨jx0, jy0, jz0, ju0, rfl, g0⟩ := open_cd (hval 0 48 v0 rfl rfl) h0
  have k1 := h1
  have lt1 : ∀ x ∈ p1, x.block < W.heap.size := by obtain ⟨m, hm⟩ := k1; exact DataW.trod_lt m _ _ _ hm
  obtain ⟨jx1, jy1, jz1, ju1, rfl, g1⟩ := open_cd (hval 1 48 v1 rfl rfl) h1
  have k2 := h2
  have lt2 : ∀ x ∈ p2, x.block < W.heap.size := by obtain ⟨m, hm⟩ := k2; exact DataW.trod_lt m _ _ _ hm
  obtain ⟨jx2, jy2, jz2, ju2, rfl, g2⟩ := open_cd (hval 2 48 v2 rfl rfl) h2
  clear hA0 hval0
  refine (walk jx0 jy0 jz0 ju0 jx1 jy1 jz1 ju1 jx2 jy2 jz2 ju2 W g0 g1 g2).mono fun e W' ⟨he, bel⟩ => ?_
  subst he
  exact ⟨_, rfl, _, _, _, [], _, [], hW', trodAll_mk1 (shut_bool Try.underlying4 _), (trodAll_cons_mk (Below.trod laidOut (by kernel_rfl) (of_decide_eq_true (by kernel_rfl)) k0 bel lt0) (trodAll_cons_mk (Below.trod laidOut (by kernel_rfl) (of_decide_eq_true (by kernel_rfl)) k1 bel lt1) (trodAll_cons_mk (Below.trod laidOut (by kernel_rfl) (of_decide_eq_true (by kernel_rfl)) k2 bel lt2) trodAll_mk0))), rfl, bel.frame _, fun h => by cases h⟩

theorem over : Rows.fnExactSolveRowsRow.holds Try.pinned (OpenSpec.ofChange Rows.fnExactSolveRowsSpec) :=
  OpenClaim.holds_of_wide 5 Try.f5 rfl rfl rfl rfl rfl rfl rfl ⟨rfl, rfl, rfl, rfl, rfl⟩ rfl rfl rfl rfl rfl (by kernel_rfl) Try.func5 (by kernel_rfl)
    (of_decide_eq_true (by kernel_rfl)) (by unfold Func.isWrapper; first | (rw [if_pos (by decide +kernel)]; kernel_rfl) | (rw [if_neg (by decide +kernel)]; exact ⟨rfl, rfl⟩))
    (fun os started H enc _ => lifted os started H enc)

/-- THE STATEMENT. -/
theorem proved : Rows.FnExactSolveRowsSaid := over
#print axioms proved
end Go.Proofs.Ytdaiffaedejnbaa.fnExactSolveRows
