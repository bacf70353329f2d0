/- For every two thrusts, FnExactMixThrusts answers true: the program's MixThrusts gives what the model's gives. No condition. -/
import Derived.Test.YtghnkcfilpjhgaaThrustX
import Derived.Test.YtghnkcfilpjhgaaRows
import Derived.WalkKit
import Derived.ProofKit
import Derived.OpenShut
import Derived.ShutString
import Derived.ChangeOld
import Derived.Below
namespace Go.Proofs.Ytghnkcfilpjhgaa.fnExactMixThrusts
set_option maxRecDepth 100000
open Go.ChangeShapes Go.WideShapes Go.ChangeAt Go.RowKit
open Go.ChangeMaps (open_string shut_string)
set_option linter.unusedVariables false

theorem own : ownKnob Try.prog.godebug = none := by kernel_rfl
theorem laidOut : laidOutB Try.prog = true := by kernel_rfl

/-! ### THE WALK: the Go text returns true, and writes nothing that was there. -/
set_option maxRecDepth 100000 in
set_option maxHeartbeats 8000000 in
theorem walk (jx0 jy0 jz0 ju0 : Int) (jx1 jy1 jz1 ju1 : Int) (w : World) (g0 : I64 jx0 ∧ I64 jy0 ∧ I64 jz0 ∧ I64 ju0) (g1 : I64 jx1 ∧ I64 jy1 ∧ I64 jz1 ∧ I64 ju1) :
    Calls Try.prog 6 #[.agg #[.int .i64 jx0, .int .i64 jy0, .int .i64 jz0, .int .i64 ju0], .agg #[.int .i64 jx1, .int .i64 jy1, .int .i64 jz1, .int .i64 ju1]] w fun e w' => e = .returned (.bool true) ∧ Below w.heap.size w w' := by
  obtain ⟨ra, rb, rc, re, rt, hr⟩ := mxV_any jx0 jy0 jz0 ju0 jx1 jy1 jz1 ju1
  have HS := Lib.hid (fun W => specMix jx0 jy0 jz0 ju0 jx1 jy1 jz1 ju1 W)
  have HI := Lib.hid (fun W => implMix jx0 jy0 jz0 ju0 jx1 jy1 jz1 ju1 W)
  rw [hr] at HS HI
  clear hr
  have hTT : (rt != rt) = false := by simp
  have hb0 := ((Below.refl w.heap.size w).alloc (Nat.le_refl _) (.cells #[.int .i64 jx0, .int .i64 jy0, .int .i64 jz0, .int .i64 ju0] 23)).alloc (by simp) (.cells #[.int .i64 jx1, .int .i64 jy1, .int .i64 jz1, .int .i64 ju1] 23)
  have HK0 : RowKit.Hid (Known ((w.alloc (.cells #[.int .i64 jx0, .int .i64 jy0, .int .i64 jz0, .int .i64 ju0] 23)).alloc (.cells #[.int .i64 jx1, .int .i64 jy1, .int .i64 jz1, .int .i64 ju1] 23)) [(w.heap.size, 0, .int .i64 jx0), (w.heap.size, 1, .int .i64 jy0), (w.heap.size, 2, .int .i64 jz0), (w.heap.size, 3, .int .i64 ju0), (w.heap.size + 1, 0, .int .i64 jx1), (w.heap.size + 1, 1, .int .i64 jy1), (w.heap.size + 1, 2, .int .i64 jz1), (w.heap.size + 1, 3, .int .i64 ju1)]) := Lib.hid (by
    simp only [known_cons]
    refine ⟨?_, ?_, ?_, ?_, ?_, ?_, ?_, ?_, Known.nil _⟩
    all_goals go_simp)
  have HB0 := Lib.hid hb0
  clear hb0
  go_enter Try.func6, Try.ntmps6
  go_wp2_with fail
  refine World.any (p := fun W => Code.wp _ _ _ _ W) (fun W hW => ?_)
  have HKW : RowKit.Hid (Known W [(w.heap.size, 0, .int .i64 jx0), (w.heap.size, 1, .int .i64 jy0), (w.heap.size, 2, .int .i64 jz0), (w.heap.size, 3, .int .i64 ju0), (w.heap.size + 1, 0, .int .i64 jx1), (w.heap.size + 1, 1, .int .i64 jy1), (w.heap.size + 1, 2, .int .i64 jz1), (w.heap.size + 1, 3, .int .i64 ju1)]) := Lib.hid (by subst hW; exact HK0.out)
  have HBW : RowKit.Hid (Below w.heap.size w W) := Lib.hid (by subst hW; exact HB0.out)
  clear hW HK0 HB0
  obtain ⟨a0W, a1W, a2W, a3W, b0W, b1W, b2W, b3W, -⟩ : W.cell? ⟨w.heap.size, 0, none⟩ = some (.int .i64 jx0) ∧ W.cell? ⟨w.heap.size, 1, none⟩ = some (.int .i64 jy0) ∧ W.cell? ⟨w.heap.size, 2, none⟩ = some (.int .i64 jz0) ∧ W.cell? ⟨w.heap.size, 3, none⟩ = some (.int .i64 ju0) ∧ W.cell? ⟨w.heap.size + 1, 0, none⟩ = some (.int .i64 jx1) ∧ W.cell? ⟨w.heap.size + 1, 1, none⟩ = some (.int .i64 jy1) ∧ W.cell? ⟨w.heap.size + 1, 2, none⟩ = some (.int .i64 jz1) ∧ W.cell? ⟨w.heap.size + 1, 3, none⟩ = some (.int .i64 ju1) ∧ True := by
    have hk := HKW.out
    simp only [known_cons] at hk
    exact ⟨hk.1, hk.2.1, hk.2.2.1, hk.2.2.2.1, hk.2.2.2.2.1, hk.2.2.2.2.2.1, hk.2.2.2.2.2.2.1, hk.2.2.2.2.2.2.2.1, trivial⟩
  go_cut [5, 6] from 9 to 16 (fun p q wx => ∃ b : Nat, p = .pointer (some ⟨b, 0, none⟩) ∧ q = .bool rt ∧ W.heap.size ≤ b ∧ wx.cell? ⟨b, 0, none⟩ = some (.int .i64 ra) ∧ wx.cell? ⟨b, 1, none⟩ = some (.int .i64 rb) ∧ wx.cell? ⟨b, 2, none⟩ = some (.int .i64 rc) ∧ wx.cell? ⟨b, 3, none⟩ = some (.int .i64 re) ∧ Below W.heap.size W wx)
  case first =>
    have maW := Nat.ne_of_lt (cell_block_lt a0W)
    have mbW := Nat.ne_of_lt (cell_block_lt b0W)
    dsimp only at maW mbW
    have naW := Ne.symm maW
    have nbW := Ne.symm mbW
    go_region_held3 (fun w' => w'.cell? ⟨w.heap.size, 0, none⟩ = some (.int .i64 jx0) ∧ w'.cell? ⟨w.heap.size, 1, none⟩ = some (.int .i64 jy0) ∧ w'.cell? ⟨w.heap.size, 2, none⟩ = some (.int .i64 jz0) ∧ w'.cell? ⟨w.heap.size, 3, none⟩ = some (.int .i64 ju0) ∧ w'.cell? ⟨w.heap.size + 1, 0, none⟩ = some (.int .i64 jx1) ∧ w'.cell? ⟨w.heap.size + 1, 1, none⟩ = some (.int .i64 jy1) ∧ w'.cell? ⟨w.heap.size + 1, 2, none⟩ = some (.int .i64 jz1) ∧ w'.cell? ⟨w.heap.size + 1, 3, none⟩ = some (.int .i64 ju1))
      (first | (refine ⟨?_, ?_, ?_, ?_, ?_, ?_, ?_, ?_⟩ <;> exact tcell_sf (by assumption) (by assumption)) | go_keep | trivial)
      (first
        | (go_at_call_of 8 (Value.agg #[Value.int .i64 jx0, Value.int .i64 jy0, Value.int .i64 jz0, Value.int .i64 ju0]); refine (toThrust _ _ _ _ _).mono ?_; rintro e w1 ⟨rfl, hb1⟩; have hs1 : Below W.heap.size W w1 := (by first | exact hb1 | exact ts_drew hb1 | exact ts_al hb1 | exact ts_dal hb1); have HB1 : RowKit.Hid (Below W.heap.size W w1) := Lib.hid (hs1); have a01 : w1.cell? ⟨w.heap.size, 0, none⟩ = some (.int .i64 jx0) := tcell a0W HB1.out; have a11 : w1.cell? ⟨w.heap.size, 1, none⟩ = some (.int .i64 jy0) := tcell a1W HB1.out; have a21 : w1.cell? ⟨w.heap.size, 2, none⟩ = some (.int .i64 jz0) := tcell a2W HB1.out; have a31 : w1.cell? ⟨w.heap.size, 3, none⟩ = some (.int .i64 ju0) := tcell a3W HB1.out; have b01 : w1.cell? ⟨w.heap.size + 1, 0, none⟩ = some (.int .i64 jx1) := tcell b0W HB1.out; have b11 : w1.cell? ⟨w.heap.size + 1, 1, none⟩ = some (.int .i64 jy1) := tcell b1W HB1.out; have b21 : w1.cell? ⟨w.heap.size + 1, 2, none⟩ = some (.int .i64 jz1) := tcell b2W HB1.out; have b31 : w1.cell? ⟨w.heap.size + 1, 3, none⟩ = some (.int .i64 ju1) := tcell b3W HB1.out; (first | (have z1 := ft_dal (w := W) hb1) | (have z1 := ft_al (w := W) hb1) | skip); (try (obtain ⟨zc1, zd1, ze1, zh1, zf1, zl1⟩ := z1; have z1 := ft_mk zc1 zd1 ze1 zh1 zf1 zl1)); have ma1 := Nat.ne_of_lt (cell_block_lt a01); have mb1 := Nat.ne_of_lt (cell_block_lt b01); dsimp only at ma1 mb1; have na1 := Ne.symm ma1; have nb1 := Ne.symm mb1; clear hb1 hs1)
        | (go_at_call_of 8 (Value.agg #[Value.int .i64 jx1, Value.int .i64 jy1, Value.int .i64 jz1, Value.int .i64 ju1]); refine (toThrust _ _ _ _ _).mono ?_; rintro e w3 ⟨rfl, hb3⟩; have hs3 : Below w1.heap.size w1 w3 := (by first | exact hb3 | exact ts_drew hb3 | exact ts_al hb3 | exact ts_dal hb3); have HB3 : RowKit.Hid (Below W.heap.size W w3) := Lib.hid (HB1.out.trans (hs3.mono HB1.out.size)); have a03 : w3.cell? ⟨w.heap.size, 0, none⟩ = some (.int .i64 jx0) := tcell a0W HB3.out; have a13 : w3.cell? ⟨w.heap.size, 1, none⟩ = some (.int .i64 jy0) := tcell a1W HB3.out; have a23 : w3.cell? ⟨w.heap.size, 2, none⟩ = some (.int .i64 jz0) := tcell a2W HB3.out; have a33 : w3.cell? ⟨w.heap.size, 3, none⟩ = some (.int .i64 ju0) := tcell a3W HB3.out; have b03 : w3.cell? ⟨w.heap.size + 1, 0, none⟩ = some (.int .i64 jx1) := tcell b0W HB3.out; have b13 : w3.cell? ⟨w.heap.size + 1, 1, none⟩ = some (.int .i64 jy1) := tcell b1W HB3.out; have b23 : w3.cell? ⟨w.heap.size + 1, 2, none⟩ = some (.int .i64 jz1) := tcell b2W HB3.out; have b33 : w3.cell? ⟨w.heap.size + 1, 3, none⟩ = some (.int .i64 ju1) := tcell b3W HB3.out; (first | (have z3 := ft_dal (w := w1) hb3) | (have z3 := ft_al (w := w1) hb3) | (have z3 := ft_keep z1 hs3) | skip); (try (obtain ⟨zc3, zd3, ze3, zh3, zf3, zl3⟩ := z3; have z3 := ft_mk zc3 zd3 ze3 zh3 zf3 zl3)); have ma3 := Nat.ne_of_lt (cell_block_lt a03); have mb3 := Nat.ne_of_lt (cell_block_lt b03); dsimp only at ma3 mb3; have na3 := Ne.symm ma3; have nb3 := Ne.symm mb3; clear hb3 hs3)
        | (go_at_call 15; refine (HS.out _).mono ?_; rintro e w4 ⟨rfl, hb4⟩; have hs4 : Below w3.heap.size w3 w4 := (by first | exact hb4 | exact ts_drew hb4 | exact ts_al hb4 | exact ts_dal hb4); have HB4 : RowKit.Hid (Below W.heap.size W w4) := Lib.hid (HB3.out.trans (hs4.mono HB3.out.size)); have a04 : w4.cell? ⟨w.heap.size, 0, none⟩ = some (.int .i64 jx0) := tcell a0W HB4.out; have a14 : w4.cell? ⟨w.heap.size, 1, none⟩ = some (.int .i64 jy0) := tcell a1W HB4.out; have a24 : w4.cell? ⟨w.heap.size, 2, none⟩ = some (.int .i64 jz0) := tcell a2W HB4.out; have a34 : w4.cell? ⟨w.heap.size, 3, none⟩ = some (.int .i64 ju0) := tcell a3W HB4.out; have b04 : w4.cell? ⟨w.heap.size + 1, 0, none⟩ = some (.int .i64 jx1) := tcell b0W HB4.out; have b14 : w4.cell? ⟨w.heap.size + 1, 1, none⟩ = some (.int .i64 jy1) := tcell b1W HB4.out; have b24 : w4.cell? ⟨w.heap.size + 1, 2, none⟩ = some (.int .i64 jz1) := tcell b2W HB4.out; have b34 : w4.cell? ⟨w.heap.size + 1, 3, none⟩ = some (.int .i64 ju1) := tcell b3W HB4.out; (first | (have z4 := ft_dal (w := w3) hb4) | (have z4 := ft_al (w := w3) hb4) | (have z4 := ft_keep z3 hs4) | skip); (try (obtain ⟨zc4, zd4, ze4, zh4, zf4, zl4⟩ := z4; have z4 := ft_mk zc4 zd4 ze4 zh4 zf4 zl4)); have ma4 := Nat.ne_of_lt (cell_block_lt a04); have mb4 := Nat.ne_of_lt (cell_block_lt b04); dsimp only at ma4 mb4; have na4 := Ne.symm ma4; have nb4 := Ne.symm mb4; have l34 := hs4.size; have l3 := HB3.out.size; clear hb4 hs4))
    all_goals
      go_wp2_with fail
      go_meet
      refine ⟨_, rfl, rfl, ?_, ?_, ?_, ?_, ?_, ?_⟩
    all_goals first
      | exact Nat.le_refl _
      | exact HB1.out.size
      | exact HB3.out.size
      | exact HB4.out.size
      | (repeat (first | exact HB4.out | exact tbelow_al HB4.out _ | refine Below.setCell ?_ (by first | exact Nat.le_refl _ | exact HB1.out.size | exact HB3.out.size | exact HB4.out.size) _)); done
      | go_keep; done
      | go_simp; done
      | trace_state
  case rest =>
    obtain ⟨b5, rfl, rfl, -, k0, k1, k2, k3, hX⟩ := hcut
    have HK1 := Lib.hid (((((HKW.out.below hX).cons k3).cons k2).cons k1).cons k0)
    have HB1 := Lib.hid (HBW.out.trans (hX.mono HBW.out.size))
    clear hX k0 k1 k2 k3 HKW HBW
    go_wp2_with fail
    refine World.any (p := fun W => Code.wp _ _ _ _ W) (fun X hW => ?_)
    have HKX : RowKit.Hid (Known X [(b5, 0, .int .i64 ra), (b5, 1, .int .i64 rb), (b5, 2, .int .i64 rc), (b5, 3, .int .i64 re), (w.heap.size, 0, .int .i64 jx0), (w.heap.size, 1, .int .i64 jy0), (w.heap.size, 2, .int .i64 jz0), (w.heap.size, 3, .int .i64 ju0), (w.heap.size + 1, 0, .int .i64 jx1), (w.heap.size + 1, 1, .int .i64 jy1), (w.heap.size + 1, 2, .int .i64 jz1), (w.heap.size + 1, 3, .int .i64 ju1)]) := Lib.hid (by subst hW; exact HK1.out)
    have HBX : RowKit.Hid (Below w.heap.size w X) := Lib.hid (by subst hW; exact HB1.out)
    clear hW HK1 HB1
    obtain ⟨a0X, a1X, a2X, a3X, b0X, b1X, b2X, b3X, -⟩ : X.cell? ⟨w.heap.size, 0, none⟩ = some (.int .i64 jx0) ∧ X.cell? ⟨w.heap.size, 1, none⟩ = some (.int .i64 jy0) ∧ X.cell? ⟨w.heap.size, 2, none⟩ = some (.int .i64 jz0) ∧ X.cell? ⟨w.heap.size, 3, none⟩ = some (.int .i64 ju0) ∧ X.cell? ⟨w.heap.size + 1, 0, none⟩ = some (.int .i64 jx1) ∧ X.cell? ⟨w.heap.size + 1, 1, none⟩ = some (.int .i64 jy1) ∧ X.cell? ⟨w.heap.size + 1, 2, none⟩ = some (.int .i64 jz1) ∧ X.cell? ⟨w.heap.size + 1, 3, none⟩ = some (.int .i64 ju1) ∧ True := by
      have hk := HKX.out
      simp only [known_cons] at hk
      exact ⟨hk.2.2.2.2.1, hk.2.2.2.2.2.1, hk.2.2.2.2.2.2.1, hk.2.2.2.2.2.2.2.1, hk.2.2.2.2.2.2.2.2.1, hk.2.2.2.2.2.2.2.2.2.1, hk.2.2.2.2.2.2.2.2.2.2.1, hk.2.2.2.2.2.2.2.2.2.2.2.1, trivial⟩
    go_cut [7, 8] from 17 to 24 (fun p q wx => ∃ b : Nat, p = .pointer (some ⟨b, 0, none⟩) ∧ q = .bool rt ∧ X.heap.size ≤ b ∧ wx.cell? ⟨b, 0, none⟩ = some (.int .i64 ra) ∧ wx.cell? ⟨b, 1, none⟩ = some (.int .i64 rb) ∧ wx.cell? ⟨b, 2, none⟩ = some (.int .i64 rc) ∧ wx.cell? ⟨b, 3, none⟩ = some (.int .i64 re) ∧ Below X.heap.size X wx)
    case first =>
      have maX := Nat.ne_of_lt (cell_block_lt a0X)
      have mbX := Nat.ne_of_lt (cell_block_lt b0X)
      dsimp only at maX mbX
      have naX := Ne.symm maX
      have nbX := Ne.symm mbX
      go_region_held3 (fun w' => w'.cell? ⟨w.heap.size, 0, none⟩ = some (.int .i64 jx0) ∧ w'.cell? ⟨w.heap.size, 1, none⟩ = some (.int .i64 jy0) ∧ w'.cell? ⟨w.heap.size, 2, none⟩ = some (.int .i64 jz0) ∧ w'.cell? ⟨w.heap.size, 3, none⟩ = some (.int .i64 ju0) ∧ w'.cell? ⟨w.heap.size + 1, 0, none⟩ = some (.int .i64 jx1) ∧ w'.cell? ⟨w.heap.size + 1, 1, none⟩ = some (.int .i64 jy1) ∧ w'.cell? ⟨w.heap.size + 1, 2, none⟩ = some (.int .i64 jz1) ∧ w'.cell? ⟨w.heap.size + 1, 3, none⟩ = some (.int .i64 ju1))
        (first | (refine ⟨?_, ?_, ?_, ?_, ?_, ?_, ?_, ?_⟩ <;> exact tcell_sf (by assumption) (by assumption)) | go_keep | trivial)
        (first
          | (go_at_call_of 8 (Value.agg #[Value.int .i64 jx0, Value.int .i64 jy0, Value.int .i64 jz0, Value.int .i64 ju0]); refine (toThrust _ _ _ _ _).mono ?_; rintro e w1 ⟨rfl, hb1⟩; have hs1 : Below X.heap.size X w1 := (by first | exact hb1 | exact ts_drew hb1 | exact ts_al hb1 | exact ts_dal hb1); have HB1 : RowKit.Hid (Below X.heap.size X w1) := Lib.hid (hs1); have a01 : w1.cell? ⟨w.heap.size, 0, none⟩ = some (.int .i64 jx0) := tcell a0X HB1.out; have a11 : w1.cell? ⟨w.heap.size, 1, none⟩ = some (.int .i64 jy0) := tcell a1X HB1.out; have a21 : w1.cell? ⟨w.heap.size, 2, none⟩ = some (.int .i64 jz0) := tcell a2X HB1.out; have a31 : w1.cell? ⟨w.heap.size, 3, none⟩ = some (.int .i64 ju0) := tcell a3X HB1.out; have b01 : w1.cell? ⟨w.heap.size + 1, 0, none⟩ = some (.int .i64 jx1) := tcell b0X HB1.out; have b11 : w1.cell? ⟨w.heap.size + 1, 1, none⟩ = some (.int .i64 jy1) := tcell b1X HB1.out; have b21 : w1.cell? ⟨w.heap.size + 1, 2, none⟩ = some (.int .i64 jz1) := tcell b2X HB1.out; have b31 : w1.cell? ⟨w.heap.size + 1, 3, none⟩ = some (.int .i64 ju1) := tcell b3X HB1.out; (first | (have z1 := ft_dal (w := X) hb1) | (have z1 := ft_al (w := X) hb1) | skip); (try (obtain ⟨zc1, zd1, ze1, zh1, zf1, zl1⟩ := z1; have z1 := ft_mk zc1 zd1 ze1 zh1 zf1 zl1)); have ma1 := Nat.ne_of_lt (cell_block_lt a01); have mb1 := Nat.ne_of_lt (cell_block_lt b01); dsimp only at ma1 mb1; have na1 := Ne.symm ma1; have nb1 := Ne.symm mb1; clear hb1 hs1)
          | (go_at_call_of 8 (Value.agg #[Value.int .i64 jx1, Value.int .i64 jy1, Value.int .i64 jz1, Value.int .i64 ju1]); refine (toThrust _ _ _ _ _).mono ?_; rintro e w3 ⟨rfl, hb3⟩; have hs3 : Below w1.heap.size w1 w3 := (by first | exact hb3 | exact ts_drew hb3 | exact ts_al hb3 | exact ts_dal hb3); have HB3 : RowKit.Hid (Below X.heap.size X w3) := Lib.hid (HB1.out.trans (hs3.mono HB1.out.size)); have a03 : w3.cell? ⟨w.heap.size, 0, none⟩ = some (.int .i64 jx0) := tcell a0X HB3.out; have a13 : w3.cell? ⟨w.heap.size, 1, none⟩ = some (.int .i64 jy0) := tcell a1X HB3.out; have a23 : w3.cell? ⟨w.heap.size, 2, none⟩ = some (.int .i64 jz0) := tcell a2X HB3.out; have a33 : w3.cell? ⟨w.heap.size, 3, none⟩ = some (.int .i64 ju0) := tcell a3X HB3.out; have b03 : w3.cell? ⟨w.heap.size + 1, 0, none⟩ = some (.int .i64 jx1) := tcell b0X HB3.out; have b13 : w3.cell? ⟨w.heap.size + 1, 1, none⟩ = some (.int .i64 jy1) := tcell b1X HB3.out; have b23 : w3.cell? ⟨w.heap.size + 1, 2, none⟩ = some (.int .i64 jz1) := tcell b2X HB3.out; have b33 : w3.cell? ⟨w.heap.size + 1, 3, none⟩ = some (.int .i64 ju1) := tcell b3X HB3.out; (first | (have z3 := ft_dal (w := w1) hb3) | (have z3 := ft_al (w := w1) hb3) | (have z3 := ft_keep z1 hs3) | skip); (try (obtain ⟨zc3, zd3, ze3, zh3, zf3, zl3⟩ := z3; have z3 := ft_mk zc3 zd3 ze3 zh3 zf3 zl3)); have ma3 := Nat.ne_of_lt (cell_block_lt a03); have mb3 := Nat.ne_of_lt (cell_block_lt b03); dsimp only at ma3 mb3; have na3 := Ne.symm ma3; have nb3 := Ne.symm mb3; clear hb3 hs3)
          | (go_at_call 16; refine (HI.out _).mono ?_; rintro e w4 ⟨rfl, hb4⟩; have hs4 : Below w3.heap.size w3 w4 := (by first | exact hb4 | exact ts_drew hb4 | exact ts_al hb4 | exact ts_dal hb4); have HB4 : RowKit.Hid (Below X.heap.size X w4) := Lib.hid (HB3.out.trans (hs4.mono HB3.out.size)); have a04 : w4.cell? ⟨w.heap.size, 0, none⟩ = some (.int .i64 jx0) := tcell a0X HB4.out; have a14 : w4.cell? ⟨w.heap.size, 1, none⟩ = some (.int .i64 jy0) := tcell a1X HB4.out; have a24 : w4.cell? ⟨w.heap.size, 2, none⟩ = some (.int .i64 jz0) := tcell a2X HB4.out; have a34 : w4.cell? ⟨w.heap.size, 3, none⟩ = some (.int .i64 ju0) := tcell a3X HB4.out; have b04 : w4.cell? ⟨w.heap.size + 1, 0, none⟩ = some (.int .i64 jx1) := tcell b0X HB4.out; have b14 : w4.cell? ⟨w.heap.size + 1, 1, none⟩ = some (.int .i64 jy1) := tcell b1X HB4.out; have b24 : w4.cell? ⟨w.heap.size + 1, 2, none⟩ = some (.int .i64 jz1) := tcell b2X HB4.out; have b34 : w4.cell? ⟨w.heap.size + 1, 3, none⟩ = some (.int .i64 ju1) := tcell b3X HB4.out; (first | (have z4 := ft_dal (w := w3) hb4) | (have z4 := ft_al (w := w3) hb4) | (have z4 := ft_keep z3 hs4) | skip); (try (obtain ⟨zc4, zd4, ze4, zh4, zf4, zl4⟩ := z4; have z4 := ft_mk zc4 zd4 ze4 zh4 zf4 zl4)); have ma4 := Nat.ne_of_lt (cell_block_lt a04); have mb4 := Nat.ne_of_lt (cell_block_lt b04); dsimp only at ma4 mb4; have na4 := Ne.symm ma4; have nb4 := Ne.symm mb4; have l34 := hs4.size; have l3 := HB3.out.size; clear hb4 hs4))
      all_goals
        go_wp2_with fail
        go_meet
        refine ⟨_, rfl, rfl, ?_, ?_, ?_, ?_, ?_, ?_⟩
      all_goals first
        | exact Nat.le_refl _
        | exact HB1.out.size
        | exact HB3.out.size
        | exact HB4.out.size
        | (repeat (first | exact HB4.out | exact tbelow_al HB4.out _ | refine Below.setCell ?_ (by first | exact Nat.le_refl _ | exact HB1.out.size | exact HB3.out.size | exact HB4.out.size) _)); done
        | go_keep; done
        | go_simp; done
        | trace_state
    case rest =>
      obtain ⟨b7, rfl, rfl, -, k0, k1, k2, k3, hX⟩ := hcut
      have hk := HKX.out.below hX
      have HB2 := Lib.hid (HBX.out.trans (hX.mono HBX.out.size))
      simp only [known_cons] at hk
      obtain ⟨m0, m1, m2, m3, -⟩ := hk
      clear hX HKX HBX
      go_wp2_with fail
      refine (eqThrust_same _ _ _ _ _).mono ?_
      rintro e w6 ⟨rfl, hb6⟩
      have HB6 := Lib.hid (HB2.out.trans (hb6.mono HB2.out.size))
      clear hb6 k0 k1 k2 k3 m0 m1 m2 m3 HB2
      go_wp2_with fail
      go_ret
      exact ⟨rfl, HB6.out⟩

/-! ### THE ROW's STEP -/
set_option maxRecDepth 100000 in
theorem lifted (os : Os) (started : os.Started) (H : Type) (enc : TypeId × Value → H) :
    ReturnsInHanded {} Try.checked os 6 .any (Rows.fnExactMixThrustsSpec.pre6 enc Try.prog Try.f6 Rows.fnExactMixThrustsRow.domain false) (Rows.fnExactMixThrustsSpec.post enc Try.prog Try.f6 false true false false) := by
  refine returnsInHanded_of_change (C := Try.checked) own started (by kernel_rfl) Try.func6
    (ChangeSpec.witness6 (enc := enc) (C := Try.checked) false ⟨#[], #[.agg #[.int .i64 0, .int .i64 0, .int .i64 0, .int .i64 0], .agg #[.int .i64 0, .int .i64 0, .int .i64 0, .int .i64 0]], []⟩ 8 (by kernel_rfl) (by kernel_rfl) (by kernel_rfl) (by kernel_rfl)) ?_
  intro W base args ds gs before hval0 hW hcnd _
  have hval : ∀ (j : Nat) t v, Try.f6.params[j]? = some t → args[j]? = some v → Value.okWide Try.prog W .any base t v := hval0
  have hW' := hW
  obtain ⟨p, q, hA0, hV, rfl, hfz, hnd⟩ := hW
  have hA : DataW.TrodAll enc Try.prog W 0 (fun _ => true) true Try.f6.params.toList args.toList ds p := hA0
  rw [Try.params6] at hA hval
  obtain ⟨v0, vs0, d0, ds0, p0, q0, hargs, rfl, rfl, h0, r0⟩ := trodAll_cons hA
  obtain ⟨v1, vs1, d1, ds1, p1, q1, rfl, rfl, rfl, h1, r1⟩ := trodAll_cons r0
  obtain ⟨rfl, rfl, rfl⟩ := trodAll_nil r1
  obtain rfl : args = #[v0, v1] := by cases args; simp_all
  obtain ⟨rfl, rfl⟩ := trodVars_none hV
  have k0 := h0
  have lt0 : ∀ x ∈ p0, x.block < W.heap.size := by obtain ⟨m, hm⟩ := k0; exact DataW.trod_lt m _ _ _ hm
  obtain ⟨jx0, jy0, jz0, ju0, rfl, g0⟩ := open_thrust (hval 0 23 v0 rfl rfl) h0
  have k1 := h1
  have lt1 : ∀ x ∈ p1, x.block < W.heap.size := by obtain ⟨m, hm⟩ := k1; exact DataW.trod_lt m _ _ _ hm
  obtain ⟨jx1, jy1, jz1, ju1, rfl, g1⟩ := open_thrust (hval 1 23 v1 rfl rfl) h1
  clear hA0 hval0
  refine (walk jx0 jy0 jz0 ju0 jx1 jy1 jz1 ju1 W g0 g1).mono fun e W' ⟨he, bel⟩ => ?_
  subst he
  exact ⟨_, rfl, _, _, _, [], _, [], hW', trodAll_mk1 (shut_bool Try.underlying4 _), (trodAll_cons_mk (Below.trod laidOut (by kernel_rfl) (of_decide_eq_true (by kernel_rfl)) k0 bel lt0) (trodAll_cons_mk (Below.trod laidOut (by kernel_rfl) (of_decide_eq_true (by kernel_rfl)) k1 bel lt1) trodAll_mk0)), rfl, bel.frame _, fun h => by cases h⟩

theorem over : Rows.fnExactMixThrustsRow.holds Try.pinned (OpenSpec.ofChange Rows.fnExactMixThrustsSpec) :=
  OpenClaim.holds_of_wide 6 Try.f6 rfl rfl rfl rfl rfl rfl rfl ⟨rfl, rfl, rfl, rfl, rfl⟩ rfl rfl rfl rfl rfl (by kernel_rfl) Try.func6 (by kernel_rfl)
    (of_decide_eq_true (by kernel_rfl)) (by unfold Func.isWrapper; first | (rw [if_pos (by decide +kernel)]; kernel_rfl) | (rw [if_neg (by decide +kernel)]; exact ⟨rfl, rfl⟩))
    (fun os started H enc _ => lifted os started H enc)

/-- THE STATEMENT. -/
theorem proved : Rows.FnExactMixThrustsSaid := over
#print axioms proved
end Go.Proofs.Ytghnkcfilpjhgaa.fnExactMixThrusts
