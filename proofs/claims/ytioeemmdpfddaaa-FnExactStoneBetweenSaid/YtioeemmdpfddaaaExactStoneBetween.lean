/- For every two joints, FnExactStoneBetween answers true: the program's StoneBetween gives what the model's gives, in every corner, in memory of its own. No condition. -/
import Derived.Test.YtioeemmdpfddaaaJointC
import Derived.Test.YtioeemmdpfddaaaJointS
import Derived.Test.YtioeemmdpfddaaaStoneK
import Derived.Test.YtioeemmdpfddaaaRows
import Derived.WalkKit
import Derived.ProofKit
import Derived.OpenShut
import Derived.ShutString
import Derived.ChangeOld
import Derived.Below
namespace Go.Proofs.Ytioeemmdpfddaaa.fnExactStoneBetween
open Go.ChangeShapes Go.WideShapes Go.ChangeAt Go.RowKit
open Go.ChangeMaps (open_string shut_string)
set_option linter.unusedVariables false

theorem own : ownKnob Try.prog.godebug = none := by kernel_rfl
theorem laidOut : laidOutB Try.prog = true := by kernel_rfl

theorem below_al' {a w : World} (h : Below a.heap.size a w) (o : Obj) : Below a.heap.size a (w.alloc o) := h.alloc h.size o
theorem alloc_below (w : World) (o : Obj) : Below w.heap.size w (w.alloc o) := (Below.refl w.heap.size w).alloc (Nat.le_refl _) o
/-- What is told of a box behind writes to one row. -/
theorem cell_mark {w w' : World} {b o : Nat} {v : Value} {row : Option Nat} (h : w.cell? ⟨b, o, none⟩ = some v) (hg : w.grownBy w' row) (hne : some b ≠ row) : w'.cell? ⟨b, o, none⟩ = some v :=
  (World.grownBy.cell_far hg ⟨b, o, none⟩ (cell_block_lt h) hne).trans h
theorem row_mark {w w' : World} {B : Nat} {v : Value} {cs : List (Int × Int)} {row : Option Nat} (h : Row w B v cs) (hg : w.grownBy w' row) (hne : ∀ k, v.ownBlock = some k → some k ≠ row) : Row w' B v cs :=
  World.ownsRow.kept h hg (by
    cases hv : v.ownBlock with
    | none => exact .inl rfl
    | some k => exact .inr (hne k hv))
theorem below_al {a w : World} (h : Below a.heap.size a w) (o : Obj) : Below a.heap.size a (w.alloc o) := h.alloc h.size o
theorem row_low {w : World} {B B' : Nat} {v : Value} {cs : List (Int × Int)} (h : Row w B v cs) (hb : B' ≤ B) : Row w B' v cs := owns_base h hb
theorem cell_sf {w : World} {b o c d : Nat} {v u : Value} (h : w.cell? ⟨b, o, none⟩ = some v) (hb : b ≠ c) : (w.setCell ⟨c, d, none⟩ u).cell? ⟨b, o, none⟩ = some v := by
  rw [World.cell?_of_block (w := w) (Below.heap_setCell w ⟨c, d, none⟩ u b (fun e => hb e))]; exact h
/-! A call's world, told from the world ahead of it: drawn, or with the box made, or both. -/
theorem st_drew {w w' : World} {n : Nat} (h : Below (w.drewN n).heap.size (w.drewN n) w') : Below w.heap.size w w' := (below_drewN (Below.refl w.heap.size w) n).trans h
theorem st_al {w w' : World} {o : Obj} (h : Below (w.alloc o).heap.size (w.alloc o) w') : Below w.heap.size w w' := (alloc_below w o).trans (h.mono (alloc_below w o).size)
theorem st_dal {w w' : World} {n : Nat} {o : Obj} (h : Below ((w.drewN n).alloc o).heap.size ((w.drewN n).alloc o) w') : Below w.heap.size w w' := (below_drewN (Below.refl w.heap.size w) n).trans (st_al h)
theorem known_mark {W W' : World} {l : List (Nat × Nat × Value)} {row : Option Nat} (h : Known W l) (hg : W.grownBy W' row) (hne : ∀ q ∈ l, some q.1 ≠ row) : Known W' l := fun q hq => cell_mark (h q hq) hg (hne q hq)
/-- The box, made: what it holds; not frozen; there. -/
def Fresh (b : Nat) (v : Value) (w : World) : Prop := w.cell? ⟨b, 0, none⟩ = some v ∧ w.frozen? ⟨b, 0, none⟩ = false ∧ b < w.heap.size
theorem fr_mk {b : Nat} {v : Value} {w : World} (h1 : w.cell? ⟨b, 0, none⟩ = some v) (h2 : w.frozen? ⟨b, 0, none⟩ = false) (h3 : b < w.heap.size) : Fresh b v w := ⟨h1, h2, h3⟩
theorem fr_al {w w' : World} {v : Value} {t : TypeId} (h : Below (w.alloc (.cells #[v] t)).heap.size (w.alloc (.cells #[v] t)) w') : Fresh w.heap.size v w' :=
  ⟨cell_kept (w := w.alloc (.cells #[v] t)) (by go_simp) h, (h.frozen (p := ⟨w.heap.size, 0, none⟩) (by simp)).trans (by go_simp), by have := h.size; simp at this; omega⟩
theorem fr_dal {w w' : World} {n : Nat} {v : Value} {t : TypeId} (h : Below ((w.drewN n).alloc (.cells #[v] t)).heap.size ((w.drewN n).alloc (.cells #[v] t)) w') : Fresh w.heap.size v w' := fr_al (w := w.drewN n) h
theorem fr_keep {b : Nat} {v : Value} {w w' : World} (h : Fresh b v w) (k : Below w.heap.size w w') : Fresh b v w' :=
  ⟨cell_kept h.1 k, (k.frozen (p := ⟨b, 0, none⟩) h.2.2).trans h.2.1, Nat.lt_of_lt_of_le h.2.2 k.size⟩


/-! ### THE WALK: the Go text returns true, and writes nothing that was there. -/
set_option maxRecDepth 100000 in
set_option maxHeartbeats 4000000 in
theorem walk (jx0 jy0 jz0 ju0 : Int) (jx1 jy1 jz1 ju1 : Int) (w : World) (g0 : I64 jx0 ∧ I64 jy0 ∧ I64 jz0 ∧ I64 ju0) (g1 : I64 jx1 ∧ I64 jy1 ∧ I64 jz1 ∧ I64 ju1) :
    Calls Try.prog 7 #[.agg #[.int .i64 jx0, .int .i64 jy0, .int .i64 jz0, .int .i64 ju0], .agg #[.int .i64 jx1, .int .i64 jy1, .int .i64 jz1, .int .i64 ju1]] w fun e w' => e = .returned (.bool true) ∧ Below w.heap.size w w' := by
  have hml : (betV ((jx0, jy0), (jz0, ju0)) ((jx1, jy1), (jz1, ju1))).length ≤ 1048576 := by
    unfold betV
    split
    · rw [betw_length]; omega
    · simp
  have hS := fun W => specStoneBetween jx0 jy0 jz0 ju0 jx1 jy1 jz1 ju1 W
  have hI := fun W => implStoneBetween jx0 jy0 jz0 ju0 jx1 jy1 jz1 ju1 W
  unfold BetAns at hS hI
  generalize betV ((jx0, jy0), (jz0, ju0)) ((jx1, jy1), (jz1, ju1)) = V at *
  generalize stoneV (betw ((jx0, jy0), (jz0, ju0)) ((jx1, jy1), (jz1, ju1))) = T at *
  have HS := Lib.hid hS
  have HI := Lib.hid hI
  clear hS hI
  have hb0 := ((Below.refl w.heap.size w).alloc (Nat.le_refl _) (.cells #[.int .i64 jx0, .int .i64 jy0, .int .i64 jz0, .int .i64 ju0] 25)).alloc (by simp) (.cells #[.int .i64 jx1, .int .i64 jy1, .int .i64 jz1, .int .i64 ju1] 25)
  have HK0 : RowKit.Hid (Known ((w.alloc (.cells #[.int .i64 jx0, .int .i64 jy0, .int .i64 jz0, .int .i64 ju0] 25)).alloc (.cells #[.int .i64 jx1, .int .i64 jy1, .int .i64 jz1, .int .i64 ju1] 25)) [(w.heap.size, 0, .int .i64 jx0), (w.heap.size, 1, .int .i64 jy0), (w.heap.size, 2, .int .i64 jz0), (w.heap.size, 3, .int .i64 ju0), (w.heap.size + 1, 0, .int .i64 jx1), (w.heap.size + 1, 1, .int .i64 jy1), (w.heap.size + 1, 2, .int .i64 jz1), (w.heap.size + 1, 3, .int .i64 ju1)]) := Lib.hid (by
    simp only [known_cons]
    refine ⟨?_, ?_, ?_, ?_, ?_, ?_, ?_, ?_, Known.nil _⟩
    all_goals go_simp)
  have HB0 := Lib.hid hb0
  clear hb0
  go_enter Try.func7, Try.ntmps7
  go_wp2_with fail
  refine World.any (p := fun W => Code.wp _ _ _ _ W) (fun W hW => ?_)
  have HKW : RowKit.Hid (Known W [(w.heap.size, 0, .int .i64 jx0), (w.heap.size, 1, .int .i64 jy0), (w.heap.size, 2, .int .i64 jz0), (w.heap.size, 3, .int .i64 ju0), (w.heap.size + 1, 0, .int .i64 jx1), (w.heap.size + 1, 1, .int .i64 jy1), (w.heap.size + 1, 2, .int .i64 jz1), (w.heap.size + 1, 3, .int .i64 ju1)]) := Lib.hid (by subst hW; exact HK0.out)
  have HBW : RowKit.Hid (Below w.heap.size w W) := Lib.hid (by subst hW; exact HB0.out)
  clear hW HK0 HB0
  obtain ⟨a0W, a1W, a2W, a3W, b0W, b1W, b2W, b3W, -⟩ : W.cell? ⟨w.heap.size, 0, none⟩ = some (.int .i64 jx0) ∧ W.cell? ⟨w.heap.size, 1, none⟩ = some (.int .i64 jy0) ∧ W.cell? ⟨w.heap.size, 2, none⟩ = some (.int .i64 jz0) ∧ W.cell? ⟨w.heap.size, 3, none⟩ = some (.int .i64 ju0) ∧ W.cell? ⟨w.heap.size + 1, 0, none⟩ = some (.int .i64 jx1) ∧ W.cell? ⟨w.heap.size + 1, 1, none⟩ = some (.int .i64 jy1) ∧ W.cell? ⟨w.heap.size + 1, 2, none⟩ = some (.int .i64 jz1) ∧ W.cell? ⟨w.heap.size + 1, 3, none⟩ = some (.int .i64 ju1) ∧ True := by
    have hk := HKW.out
    simp only [known_cons] at hk
    exact ⟨hk.1, hk.2.1, hk.2.2.1, hk.2.2.2.1, hk.2.2.2.2.1, hk.2.2.2.2.2.1, hk.2.2.2.2.2.2.1, hk.2.2.2.2.2.2.2.1, trivial⟩
  go_cut [5, 6] from 13 to 20 (fun p q wx => ∃ (b : Nat) (sa : Option Addr) (sc : Nat), p = .pointer (some ⟨b, 0, none⟩) ∧ q = .bool T ∧ W.heap.size ≤ b ∧ wx.cell? ⟨b, 0, none⟩ = some (.slice sa V.length sc) ∧ wx.frozen? ⟨b, 0, none⟩ = false ∧
      Row wx W.heap.size (.slice sa V.length sc) V ∧ (∀ k, (Value.slice sa V.length sc).ownBlock = some k → k ≠ b) ∧ Below W.heap.size W wx)
  case first =>
    have maW := Nat.ne_of_lt (cell_block_lt a0W)
    have mbW := Nat.ne_of_lt (cell_block_lt b0W)
    dsimp only at maW mbW
    have naW := Ne.symm maW
    have nbW := Ne.symm mbW
    go_region_held3 (fun w' => w'.cell? ⟨w.heap.size, 0, none⟩ = some (.int .i64 jx0) ∧ w'.cell? ⟨w.heap.size, 1, none⟩ = some (.int .i64 jy0) ∧ w'.cell? ⟨w.heap.size, 2, none⟩ = some (.int .i64 jz0) ∧ w'.cell? ⟨w.heap.size, 3, none⟩ = some (.int .i64 ju0) ∧ w'.cell? ⟨w.heap.size + 1, 0, none⟩ = some (.int .i64 jx1) ∧ w'.cell? ⟨w.heap.size + 1, 1, none⟩ = some (.int .i64 jy1) ∧ w'.cell? ⟨w.heap.size + 1, 2, none⟩ = some (.int .i64 jz1) ∧ w'.cell? ⟨w.heap.size + 1, 3, none⟩ = some (.int .i64 ju1))
      (first | (refine ⟨?_, ?_, ?_, ?_, ?_, ?_, ?_, ?_⟩ <;> exact cell_sf (by assumption) (by assumption)) | go_keep | trivial)
      (first
        | (go_at_call_of 9 (Value.agg #[Value.int .i64 jx0, Value.int .i64 jy0, Value.int .i64 jz0, Value.int .i64 ju0]); refine (toJoint _ _ _ _ _).mono ?_; rintro e w1 ⟨rfl, hb1⟩; have hs1 : Below W.heap.size W w1 := (by first | exact hb1 | exact st_drew hb1 | exact st_al hb1 | exact st_dal hb1); have HB1 : RowKit.Hid (Below W.heap.size W w1) := Lib.hid (hs1); have a01 : w1.cell? ⟨w.heap.size, 0, none⟩ = some (.int .i64 jx0) := cell_kept a0W HB1.out; have a11 : w1.cell? ⟨w.heap.size, 1, none⟩ = some (.int .i64 jy0) := cell_kept a1W HB1.out; have a21 : w1.cell? ⟨w.heap.size, 2, none⟩ = some (.int .i64 jz0) := cell_kept a2W HB1.out; have a31 : w1.cell? ⟨w.heap.size, 3, none⟩ = some (.int .i64 ju0) := cell_kept a3W HB1.out; have b01 : w1.cell? ⟨w.heap.size + 1, 0, none⟩ = some (.int .i64 jx1) := cell_kept b0W HB1.out; have b11 : w1.cell? ⟨w.heap.size + 1, 1, none⟩ = some (.int .i64 jy1) := cell_kept b1W HB1.out; have b21 : w1.cell? ⟨w.heap.size + 1, 2, none⟩ = some (.int .i64 jz1) := cell_kept b2W HB1.out; have b31 : w1.cell? ⟨w.heap.size + 1, 3, none⟩ = some (.int .i64 ju1) := cell_kept b3W HB1.out; (first | (have z1 := fr_dal (w := W) hb1) | (have z1 := fr_al (w := W) hb1) | skip); (try (obtain ⟨zc1, zf1, zl1⟩ := z1; have z1 := fr_mk zc1 zf1 zl1)); have ma1 := Nat.ne_of_lt (cell_block_lt a01); have mb1 := Nat.ne_of_lt (cell_block_lt b01); dsimp only at ma1 mb1; have na1 := Ne.symm ma1; have nb1 := Ne.symm mb1; clear hb1 hs1)
        | (go_at_call_of 9 (Value.agg #[Value.int .i64 jx1, Value.int .i64 jy1, Value.int .i64 jz1, Value.int .i64 ju1]); refine (toJoint _ _ _ _ _).mono ?_; rintro e w3 ⟨rfl, hb3⟩; have hs3 : Below w1.heap.size w1 w3 := (by first | exact hb3 | exact st_drew hb3 | exact st_al hb3 | exact st_dal hb3); have HB3 : RowKit.Hid (Below W.heap.size W w3) := Lib.hid (HB1.out.trans (hs3.mono HB1.out.size)); have a03 : w3.cell? ⟨w.heap.size, 0, none⟩ = some (.int .i64 jx0) := cell_kept a0W HB3.out; have a13 : w3.cell? ⟨w.heap.size, 1, none⟩ = some (.int .i64 jy0) := cell_kept a1W HB3.out; have a23 : w3.cell? ⟨w.heap.size, 2, none⟩ = some (.int .i64 jz0) := cell_kept a2W HB3.out; have a33 : w3.cell? ⟨w.heap.size, 3, none⟩ = some (.int .i64 ju0) := cell_kept a3W HB3.out; have b03 : w3.cell? ⟨w.heap.size + 1, 0, none⟩ = some (.int .i64 jx1) := cell_kept b0W HB3.out; have b13 : w3.cell? ⟨w.heap.size + 1, 1, none⟩ = some (.int .i64 jy1) := cell_kept b1W HB3.out; have b23 : w3.cell? ⟨w.heap.size + 1, 2, none⟩ = some (.int .i64 jz1) := cell_kept b2W HB3.out; have b33 : w3.cell? ⟨w.heap.size + 1, 3, none⟩ = some (.int .i64 ju1) := cell_kept b3W HB3.out; (first | (have z3 := fr_dal (w := w1) hb3) | (have z3 := fr_al (w := w1) hb3) | (have z3 := fr_keep z1 hs3) | skip); (try (obtain ⟨zc3, zf3, zl3⟩ := z3; have z3 := fr_mk zc3 zf3 zl3)); have ma3 := Nat.ne_of_lt (cell_block_lt a03); have mb3 := Nat.ne_of_lt (cell_block_lt b03); dsimp only at ma3 mb3; have na3 := Ne.symm ma3; have nb3 := Ne.symm mb3; clear hb3 hs3)
        | (go_at_call 19; refine (HS.out _).mono ?_; rintro e w4 ⟨u4, rfl, hr4, hb4⟩; obtain ⟨sa, sc, hu4, -⟩ := row_sliceS hr4; have hs4 : Below w3.heap.size w3 w4 := (by first | exact hb4 | exact st_drew hb4 | exact st_al hb4 | exact st_dal hb4); have HB4 : RowKit.Hid (Below W.heap.size W w4) := Lib.hid (HB3.out.trans (hs4.mono HB3.out.size)); have a04 : w4.cell? ⟨w.heap.size, 0, none⟩ = some (.int .i64 jx0) := cell_kept a0W HB4.out; have a14 : w4.cell? ⟨w.heap.size, 1, none⟩ = some (.int .i64 jy0) := cell_kept a1W HB4.out; have a24 : w4.cell? ⟨w.heap.size, 2, none⟩ = some (.int .i64 jz0) := cell_kept a2W HB4.out; have a34 : w4.cell? ⟨w.heap.size, 3, none⟩ = some (.int .i64 ju0) := cell_kept a3W HB4.out; have b04 : w4.cell? ⟨w.heap.size + 1, 0, none⟩ = some (.int .i64 jx1) := cell_kept b0W HB4.out; have b14 : w4.cell? ⟨w.heap.size + 1, 1, none⟩ = some (.int .i64 jy1) := cell_kept b1W HB4.out; have b24 : w4.cell? ⟨w.heap.size + 1, 2, none⟩ = some (.int .i64 jz1) := cell_kept b2W HB4.out; have b34 : w4.cell? ⟨w.heap.size + 1, 3, none⟩ = some (.int .i64 ju1) := cell_kept b3W HB4.out; (first | (have z4 := fr_dal (w := w3) hb4) | (have z4 := fr_al (w := w3) hb4) | (have z4 := fr_keep z3 hs4) | skip); (try (obtain ⟨zc4, zf4, zl4⟩ := z4; have z4 := fr_mk zc4 zf4 zl4)); have ma4 := Nat.ne_of_lt (cell_block_lt a04); have mb4 := Nat.ne_of_lt (cell_block_lt b04); dsimp only at ma4 mb4; have na4 := Ne.symm ma4; have nb4 := Ne.symm mb4; have hk4 := fun k hk => World.ownsRow.lt hr4 k hk; (try simp only [World.size_alloc] at hk4); have HK4 := Lib.hid hk4; have RW4 : RowKit.Hid (Row w4 W.heap.size u4 V) := Lib.hid (row_low hr4 (by have := HB3.out.size; simp <;> omega)); have l34 := hs4.size; have l3 := HB3.out.size; clear hr4 hb4 hs4 hk4; subst hu4))
    all_goals
      go_wp2_with fail
      go_meet
      refine ⟨_, sa, sc, rfl, rfl, ?_, ?_, ?_, ?_, ?_, ?_⟩
    all_goals first
      | exact Nat.le_refl _
      | exact HB1.out.size
      | exact HB3.out.size
      | exact HB4.out.size
      | (intro k hk; have h4 := HK4.out k hk; have h1 := HB3.out.size; omega)
      | exact World.ownsRow.alloc RW4.out _
      | exact ownsRow_setCell_other RW4.out (fun he => by have h4 := HK4.out _ he; have h1 := HB3.out.size; dsimp only at h4; omega) _
      | exact ownsRow_setCell_other (World.ownsRow.alloc RW4.out _) (fun he => by have h4 := HK4.out _ he; have h1 := HB3.out.size; dsimp only at h4; omega) _
      | (repeat (first | exact HB4.out | exact below_al HB4.out _ | refine Below.setCell ?_ (by first | exact Nat.le_refl _ | exact HB1.out.size | exact HB3.out.size | exact HB4.out.size) _)); done
      | go_keep; done
      | go_simp; done
      | trace_state
  case rest =>
    obtain ⟨b5, s5, c5, rfl, rfl, -, k5, -, hrw, -, hX⟩ := hcut
    have HK1 := Lib.hid ((HKW.out.below hX).cons k5)
    have HB1 := Lib.hid (HBW.out.trans (hX.mono HBW.out.size))
    have RW1 := Lib.hid hrw
    clear hX hrw k5 HKW HBW
    go_wp2_with fail
    refine World.any (p := fun W => Code.wp _ _ _ _ W) (fun X hW => ?_)
    have HKX : RowKit.Hid (Known X [(b5, 0, .slice s5 V.length c5), (w.heap.size, 0, .int .i64 jx0), (w.heap.size, 1, .int .i64 jy0), (w.heap.size, 2, .int .i64 jz0), (w.heap.size, 3, .int .i64 ju0), (w.heap.size + 1, 0, .int .i64 jx1), (w.heap.size + 1, 1, .int .i64 jy1), (w.heap.size + 1, 2, .int .i64 jz1), (w.heap.size + 1, 3, .int .i64 ju1)]) := Lib.hid (by subst hW; exact HK1.out)
    have HBX : RowKit.Hid (Below w.heap.size w X) := Lib.hid (by subst hW; exact HB1.out)
    have RWX : RowKit.Hid (Row X W.heap.size (.slice s5 V.length c5) V) := Lib.hid (by subst hW; exact RW1.out)
    clear hW HK1 HB1 RW1
    obtain ⟨a0X, a1X, a2X, a3X, b0X, b1X, b2X, b3X, -⟩ : X.cell? ⟨w.heap.size, 0, none⟩ = some (.int .i64 jx0) ∧ X.cell? ⟨w.heap.size, 1, none⟩ = some (.int .i64 jy0) ∧ X.cell? ⟨w.heap.size, 2, none⟩ = some (.int .i64 jz0) ∧ X.cell? ⟨w.heap.size, 3, none⟩ = some (.int .i64 ju0) ∧ X.cell? ⟨w.heap.size + 1, 0, none⟩ = some (.int .i64 jx1) ∧ X.cell? ⟨w.heap.size + 1, 1, none⟩ = some (.int .i64 jy1) ∧ X.cell? ⟨w.heap.size + 1, 2, none⟩ = some (.int .i64 jz1) ∧ X.cell? ⟨w.heap.size + 1, 3, none⟩ = some (.int .i64 ju1) ∧ True := by
      have hk := HKX.out
      simp only [known_cons] at hk
      exact ⟨hk.2.1, hk.2.2.1, hk.2.2.2.1, hk.2.2.2.2.1, hk.2.2.2.2.2.1, hk.2.2.2.2.2.2.1, hk.2.2.2.2.2.2.2.1, hk.2.2.2.2.2.2.2.2.1, trivial⟩
    go_cut [7, 8] from 21 to 28 (fun p q wx => ∃ (b : Nat) (sa : Option Addr) (sc : Nat), p = .pointer (some ⟨b, 0, none⟩) ∧ q = .bool T ∧ X.heap.size ≤ b ∧ wx.cell? ⟨b, 0, none⟩ = some (.slice sa V.length sc) ∧ wx.frozen? ⟨b, 0, none⟩ = false ∧
        Row wx X.heap.size (.slice sa V.length sc) V ∧ (∀ k, (Value.slice sa V.length sc).ownBlock = some k → k ≠ b) ∧ Below X.heap.size X wx)
    case first =>
      have maX := Nat.ne_of_lt (cell_block_lt a0X)
      have mbX := Nat.ne_of_lt (cell_block_lt b0X)
      dsimp only at maX mbX
      have naX := Ne.symm maX
      have nbX := Ne.symm mbX
      go_region_held3 (fun w' => w'.cell? ⟨w.heap.size, 0, none⟩ = some (.int .i64 jx0) ∧ w'.cell? ⟨w.heap.size, 1, none⟩ = some (.int .i64 jy0) ∧ w'.cell? ⟨w.heap.size, 2, none⟩ = some (.int .i64 jz0) ∧ w'.cell? ⟨w.heap.size, 3, none⟩ = some (.int .i64 ju0) ∧ w'.cell? ⟨w.heap.size + 1, 0, none⟩ = some (.int .i64 jx1) ∧ w'.cell? ⟨w.heap.size + 1, 1, none⟩ = some (.int .i64 jy1) ∧ w'.cell? ⟨w.heap.size + 1, 2, none⟩ = some (.int .i64 jz1) ∧ w'.cell? ⟨w.heap.size + 1, 3, none⟩ = some (.int .i64 ju1))
        (first | (refine ⟨?_, ?_, ?_, ?_, ?_, ?_, ?_, ?_⟩ <;> exact cell_sf (by assumption) (by assumption)) | go_keep | trivial)
        (first
          | (go_at_call_of 9 (Value.agg #[Value.int .i64 jx0, Value.int .i64 jy0, Value.int .i64 jz0, Value.int .i64 ju0]); refine (toJoint _ _ _ _ _).mono ?_; rintro e w1 ⟨rfl, hb1⟩; have hs1 : Below X.heap.size X w1 := (by first | exact hb1 | exact st_drew hb1 | exact st_al hb1 | exact st_dal hb1); have HB1 : RowKit.Hid (Below X.heap.size X w1) := Lib.hid (hs1); have a01 : w1.cell? ⟨w.heap.size, 0, none⟩ = some (.int .i64 jx0) := cell_kept a0X HB1.out; have a11 : w1.cell? ⟨w.heap.size, 1, none⟩ = some (.int .i64 jy0) := cell_kept a1X HB1.out; have a21 : w1.cell? ⟨w.heap.size, 2, none⟩ = some (.int .i64 jz0) := cell_kept a2X HB1.out; have a31 : w1.cell? ⟨w.heap.size, 3, none⟩ = some (.int .i64 ju0) := cell_kept a3X HB1.out; have b01 : w1.cell? ⟨w.heap.size + 1, 0, none⟩ = some (.int .i64 jx1) := cell_kept b0X HB1.out; have b11 : w1.cell? ⟨w.heap.size + 1, 1, none⟩ = some (.int .i64 jy1) := cell_kept b1X HB1.out; have b21 : w1.cell? ⟨w.heap.size + 1, 2, none⟩ = some (.int .i64 jz1) := cell_kept b2X HB1.out; have b31 : w1.cell? ⟨w.heap.size + 1, 3, none⟩ = some (.int .i64 ju1) := cell_kept b3X HB1.out; (first | (have z1 := fr_dal (w := X) hb1) | (have z1 := fr_al (w := X) hb1) | skip); (try (obtain ⟨zc1, zf1, zl1⟩ := z1; have z1 := fr_mk zc1 zf1 zl1)); have ma1 := Nat.ne_of_lt (cell_block_lt a01); have mb1 := Nat.ne_of_lt (cell_block_lt b01); dsimp only at ma1 mb1; have na1 := Ne.symm ma1; have nb1 := Ne.symm mb1; clear hb1 hs1)
          | (go_at_call_of 9 (Value.agg #[Value.int .i64 jx1, Value.int .i64 jy1, Value.int .i64 jz1, Value.int .i64 ju1]); refine (toJoint _ _ _ _ _).mono ?_; rintro e w3 ⟨rfl, hb3⟩; have hs3 : Below w1.heap.size w1 w3 := (by first | exact hb3 | exact st_drew hb3 | exact st_al hb3 | exact st_dal hb3); have HB3 : RowKit.Hid (Below X.heap.size X w3) := Lib.hid (HB1.out.trans (hs3.mono HB1.out.size)); have a03 : w3.cell? ⟨w.heap.size, 0, none⟩ = some (.int .i64 jx0) := cell_kept a0X HB3.out; have a13 : w3.cell? ⟨w.heap.size, 1, none⟩ = some (.int .i64 jy0) := cell_kept a1X HB3.out; have a23 : w3.cell? ⟨w.heap.size, 2, none⟩ = some (.int .i64 jz0) := cell_kept a2X HB3.out; have a33 : w3.cell? ⟨w.heap.size, 3, none⟩ = some (.int .i64 ju0) := cell_kept a3X HB3.out; have b03 : w3.cell? ⟨w.heap.size + 1, 0, none⟩ = some (.int .i64 jx1) := cell_kept b0X HB3.out; have b13 : w3.cell? ⟨w.heap.size + 1, 1, none⟩ = some (.int .i64 jy1) := cell_kept b1X HB3.out; have b23 : w3.cell? ⟨w.heap.size + 1, 2, none⟩ = some (.int .i64 jz1) := cell_kept b2X HB3.out; have b33 : w3.cell? ⟨w.heap.size + 1, 3, none⟩ = some (.int .i64 ju1) := cell_kept b3X HB3.out; (first | (have z3 := fr_dal (w := w1) hb3) | (have z3 := fr_al (w := w1) hb3) | (have z3 := fr_keep z1 hs3) | skip); (try (obtain ⟨zc3, zf3, zl3⟩ := z3; have z3 := fr_mk zc3 zf3 zl3)); have ma3 := Nat.ne_of_lt (cell_block_lt a03); have mb3 := Nat.ne_of_lt (cell_block_lt b03); dsimp only at ma3 mb3; have na3 := Ne.symm ma3; have nb3 := Ne.symm mb3; clear hb3 hs3)
          | (go_at_call 20; refine (HI.out _).mono ?_; rintro e w4 ⟨u4, rfl, hr4, hb4⟩; obtain ⟨sa, sc, hu4, -⟩ := row_sliceS hr4; have hs4 : Below w3.heap.size w3 w4 := (by first | exact hb4 | exact st_drew hb4 | exact st_al hb4 | exact st_dal hb4); have HB4 : RowKit.Hid (Below X.heap.size X w4) := Lib.hid (HB3.out.trans (hs4.mono HB3.out.size)); have a04 : w4.cell? ⟨w.heap.size, 0, none⟩ = some (.int .i64 jx0) := cell_kept a0X HB4.out; have a14 : w4.cell? ⟨w.heap.size, 1, none⟩ = some (.int .i64 jy0) := cell_kept a1X HB4.out; have a24 : w4.cell? ⟨w.heap.size, 2, none⟩ = some (.int .i64 jz0) := cell_kept a2X HB4.out; have a34 : w4.cell? ⟨w.heap.size, 3, none⟩ = some (.int .i64 ju0) := cell_kept a3X HB4.out; have b04 : w4.cell? ⟨w.heap.size + 1, 0, none⟩ = some (.int .i64 jx1) := cell_kept b0X HB4.out; have b14 : w4.cell? ⟨w.heap.size + 1, 1, none⟩ = some (.int .i64 jy1) := cell_kept b1X HB4.out; have b24 : w4.cell? ⟨w.heap.size + 1, 2, none⟩ = some (.int .i64 jz1) := cell_kept b2X HB4.out; have b34 : w4.cell? ⟨w.heap.size + 1, 3, none⟩ = some (.int .i64 ju1) := cell_kept b3X HB4.out; (first | (have z4 := fr_dal (w := w3) hb4) | (have z4 := fr_al (w := w3) hb4) | (have z4 := fr_keep z3 hs4) | skip); (try (obtain ⟨zc4, zf4, zl4⟩ := z4; have z4 := fr_mk zc4 zf4 zl4)); have ma4 := Nat.ne_of_lt (cell_block_lt a04); have mb4 := Nat.ne_of_lt (cell_block_lt b04); dsimp only at ma4 mb4; have na4 := Ne.symm ma4; have nb4 := Ne.symm mb4; have hk4 := fun k hk => World.ownsRow.lt hr4 k hk; (try simp only [World.size_alloc] at hk4); have HK4 := Lib.hid hk4; have RW4 : RowKit.Hid (Row w4 X.heap.size u4 V) := Lib.hid (row_low hr4 (by have := HB3.out.size; simp <;> omega)); have l34 := hs4.size; have l3 := HB3.out.size; clear hr4 hb4 hs4 hk4; subst hu4))
      all_goals
        go_wp2_with fail
        go_meet
        refine ⟨_, sa, sc, rfl, rfl, ?_, ?_, ?_, ?_, ?_, ?_⟩
      all_goals first
        | exact Nat.le_refl _
        | exact HB1.out.size
        | exact HB3.out.size
        | exact HB4.out.size
        | (intro k hk; have h4 := HK4.out k hk; have h1 := HB3.out.size; omega)
        | exact World.ownsRow.alloc RW4.out _
        | exact ownsRow_setCell_other RW4.out (fun he => by have h4 := HK4.out _ he; have h1 := HB3.out.size; dsimp only at h4; omega) _
        | exact ownsRow_setCell_other (World.ownsRow.alloc RW4.out _) (fun he => by have h4 := HK4.out _ he; have h1 := HB3.out.size; dsimp only at h4; omega) _
        | (repeat (first | exact HB4.out | exact below_al HB4.out _ | refine Below.setCell ?_ (by first | exact Nat.le_refl _ | exact HB1.out.size | exact HB3.out.size | exact HB4.out.size) _)); done
        | go_keep; done
        | go_simp; done
        | trace_state
    case rest =>
      obtain ⟨b7, s7, c7, rfl, rfl, hb7, k7, -, hrg, hn7, hX⟩ := hcut
      have hlt : ∀ q ∈ ([(b5, 0, .slice s5 V.length c5), (w.heap.size, 0, .int .i64 jx0), (w.heap.size, 1, .int .i64 jy0), (w.heap.size, 2, .int .i64 jz0), (w.heap.size, 3, .int .i64 ju0), (w.heap.size + 1, 0, .int .i64 jx1), (w.heap.size + 1, 1, .int .i64 jy1), (w.heap.size + 1, 2, .int .i64 jz1), (w.heap.size + 1, 3, .int .i64 ju1)] : List (Nat × Nat × Value)), q.1 < X.heap.size := fun q hq => Known.lt HKX.out hq
      have hgt := fun k hk => (World.ownsRow.lt hrg k hk).1
      have hwl := fun k hk => (World.ownsRow.lt RWX.out k hk).2
      have HK2 := Lib.hid (HKX.out.below hX)
      have HB2 := Lib.hid (HBX.out.trans (hX.mono HBX.out.size))
      have RW2 := Lib.hid (Row.below RWX.out hX)
      have RG2 := Lib.hid hrg
      have HLT := Lib.hid hlt
      have HGT := Lib.hid hgt
      have HBs := HBX.out.size
      have HWL := Lib.hid hwl
      have HN7 := Lib.hid hn7
      have k5 := HK2.out
      simp only [known_cons] at k5
      obtain ⟨k5, -⟩ := k5
      have hTT : (T != T) = false := by simp
      clear hX hrg hlt hgt hwl hn7 HKX HBX RWX
      go_wp2_with fail
      refine (eqStone_same _ _ _ _ _ V RG2.out RW2.out).mono ?_
      rintro e w6 ⟨rfl, hb6⟩
      replace k5 := cell_kept k5 hb6
      replace k7 := cell_kept k7 hb6
      have HK6 := Lib.hid (HK2.out.below hb6)
      have HB6 := Lib.hid (HB2.out.trans (hb6.mono HB2.out.size))
      have RW6 := Lib.hid (Row.below RW2.out hb6)
      have RG6 := Lib.hid (Row.below RG2.out hb6)
      clear hb6 HK2 HB2 RW2 RG2
      go_wp2_with fail
      refine (markStone _ _ _ V RG6.out hml).mono ?_
      rintro e w7 ⟨rfl, hrm, z1, z2, z3, z4, z5⟩
      have hg : w6.grownBy w7 (Value.slice s7 V.length c7).ownBlock := ⟨z2, z3, z4, z1, z5⟩
      have HK7 := Lib.hid (known_mark HK6.out hg (fun q hq he => by have h1 := HLT.out q hq; have h2 := HGT.out _ he.symm; omega))
      replace k5 := cell_mark k5 hg (fun he => by have h1 := HLT.out _ (List.mem_cons_self ..); have h2 := HGT.out _ he.symm; dsimp only at h1 h2; omega)
      replace k7 := cell_mark k7 hg (fun he => HN7.out _ he.symm rfl)
      have HB7 := Lib.hid (HB6.out.grown hg HB6.out.size (fun k hk => by have h2 := HGT.out _ hk; have h3 := HBs; omega))
      have RW7 := Lib.hid (row_mark RW6.out hg (fun k hk he => by have h1 := HWL.out k hk; have h2 := HGT.out _ he.symm; omega))
      have RM7 := Lib.hid hrm
      clear hg z1 z2 z3 z4 z5 hrm HK6 HB6 RW6 RG6
      go_wp2_with fail
      refine (heldStone _ _ _ _ RM7.out hml).mono ?_
      rintro e w8 ⟨rfl, hb8⟩
      replace k7 := cell_kept k7 hb8
      have HK8 := Lib.hid ((HK7.out.below hb8).cons k7)
      have HB8 := Lib.hid (HB7.out.trans (hb8.mono HB7.out.size))
      have RW8 := Lib.hid (Row.below RW7.out hb8)
      have RM8 := Lib.hid (Row.below RM7.out hb8)
      clear hb8 k5 k7 HK7 HB7 RW7 RM7
      go_wp2_with fail
      refine World.any (p := fun W => Code.wp _ _ _ _ W) (fun Y hW => ?_)
      have HKY : RowKit.Hid (Known Y [(b7, 0, .slice s7 V.length c7), (b5, 0, .slice s5 V.length c5), (w.heap.size, 0, .int .i64 jx0), (w.heap.size, 1, .int .i64 jy0), (w.heap.size, 2, .int .i64 jz0), (w.heap.size, 3, .int .i64 ju0), (w.heap.size + 1, 0, .int .i64 jx1), (w.heap.size + 1, 1, .int .i64 jy1), (w.heap.size + 1, 2, .int .i64 jz1), (w.heap.size + 1, 3, .int .i64 ju1)]) := Lib.hid (by subst hW; exact HK8.out)
      have HBY : RowKit.Hid (Below w.heap.size w Y) := Lib.hid (by subst hW; exact HB8.out)
      have RWY : RowKit.Hid (Row Y W.heap.size (.slice s5 V.length c5) V) := Lib.hid (by subst hW; exact RW8.out)
      have RMY : RowKit.Hid (Row Y X.heap.size (.slice s7 V.length c7) (marks 1 V.length)) := Lib.hid (by subst hW; exact RM8.out)
      clear hW HK8 HB8 RW8 RM8
      obtain ⟨a0Y, a1Y, a2Y, a3Y, b0Y, b1Y, b2Y, b3Y, -⟩ : Y.cell? ⟨w.heap.size, 0, none⟩ = some (.int .i64 jx0) ∧ Y.cell? ⟨w.heap.size, 1, none⟩ = some (.int .i64 jy0) ∧ Y.cell? ⟨w.heap.size, 2, none⟩ = some (.int .i64 jz0) ∧ Y.cell? ⟨w.heap.size, 3, none⟩ = some (.int .i64 ju0) ∧ Y.cell? ⟨w.heap.size + 1, 0, none⟩ = some (.int .i64 jx1) ∧ Y.cell? ⟨w.heap.size + 1, 1, none⟩ = some (.int .i64 jy1) ∧ Y.cell? ⟨w.heap.size + 1, 2, none⟩ = some (.int .i64 jz1) ∧ Y.cell? ⟨w.heap.size + 1, 3, none⟩ = some (.int .i64 ju1) ∧ True := by
        have hk := HKY.out
        simp only [known_cons] at hk
        exact ⟨hk.2.2.1, hk.2.2.2.1, hk.2.2.2.2.1, hk.2.2.2.2.2.1, hk.2.2.2.2.2.2.1, hk.2.2.2.2.2.2.2.1, hk.2.2.2.2.2.2.2.2.1, hk.2.2.2.2.2.2.2.2.2.1, trivial⟩
      go_cut [11, 12] from 49 to 56 (fun p q wx => ∃ (b : Nat) (sa : Option Addr) (sc : Nat), p = .pointer (some ⟨b, 0, none⟩) ∧ q = .bool T ∧ Y.heap.size ≤ b ∧ wx.cell? ⟨b, 0, none⟩ = some (.slice sa V.length sc) ∧ wx.frozen? ⟨b, 0, none⟩ = false ∧
          Row wx Y.heap.size (.slice sa V.length sc) V ∧ (∀ k, (Value.slice sa V.length sc).ownBlock = some k → k ≠ b) ∧ Below Y.heap.size Y wx)
      case first =>
        have maY := Nat.ne_of_lt (cell_block_lt a0Y)
        have mbY := Nat.ne_of_lt (cell_block_lt b0Y)
        dsimp only at maY mbY
        have naY := Ne.symm maY
        have nbY := Ne.symm mbY
        go_region_held3 (fun w' => w'.cell? ⟨w.heap.size, 0, none⟩ = some (.int .i64 jx0) ∧ w'.cell? ⟨w.heap.size, 1, none⟩ = some (.int .i64 jy0) ∧ w'.cell? ⟨w.heap.size, 2, none⟩ = some (.int .i64 jz0) ∧ w'.cell? ⟨w.heap.size, 3, none⟩ = some (.int .i64 ju0) ∧ w'.cell? ⟨w.heap.size + 1, 0, none⟩ = some (.int .i64 jx1) ∧ w'.cell? ⟨w.heap.size + 1, 1, none⟩ = some (.int .i64 jy1) ∧ w'.cell? ⟨w.heap.size + 1, 2, none⟩ = some (.int .i64 jz1) ∧ w'.cell? ⟨w.heap.size + 1, 3, none⟩ = some (.int .i64 ju1))
          (first | (refine ⟨?_, ?_, ?_, ?_, ?_, ?_, ?_, ?_⟩ <;> exact cell_sf (by assumption) (by assumption)) | go_keep | trivial)
          (first
            | (go_at_call_of 9 (Value.agg #[Value.int .i64 jx0, Value.int .i64 jy0, Value.int .i64 jz0, Value.int .i64 ju0]); refine (toJoint _ _ _ _ _).mono ?_; rintro e w1 ⟨rfl, hb1⟩; have hs1 : Below Y.heap.size Y w1 := (by first | exact hb1 | exact st_drew hb1 | exact st_al hb1 | exact st_dal hb1); have HB1 : RowKit.Hid (Below Y.heap.size Y w1) := Lib.hid (hs1); have a01 : w1.cell? ⟨w.heap.size, 0, none⟩ = some (.int .i64 jx0) := cell_kept a0Y HB1.out; have a11 : w1.cell? ⟨w.heap.size, 1, none⟩ = some (.int .i64 jy0) := cell_kept a1Y HB1.out; have a21 : w1.cell? ⟨w.heap.size, 2, none⟩ = some (.int .i64 jz0) := cell_kept a2Y HB1.out; have a31 : w1.cell? ⟨w.heap.size, 3, none⟩ = some (.int .i64 ju0) := cell_kept a3Y HB1.out; have b01 : w1.cell? ⟨w.heap.size + 1, 0, none⟩ = some (.int .i64 jx1) := cell_kept b0Y HB1.out; have b11 : w1.cell? ⟨w.heap.size + 1, 1, none⟩ = some (.int .i64 jy1) := cell_kept b1Y HB1.out; have b21 : w1.cell? ⟨w.heap.size + 1, 2, none⟩ = some (.int .i64 jz1) := cell_kept b2Y HB1.out; have b31 : w1.cell? ⟨w.heap.size + 1, 3, none⟩ = some (.int .i64 ju1) := cell_kept b3Y HB1.out; (first | (have z1 := fr_dal (w := Y) hb1) | (have z1 := fr_al (w := Y) hb1) | skip); (try (obtain ⟨zc1, zf1, zl1⟩ := z1; have z1 := fr_mk zc1 zf1 zl1)); have ma1 := Nat.ne_of_lt (cell_block_lt a01); have mb1 := Nat.ne_of_lt (cell_block_lt b01); dsimp only at ma1 mb1; have na1 := Ne.symm ma1; have nb1 := Ne.symm mb1; clear hb1 hs1)
            | (go_at_call_of 9 (Value.agg #[Value.int .i64 jx1, Value.int .i64 jy1, Value.int .i64 jz1, Value.int .i64 ju1]); refine (toJoint _ _ _ _ _).mono ?_; rintro e w3 ⟨rfl, hb3⟩; have hs3 : Below w1.heap.size w1 w3 := (by first | exact hb3 | exact st_drew hb3 | exact st_al hb3 | exact st_dal hb3); have HB3 : RowKit.Hid (Below Y.heap.size Y w3) := Lib.hid (HB1.out.trans (hs3.mono HB1.out.size)); have a03 : w3.cell? ⟨w.heap.size, 0, none⟩ = some (.int .i64 jx0) := cell_kept a0Y HB3.out; have a13 : w3.cell? ⟨w.heap.size, 1, none⟩ = some (.int .i64 jy0) := cell_kept a1Y HB3.out; have a23 : w3.cell? ⟨w.heap.size, 2, none⟩ = some (.int .i64 jz0) := cell_kept a2Y HB3.out; have a33 : w3.cell? ⟨w.heap.size, 3, none⟩ = some (.int .i64 ju0) := cell_kept a3Y HB3.out; have b03 : w3.cell? ⟨w.heap.size + 1, 0, none⟩ = some (.int .i64 jx1) := cell_kept b0Y HB3.out; have b13 : w3.cell? ⟨w.heap.size + 1, 1, none⟩ = some (.int .i64 jy1) := cell_kept b1Y HB3.out; have b23 : w3.cell? ⟨w.heap.size + 1, 2, none⟩ = some (.int .i64 jz1) := cell_kept b2Y HB3.out; have b33 : w3.cell? ⟨w.heap.size + 1, 3, none⟩ = some (.int .i64 ju1) := cell_kept b3Y HB3.out; (first | (have z3 := fr_dal (w := w1) hb3) | (have z3 := fr_al (w := w1) hb3) | (have z3 := fr_keep z1 hs3) | skip); (try (obtain ⟨zc3, zf3, zl3⟩ := z3; have z3 := fr_mk zc3 zf3 zl3)); have ma3 := Nat.ne_of_lt (cell_block_lt a03); have mb3 := Nat.ne_of_lt (cell_block_lt b03); dsimp only at ma3 mb3; have na3 := Ne.symm ma3; have nb3 := Ne.symm mb3; clear hb3 hs3)
            | (go_at_call 20; refine (HI.out _).mono ?_; rintro e w4 ⟨u4, rfl, hr4, hb4⟩; obtain ⟨sa, sc, hu4, -⟩ := row_sliceS hr4; have hs4 : Below w3.heap.size w3 w4 := (by first | exact hb4 | exact st_drew hb4 | exact st_al hb4 | exact st_dal hb4); have HB4 : RowKit.Hid (Below Y.heap.size Y w4) := Lib.hid (HB3.out.trans (hs4.mono HB3.out.size)); have a04 : w4.cell? ⟨w.heap.size, 0, none⟩ = some (.int .i64 jx0) := cell_kept a0Y HB4.out; have a14 : w4.cell? ⟨w.heap.size, 1, none⟩ = some (.int .i64 jy0) := cell_kept a1Y HB4.out; have a24 : w4.cell? ⟨w.heap.size, 2, none⟩ = some (.int .i64 jz0) := cell_kept a2Y HB4.out; have a34 : w4.cell? ⟨w.heap.size, 3, none⟩ = some (.int .i64 ju0) := cell_kept a3Y HB4.out; have b04 : w4.cell? ⟨w.heap.size + 1, 0, none⟩ = some (.int .i64 jx1) := cell_kept b0Y HB4.out; have b14 : w4.cell? ⟨w.heap.size + 1, 1, none⟩ = some (.int .i64 jy1) := cell_kept b1Y HB4.out; have b24 : w4.cell? ⟨w.heap.size + 1, 2, none⟩ = some (.int .i64 jz1) := cell_kept b2Y HB4.out; have b34 : w4.cell? ⟨w.heap.size + 1, 3, none⟩ = some (.int .i64 ju1) := cell_kept b3Y HB4.out; (first | (have z4 := fr_dal (w := w3) hb4) | (have z4 := fr_al (w := w3) hb4) | (have z4 := fr_keep z3 hs4) | skip); (try (obtain ⟨zc4, zf4, zl4⟩ := z4; have z4 := fr_mk zc4 zf4 zl4)); have ma4 := Nat.ne_of_lt (cell_block_lt a04); have mb4 := Nat.ne_of_lt (cell_block_lt b04); dsimp only at ma4 mb4; have na4 := Ne.symm ma4; have nb4 := Ne.symm mb4; have hk4 := fun k hk => World.ownsRow.lt hr4 k hk; (try simp only [World.size_alloc] at hk4); have HK4 := Lib.hid hk4; have RW4 : RowKit.Hid (Row w4 Y.heap.size u4 V) := Lib.hid (row_low hr4 (by have := HB3.out.size; simp <;> omega)); have l34 := hs4.size; have l3 := HB3.out.size; clear hr4 hb4 hs4 hk4; subst hu4))
        all_goals
          go_wp2_with fail
          go_meet
          refine ⟨_, sa, sc, rfl, rfl, ?_, ?_, ?_, ?_, ?_, ?_⟩
        all_goals first
          | exact Nat.le_refl _
          | exact HB1.out.size
          | exact HB3.out.size
          | exact HB4.out.size
          | (intro k hk; have h4 := HK4.out k hk; have h1 := HB3.out.size; omega)
          | exact World.ownsRow.alloc RW4.out _
          | exact ownsRow_setCell_other RW4.out (fun he => by have h4 := HK4.out _ he; have h1 := HB3.out.size; dsimp only at h4; omega) _
          | exact ownsRow_setCell_other (World.ownsRow.alloc RW4.out _) (fun he => by have h4 := HK4.out _ he; have h1 := HB3.out.size; dsimp only at h4; omega) _
          | (repeat (first | exact HB4.out | exact below_al HB4.out _ | refine Below.setCell ?_ (by first | exact Nat.le_refl _ | exact HB1.out.size | exact HB3.out.size | exact HB4.out.size) _)); done
          | go_keep; done
          | go_simp; done
          | trace_state
      case rest =>
        obtain ⟨b11, s11, c11, rfl, rfl, -, k11, -, hrh, -, hX⟩ := hcut
        have HB9 := Lib.hid (HBY.out.trans (hX.mono HBY.out.size))
        have RW9 := Lib.hid (Row.below RWY.out hX)
        have RM9 := Lib.hid (Row.below RMY.out hX)
        have RH9 := Lib.hid hrh
        have k7 := HKY.out.below hX
        simp only [known_cons] at k7
        obtain ⟨k7, k5, -⟩ := k7
        clear hX hrh HKY HBY RWY RMY
        go_wp2_with fail
        refine (eqStone_same _ _ _ _ _ V RH9.out RW9.out).mono ?_
        rintro e w10 ⟨rfl, hb10⟩
        replace k7 := cell_kept k7 hb10
        have HB10 := Lib.hid (HB9.out.trans (hb10.mono HB9.out.size))
        have RM10 := Lib.hid (Row.below RM9.out hb10)
        clear hb10 k5 k11 HB9 RW9 RM9 RH9
        go_wp2_with fail
        refine (heldStone _ _ _ _ RM10.out hml).mono ?_
        rintro e w11 ⟨rfl, hb11⟩
        have HB11 := Lib.hid (HB10.out.trans (hb11.mono HB10.out.size))
        clear hb11 k7
        go_wp2_with fail
        go_ret
        exact ⟨rfl, HB11.out⟩

/-! ### THE ROW's STEP -/
set_option maxRecDepth 100000 in
theorem lifted (os : Os) (started : os.Started) (H : Type) (enc : TypeId × Value → H) :
    ReturnsInHanded {} Try.checked os 7 .any (Rows.fnExactStoneBetweenSpec.pre6 enc Try.prog Try.f7 Rows.fnExactStoneBetweenRow.domain false) (Rows.fnExactStoneBetweenSpec.post enc Try.prog Try.f7 false true false false) := by
  refine returnsInHanded_of_change (C := Try.checked) own started (by kernel_rfl) Try.func7
    (ChangeSpec.witness6 (enc := enc) (C := Try.checked) false ⟨#[], #[.agg #[.int .i64 0, .int .i64 0, .int .i64 0, .int .i64 0], .agg #[.int .i64 0, .int .i64 0, .int .i64 0, .int .i64 0]], []⟩ 8 (by kernel_rfl) (by kernel_rfl) (by kernel_rfl) (by kernel_rfl)) ?_
  intro W base args ds gs before hval0 hW hcnd _
  have hval : ∀ (j : Nat) t v, Try.f7.params[j]? = some t → args[j]? = some v → Value.okWide Try.prog W .any base t v := hval0
  have hW' := hW
  obtain ⟨p, q, hA0, hV, rfl, hfz, hnd⟩ := hW
  have hA : DataW.TrodAll enc Try.prog W 0 (fun _ => true) true Try.f7.params.toList args.toList ds p := hA0
  rw [Try.params7] at hA hval
  obtain ⟨v0, vs0, d0, ds0, p0, q0, hargs, rfl, rfl, h0, r0⟩ := trodAll_cons hA
  obtain ⟨v1, vs1, d1, ds1, p1, q1, rfl, rfl, rfl, h1, r1⟩ := trodAll_cons r0
  obtain ⟨rfl, rfl, rfl⟩ := trodAll_nil r1
  obtain rfl : args = #[v0, v1] := by cases args; simp_all
  obtain ⟨rfl, rfl⟩ := trodVars_none hV
  have k0 := h0
  have lt0 : ∀ x ∈ p0, x.block < W.heap.size := by obtain ⟨m, hm⟩ := k0; exact DataW.trod_lt m _ _ _ hm
  obtain ⟨jx0, jy0, jz0, ju0, rfl, g0⟩ := open_joint (hval 0 25 v0 rfl rfl) h0
  have k1 := h1
  have lt1 : ∀ x ∈ p1, x.block < W.heap.size := by obtain ⟨m, hm⟩ := k1; exact DataW.trod_lt m _ _ _ hm
  obtain ⟨jx1, jy1, jz1, ju1, rfl, g1⟩ := open_joint (hval 1 25 v1 rfl rfl) h1
  clear hA0 hval0
  refine (walk jx0 jy0 jz0 ju0 jx1 jy1 jz1 ju1 W g0 g1).mono fun e W' ⟨he, bel⟩ => ?_
  subst he
  exact ⟨_, rfl, _, _, _, [], _, [], hW', trodAll_mk1 (shut_bool Try.underlying4 _), (trodAll_cons_mk (Below.trod laidOut (by kernel_rfl) (of_decide_eq_true (by kernel_rfl)) k0 bel lt0) (trodAll_cons_mk (Below.trod laidOut (by kernel_rfl) (of_decide_eq_true (by kernel_rfl)) k1 bel lt1) trodAll_mk0)), rfl, bel.frame _, fun h => by cases h⟩

theorem over : Rows.fnExactStoneBetweenRow.holds Try.pinned (OpenSpec.ofChange Rows.fnExactStoneBetweenSpec) :=
  OpenClaim.holds_of_wide 7 Try.f7 rfl rfl rfl rfl rfl rfl rfl ⟨rfl, rfl, rfl, rfl, rfl⟩ rfl rfl rfl rfl rfl (by kernel_rfl) Try.func7 (by kernel_rfl)
    (of_decide_eq_true (by kernel_rfl)) (by unfold Func.isWrapper; first | (rw [if_pos (by decide +kernel)]; kernel_rfl) | (rw [if_neg (by decide +kernel)]; exact ⟨rfl, rfl⟩))
    (fun os started H enc _ => lifted os started H enc)

/-- THE STATEMENT. -/
theorem proved : Rows.FnExactStoneBetweenSaid := over
#print axioms proved
end Go.Proofs.Ytioeemmdpfddaaa.fnExactStoneBetween
