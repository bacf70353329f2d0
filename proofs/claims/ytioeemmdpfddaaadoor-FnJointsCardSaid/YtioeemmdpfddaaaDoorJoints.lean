/- The law of joints: of a drawn arch both ends of a joint are on it, a point beyond it is not, and a stone lies between it and the next one. The card ties the library's tables to the program's text; no other condition. -/
import Derived.Test.YtioeemmdpfddaaaDoorArchS
import Derived.Test.YtioeemmdpfddaaaDoorJointT
import Derived.Test.YtioeemmdpfddaaaDoorJointD
import Derived.Test.YtioeemmdpfddaaaDoorAtC
import Derived.Test.YtioeemmdpfddaaaDoorLaidC
import Derived.Test.YtioeemmdpfddaaaDoorRows
import Derived.Test.YtioeemmdpfddaaaDoorCards
import Derived.Test.YtioeemmdpfddaaaDoorTie
import Derived.LaidMore
import Derived.Stop.Joined
import Derived.SevenTiedAt
import Derived.WalkKit
import Derived.ProofKit
import Derived.OpenShut
import Derived.ShutString
import Derived.ChangeOld
import Derived.Below
namespace Go.Proofs.YtioeemmdpfddaaaDoor.fnJoints
open Go.ChangeShapes Go.WideShapes Go.ChangeAt Go.RowKit
open Go.ChangeMaps (open_string shut_string)
set_option linter.unusedVariables false

theorem own : ownKnob Tryd.prog.godebug = none := by kernel_rfl
theorem laidOut : laidOutB Tryd.prog = true := by kernel_rfl

/-- WHAT THE WALK IS TOLD OF A SLICE OF INTEGERS THAT CAME IN: it is nil; or it leads to a row of 'cap' cells, the numbers 'zs' (the first 'len' are its elements, the rest its spare room), each fitting its kind. -/
def IsRow (k : IntKind) (w : World) (a : Option Addr) (len cap : Nat) (zs : List Int) : Prop :=
  (a = none ∧ len = 0 ∧ cap = 0 ∧ zs = []) ∨
  ∃ x, a = some x ∧ len ≤ cap ∧ cap ≤ maxLen ∧ zs.length = cap ∧ (∀ i, i < zs.length → w.cell? (x.add i) = some (.int k (zs.getD i 0))) ∧ ∀ n ∈ zs, (Lit.int k n).wf = true

/-! ### THE WALK: the Go text returns true, and writes nothing that was there. -/
set_option maxRecDepth 100000 in
set_option maxHeartbeats 8000000 in
theorem walk (a0 : Option Addr) (len0 cap0 : Nat) (z0 : List Int) (w : World) (g0 : IsRow .u8 w a0 len0 cap0 z0) (hT : Tens w) :
    Calls Tryd.prog 3 #[.slice a0 len0 cap0] w fun e w' => e = .returned (.bool true) ∧ Below w.heap.size w w' := by
  have hr : IsCode w a0 len0 cap0 z0 := g0
  clear g0
  have HT := Lib.hid hT
  clear hT
  have hm := (code_cells hr).1
  unfold maxLen at hm
  by_cases hbig : 1048576 < len0
  · clear hr
    go_enter Tryd.func3, Tryd.ntmps3
    go_wp2_with (go_at_call 5; refine (big_yes _ _ _ _ (by omega) (by omega)).mono ?_; rintro e w' ⟨rfl, rfl⟩)
    go_ret
    exact ⟨rfl, Below.refl _ _⟩
  · go_enter Tryd.func3, Tryd.ntmps3
    go_wp2_with fail
    refine (big_no _ _ _ _ (by omega) (by omega)).mono ?_
    rintro e w' ⟨rfl, rfl⟩
    go_wp2_with fail
    refine (drawArch _ _ _ _ _ hr).mono ?_
    rintro e w1 ⟨g, cp, m, js, hf, hjm, rfl, hrow, hb1⟩
    have hm3 := hf.1
    rw [archV_iff] at hm3
    have hm3 := hm3.2
    rw [hjm] at hm3
    have hlt := hrow.lt
    have HR := Lib.hid hr
    have HF := Lib.hid hf
    have HM := Lib.hid hjm
    have hal := (Below.refl w1.heap.size w1).alloc (Nat.le_refl _) (.cells #[.slice (some ⟨g, 0, none⟩) m cp] 26)
    have RW1 := Lib.hid (JRowAt.below hrow hal)
    have HB1 := Lib.hid (hb1.trans (hal.mono hb1.size))
    have hs1 : (w1.alloc (.cells #[.slice (some ⟨g, 0, none⟩) m cp] 26)).cell? ⟨w1.heap.size, 0, none⟩ = some (.slice (some ⟨g, 0, none⟩) m cp) := by go_simp
    have HS1 := Lib.hid hs1
    obtain ⟨-, hg1, hcp, hcm⟩ := hlt
    rw [hjm] at hcp
    unfold maxLen at hcm
    have hgn : g ≠ w1.heap.size := by omega
    clear hf hjm hrow hb1 hal hs1 hr
    go_wp2_with fail
    refine World.any (p := fun W => Code.wp _ _ _ _ W) (fun W hW => ?_)
    have RWW : RowKit.Hid (JRowAt W w.heap.size g cp js) := Lib.hid (by subst hW; exact RW1.out)
    have HBW : RowKit.Hid (Below w.heap.size w W) := Lib.hid (by subst hW; exact HB1.out)
    have sW : W.cell? ⟨w1.heap.size, 0, none⟩ = some (.slice (some ⟨g, 0, none⟩) m cp) := by subst hW; exact HS1.out
    clear hW RW1 HB1 HS1
    generalize w1.heap.size = bA at *
    obtain ⟨p, hp⟩ : ∃ p : Int, p = (m : Int) - 1 := ⟨_, rfl⟩
    have e1 : IntKind.i64.wrap ((m : Int) - 1) = p := by rw [hp]; exact IntWalk.i64_in _ (by omega)
    have hpz : ¬ p = 0 := by omega
    have hp1 : 1 < p := by omega
    have hp8 : p ≤ 7 := by omega
    have HP := Lib.hid hp
    clear hp
    go_region_held3 (fun w' => w'.cell? ⟨bA, 0, none⟩ = some (.slice (some ⟨g, 0, none⟩) m cp))
      (first | go_keep | trivial)
      (first
        | (go_at_call 7; refine (at_any _ _ _ _ z0 0 (by omega) (HR.out.below (by first | exact HBW.out | exact below_drewN HBW.out _))).mono ?_; rintro e w' ⟨t, ht0, ht1, rfl, rfl⟩; have htm : t.tmod p = t % p := Int.tmod_eq_emod_of_nonneg ht0; have hq0 : 0 ≤ t % p := Int.emod_nonneg _ (by omega); have hq1 : t % p < p := Int.emod_lt_of_pos _ (by omega); have htw : IntKind.i64.wrap (t % p) = t % p := IntWalk.i64_in _ (by omega)))
    refine World.any (p := fun W => Exit.then _ _ _ _ W) (fun X hW => ?_)
    have RWX : RowKit.Hid (JRowAt X w.heap.size g cp js) := Lib.hid (by subst hW; exact RWW.out)
    have HBX : RowKit.Hid (Below w.heap.size w X) := Lib.hid (by subst hW; exact below_drewN HBW.out 1)
    have sX : X.cell? ⟨bA, 0, none⟩ = some (.slice (some ⟨g, 0, none⟩) m cp) := by subst hW; exact sW
    clear hW RWW HBW sW HR e1
    generalize t % p = q at *
    obtain ⟨i, rfl⟩ : ∃ i : Nat, q = (i : Int) := ⟨q.toNat, by omega⟩
    obtain ⟨l, hl⟩ : ∃ l : Nat, l = i + 1 := ⟨_, rfl⟩
    have hlm : l < m := by have := HP.out; omega
    have hi00 : (0 : Int) ≤ (i : Int) := Int.natCast_nonneg _
    have him : (i : Int) < (m : Int) := by omega
    have hl00 : (0 : Int) ≤ (l : Int) := Int.natCast_nonneg _
    have hlm' : (l : Int) < (m : Int) := by omega
    have e2 : IntKind.i64.wrap ((i : Int) + 1) = (l : Int) := by rw [IntWalk.i64_in _ (by omega)]; omega
    have hmc : (m : Int) ≤ (cp : Int) := by omega
    obtain ⟨a0', a1, a2, a3⟩ := RWX.out.cells i (by have := HM.out; omega)
    obtain ⟨c0, c1, c2, c3⟩ := RWX.out.cells l (by have := HM.out; omega)
    obtain ⟨⟨⟨ix, iy⟩, ⟨ox, oy⟩⟩, ea⟩ : ∃ p, jt js i = p := ⟨_, rfl⟩
    obtain ⟨⟨⟨cx, cy⟩, ⟨dx, dy⟩⟩, ec⟩ : ∃ p, jt js l = p := ⟨_, rfl⟩
    rw [ea] at a0' a1 a2 a3
    rw [ec] at c0 c1 c2 c3
    dsimp only at a0' a1 a2 a3 c0 c1 c2 c3
    subst hl
    obtain ⟨q1, q2, q3, q4, q5, q6, q7, q8, q9, q10, q11, q12, q13⟩ := arch_pair HF.out (by have := HM.out; omega) ea ec
    have Q1 := Lib.hid q1
    have Q2 := Lib.hid q2
    have Q3 := Lib.hid q3
    have Q4 := Lib.hid q4
    have Q5 := Lib.hid q5
    have Q6 := Lib.hid q6
    have Q7 := Lib.hid q7
    have Q8 := Lib.hid q8
    have Q9 := Lib.hid q9
    clear q1 q2 q3 q4 q5 q6 q7 q8 q9 ea ec HF RWX
    have hSB := fun W => implStoneBetween ix iy ox oy cx cy dx dy W
    unfold BetAns at hSB
    rw [betV_yes Q5.out, Q5.out] at hSB
    have hv4 : (betw ((ix, iy), (ox, oy)) ((cx, cy), (dx, dy))).length = 4 := rfl
    generalize betw ((ix, iy), (ox, oy)) ((cx, cy), (dx, dy)) = V at *
    have HSB := Lib.hid hSB
    have HV4 := Lib.hid hv4
    clear hSB hv4 hm3 HM
    generalize hlz : i + 1 = l at *
    clear hlz
    go_wp2_with fail
    refine World.any (p := fun W => Code.wp _ _ _ _ W) (fun Y hW => ?_)
    have hXY : Below X.heap.size X Y := by subst hW; exact (Below.refl X.heap.size X).alloc (Nat.le_refl _) _
    have j0 : Y.cell? ⟨X.heap.size, 0, none⟩ = some (.int .i64 ix) := by subst hW; go_simp
    have j1 : Y.cell? ⟨X.heap.size, 1, none⟩ = some (.int .i64 iy) := by subst hW; go_simp
    have j2 : Y.cell? ⟨X.heap.size, 2, none⟩ = some (.int .i64 ox) := by subst hW; go_simp
    have j3 : Y.cell? ⟨X.heap.size, 3, none⟩ = some (.int .i64 oy) := by subst hW; go_simp
    have sY := cell_kept sX hXY
    have d0 := cell_kept c0 hXY
    have d1 := cell_kept c1 hXY
    have d2 := cell_kept c2 hXY
    have d3 := cell_kept c3 hXY
    have HBY := Lib.hid (HBX.out.trans (hXY.mono HBX.out.size))
    clear hW hXY a0' a1 a2 a3 c0 c1 c2 c3 sX HBX
    generalize X.heap.size = bJ at *
    have nA := Nat.ne_of_lt (cell_block_lt sY)
    have nG := Nat.ne_of_lt (cell_block_lt d0)
    have nJ := Nat.ne_of_lt (cell_block_lt j0)
    dsimp only at nA nG nJ
    go_cut [6, 7] from 25 to 35 (fun p q wx => ∃ (b : Nat) (sa : Option Addr) (sc : Nat), p = .pointer (some ⟨b, 0, none⟩) ∧ q = .bool true ∧ wx.cell? ⟨b, 0, none⟩ = some (.slice sa 4 sc) ∧ Row wx Y.heap.size (.slice sa 4 sc) V ∧ Below Y.heap.size Y wx)
    case first =>
      go_region_held3 (fun w' => w'.cell? ⟨bA, 0, none⟩ = some (.slice (some ⟨g, 0, none⟩) m cp) ∧ w'.cell? ⟨bJ, 0, none⟩ = some (.int .i64 ix) ∧ w'.cell? ⟨bJ, 1, none⟩ = some (.int .i64 iy) ∧ w'.cell? ⟨bJ, 2, none⟩ = some (.int .i64 ox) ∧ w'.cell? ⟨bJ, 3, none⟩ = some (.int .i64 oy) ∧ w'.cell? ⟨g, l * 4, none⟩ = some (.int .i64 cx) ∧ w'.cell? ⟨g, l * 4 + 1, none⟩ = some (.int .i64 cy) ∧ w'.cell? ⟨g, l * 4 + 2, none⟩ = some (.int .i64 dx) ∧ w'.cell? ⟨g, l * 4 + 3, none⟩ = some (.int .i64 dy))
        (first | (refine ⟨?_, ?_, ?_, ?_, ?_, ?_, ?_, ?_, ?_⟩ <;> exact cell_sf2 (by assumption) (by assumption)) | go_keep | trivial)
        (first
          | (go_at_call 8; refine (HSB.out _).mono ?_; rintro e w4 ⟨u4, rfl, hr4, hb4⟩; obtain ⟨sa, sc, hu4, -⟩ := row_sliceS hr4; rw [HV4.out] at hu4; have hs4 : Below Y.heap.size Y w4 := (by first | exact hb4 | exact st_drew2 hb4 | exact st_al2 hb4 | exact st_dal2 hb4); have sY4 : w4.cell? ⟨bA, 0, none⟩ = some (.slice (some ⟨g, 0, none⟩) m cp) := cell_kept sY hs4; have j04 : w4.cell? ⟨bJ, 0, none⟩ = some (.int .i64 ix) := cell_kept j0 hs4; have j14 : w4.cell? ⟨bJ, 1, none⟩ = some (.int .i64 iy) := cell_kept j1 hs4; have j24 : w4.cell? ⟨bJ, 2, none⟩ = some (.int .i64 ox) := cell_kept j2 hs4; have j34 : w4.cell? ⟨bJ, 3, none⟩ = some (.int .i64 oy) := cell_kept j3 hs4; have d04 : w4.cell? ⟨g, l * 4, none⟩ = some (.int .i64 cx) := cell_kept d0 hs4; have d14 : w4.cell? ⟨g, l * 4 + 1, none⟩ = some (.int .i64 cy) := cell_kept d1 hs4; have d24 : w4.cell? ⟨g, l * 4 + 2, none⟩ = some (.int .i64 dx) := cell_kept d2 hs4; have d34 : w4.cell? ⟨g, l * 4 + 3, none⟩ = some (.int .i64 dy) := cell_kept d3 hs4; (first | (have z4 := fr_dal2 (w := Y) hb4) | (have z4 := fr_al2 (w := Y) hb4) | skip); (try (obtain ⟨zc4, zf4, zl4⟩ := z4)); have hk4 := fun k hk => World.ownsRow.lt hr4 k hk; (try simp only [World.size_alloc, World.size_drew] at hk4); have HK4 := Lib.hid hk4; have RW4 : RowKit.Hid (Row w4 Y.heap.size u4 V) := Lib.hid (Row.base hr4 (by first | exact Nat.le_refl _ | (simp <;> omega))); have nA4 := Nat.ne_of_lt (cell_block_lt sY4); have nG4 := Nat.ne_of_lt (cell_block_lt d04); have nJ4 := Nat.ne_of_lt (cell_block_lt j04); dsimp only at nA4 nG4 nJ4; have HB4 := Lib.hid hs4; clear hr4 hb4 hs4 hk4; subst hu4))
      all_goals
        go_wp2_with fail
        go_meet
        refine ⟨_, sa, sc, rfl, rfl, ?_, ?_, ?_⟩
      all_goals first
        | exact World.ownsRow.alloc RW4.out _
        | exact ownsRow_setCell_other RW4.out (fun he => by have h4 := HK4.out _ he; dsimp only at h4; omega) _
        | exact ownsRow_setCell_other (World.ownsRow.alloc RW4.out _) (fun he => by have h4 := HK4.out _ he; dsimp only at h4; omega) _
        | (repeat (first | exact HB4.out | exact below_al2 HB4.out _ | refine Below.setCell ?_ (by first | exact Nat.le_refl _ | exact HB4.out.size) _)); done
        | go_keep; done
        | go_simp; done
        | trace_state
    case rest =>
      obtain ⟨bS, sa, sc, rfl, rfl, s0, hrow, hX⟩ := hcut
      have RS := Lib.hid hrow
      have HB0 := Lib.hid (HBY.out.trans (hX.mono HBY.out.size))
      replace j0 := cell_kept j0 hX
      replace j1 := cell_kept j1 hX
      replace j2 := cell_kept j2 hX
      replace j3 := cell_kept j3 hX
      clear hX hrow sY d0 d1 d2 d3 HBY nA nG nJ HSB
      have hin : inV V (ix, iy) = true := Q6.out
      generalize hX1 : mirX ix iy 3 = X1 at *
      generalize hX2 : mirX ox oy 3 = X2 at *
      have HX1 := Lib.hid hX1
      have HX2 := Lib.hid hX2
      generalize hD : decide (iy = oy) = D at *
      have hDq : (iy == oy) = D := hD
      have hDD : (D == D) = true := by simp
      have hA := ptText_size ix iy
      have hB := ptText_size ox oy
      have hTx := jtTextV_yes Q1.out
      have hPA := fun W h => implPointText ix iy W h
      have hPB := fun W h => implPointText ox oy W h
      have hPT := fun W h => implJointText ix iy ox oy W h
      generalize ptTextV ix iy = PA at *
      generalize ptTextV ox oy = PB at *
      generalize jtTextV ix iy ox oy = PT at *
      have hT1 : PA ++ (⟨#[45]⟩ : ByteArray) ++ PB = PT := hTx.symm
      have HPA := Lib.hid hPA
      have HPB := Lib.hid hPB
      have HPT := Lib.hid hPT
      have HTX := Lib.hid hTx
      clear hX1 hX2 hin hD hTx hPA hPB hPT
      go_wp2_with fail
      refine (implMirrorJoint _ _ _ _ _ _).mono ?_
      rintro e v1 ⟨rfl, hb1⟩
      rw [HX1.out, HX2.out]
      replace j0 := cell_kept j0 hb1
      replace j1 := cell_kept j1 hb1
      replace j2 := cell_kept j2 hb1
      replace j3 := cell_kept j3 hb1
      replace s0 := cell_kept s0 hb1
      have HB1 := Lib.hid (HB0.out.trans (hb1.mono HB0.out.size))
      have RS1 := Lib.hid (Row.below RS.out hb1)
      clear hb1 HB0 RS
      have hM0 : Below v1.heap.size v1 (v1.alloc (.cells #[.int .i64 X1, .int .i64 iy, .int .i64 X2, .int .i64 oy] 32)) := (Below.refl v1.heap.size v1).alloc (Nat.le_refl _) _
      go_wp2_with fail
      refine World.any (p := fun W => Code.wp _ _ _ _ W) (fun Z hW => ?_)
      have hM1 : Below v1.heap.size v1 Z := by subst hW; exact hM0
      have m0 : Z.cell? ⟨v1.heap.size, 0, none⟩ = some (.int .i64 X1) := by subst hW; go_simp
      have m1 : Z.cell? ⟨v1.heap.size, 1, none⟩ = some (.int .i64 iy) := by subst hW; go_simp
      have m2 : Z.cell? ⟨v1.heap.size, 2, none⟩ = some (.int .i64 X2) := by subst hW; go_simp
      have m3 : Z.cell? ⟨v1.heap.size, 3, none⟩ = some (.int .i64 oy) := by subst hW; go_simp
      replace j0 := cell_kept j0 hM1
      replace j1 := cell_kept j1 hM1
      replace j2 := cell_kept j2 hM1
      replace j3 := cell_kept j3 hM1
      replace s0 := cell_kept s0 hM1
      have HBz := Lib.hid (HB1.out.trans (hM1.mono HB1.out.size))
      have RSz := Lib.hid (Row.below RS1.out hM1)
      clear hW hM0 hM1 HB1 RS1
      have HB1 := HBz
      have RS1 := RSz
      clear HBz RSz
      generalize v1.heap.size = bM at *
      have e3 : IntKind.i64.wrap (2 * ox) = 2 * ox := IntWalk.i64_in _ (by omega)
      have e4 : IntKind.i64.wrap (2 * oy) = 2 * oy := IntWalk.i64_in _ (by omega)
      have e5 : IntKind.i64.wrap (2 * ox - ix) = 2 * ox - ix := IntWalk.i64_in _ (by omega)
      have e6 : IntKind.i64.wrap (2 * oy - iy) = 2 * oy - iy := IntWalk.i64_in _ (by omega)
      have hq4 := Q4.out
      generalize hb1 : 2 * ox - ix = B1 at *
      generalize hb2 : 2 * oy - iy = B2 at *
      have c1 : ∀ x : Since Z, Calls Tryd.prog 10 #[.agg #[.int .i64 ix, .int .i64 iy, .int .i64 ox, .int .i64 oy]] x.1 fun e w' => e = .returned (.bool true) ∧ Below x.1.heap.size x.1 w' := fun x => by
        have := implJointOk ix iy ox oy x.1; rw [Q1.out] at this; exact this
      have c2 : ∀ x : Since Z, Calls Tryd.prog 11 #[.agg #[.int .i64 ix, .int .i64 iy, .int .i64 ox, .int .i64 oy], .agg #[.int .i64 ix, .int .i64 iy]] x.1 fun e w' => e = .returned (.bool true) ∧ Below x.1.heap.size x.1 w' := fun x => by
        have := implIsOnJoint ix iy ox oy ix iy x.1; rw [Q2.out] at this; exact this
      have c3 : ∀ x : Since Z, Calls Tryd.prog 11 #[.agg #[.int .i64 ix, .int .i64 iy, .int .i64 ox, .int .i64 oy], .agg #[.int .i64 ox, .int .i64 oy]] x.1 fun e w' => e = .returned (.bool true) ∧ Below x.1.heap.size x.1 w' := fun x => by
        have := implIsOnJoint ix iy ox oy ox oy x.1; rw [Q3.out] at this; exact this
      have c4 : ∀ x : Since Z, Calls Tryd.prog 11 #[.agg #[.int .i64 ix, .int .i64 iy, .int .i64 ox, .int .i64 oy], .agg #[.int .i64 B1, .int .i64 B2]] x.1 fun e w' => e = .returned (.bool false) ∧ Below x.1.heap.size x.1 w' := fun x => by
        have := implIsOnJoint ix iy ox oy B1 B2 x.1; rw [hq4] at this; exact this
      have c5 : ∀ x : Since Z, Calls Tryd.prog 12 #[.agg #[.slice sa 4 sc]] x.1 fun e w' => e = .returned (.bool true) ∧ Below x.1.heap.size x.1 w' := fun x => by
        have := specStoneOk _ _ _ V (Row.below RS1.out x.2); rw [Q5.out] at this; exact this
      have c6 : ∀ x : Since Z, Calls Tryd.prog 13 #[.agg #[.slice sa 4 sc], .agg #[.int .i64 ix, .int .i64 iy]] x.1 fun e w' => e = .returned (.bool true) ∧ Below x.1.heap.size x.1 w' := fun x => by
        have := specIsInStone _ _ _ V ix iy (Row.below RS1.out x.2); rw [Q6.out] at this; exact this
      have c7 : ∀ x : Since Z, Calls Tryd.prog 9 #[.agg #[.int .i64 X1, .int .i64 iy, .int .i64 X2, .int .i64 oy], .int .i64 3] x.1 fun e w' => e = .returned (.agg #[.int .i64 ix, .int .i64 iy, .int .i64 ox, .int .i64 oy]) ∧ Below x.1.heap.size x.1 w' := fun x => by
        have := implMirrorJoint X1 iy X2 oy 3 x.1; rw [Q8.out, Q9.out] at this; exact this
      have c8 : ∀ x : Since Z, Calls Tryd.prog 14 #[.agg #[.int .i64 ix, .int .i64 iy, .int .i64 ox, .int .i64 oy]] x.1 fun e w' => e = .returned (.bool D) ∧ Below x.1.heap.size x.1 w' := fun x => by
        have := implIsFlat ix iy ox oy x.1; rw [Q7.out] at this; exact this
      have c9 : ∀ x : Since Z, Calls Tryd.prog 15 #[.agg #[.int .i64 ix, .int .i64 iy, .int .i64 ox, .int .i64 oy]] x.1 fun e w' => e = .returned (.string PT) ∧ Below x.1.heap.size x.1 w' := fun x => by
        exact HPT.out x.1 (HT.out.below (HB1.out.trans (x.2.mono HB1.out.size)))
      have c10 : ∀ x : Since Z, Calls Tryd.prog 16 #[.agg #[.int .i64 ix, .int .i64 iy]] x.1 fun e w' => e = .returned (.string PA) ∧ Below x.1.heap.size x.1 w' := fun x => by
        exact HPA.out x.1 (HT.out.below (HB1.out.trans (x.2.mono HB1.out.size)))
      have c11 : ∀ x : Since Z, Calls Tryd.prog 16 #[.agg #[.int .i64 ox, .int .i64 oy]] x.1 fun e w' => e = .returned (.string PB) ∧ Below x.1.heap.size x.1 w' := fun x => by
        exact HPB.out x.1 (HT.out.below (HB1.out.trans (x.2.mono HB1.out.size)))
      have C1 := Lib.hid c1
      have C2 := Lib.hid c2
      have C3 := Lib.hid c3
      have C4 := Lib.hid c4
      have C5 := Lib.hid c5
      have C6 := Lib.hid c6
      have C7 := Lib.hid c7
      have C8 := Lib.hid c8
      have C9 := Lib.hid c9
      have C10 := Lib.hid c10
      have C11 := Lib.hid c11
      have hn1 := Since.nonempty Z
      have tj0 := fun (x : Since Z) => (x.cell bJ 0 (cell_block_lt j0)).trans j0
      have tj1 := fun (x : Since Z) => (x.cell bJ 1 (cell_block_lt j1)).trans j1
      have tj2 := fun (x : Since Z) => (x.cell bJ 2 (cell_block_lt j2)).trans j2
      have tj3 := fun (x : Since Z) => (x.cell bJ 3 (cell_block_lt j3)).trans j3
      have ts0 := fun (x : Since Z) => (x.cell bS 0 (cell_block_lt s0)).trans s0
      have tm0 := fun (x : Since Z) => (x.cell bM 0 (cell_block_lt m0)).trans m0
      have tm1 := fun (x : Since Z) => (x.cell bM 1 (cell_block_lt m1)).trans m1
      have tm2 := fun (x : Since Z) => (x.cell bM 2 (cell_block_lt m2)).trans m2
      have tm3 := fun (x : Since Z) => (x.cell bM 3 (cell_block_lt m3)).trans m3
      clear c1 c2 c3 c4 c5 c6 c7 c8 c9 c10 c11 j0 j1 j2 j3 s0 m0 m1 m2 m3 q10 q11 q12 q13 hq4
      refine wp_region_fast (by kernel_rfl) (by kernel_rfl) ?_
      try dsimp only [List.append]
      repeat (go_big_quiet_step (first
        | (go_at_call 10; exact Since.call (C1.out _))
        | (go_at_call_of 11 (Value.agg #[Value.int .i64 ix, Value.int .i64 iy]); exact Since.call (C2.out _))
        | (go_at_call_of 11 (Value.agg #[Value.int .i64 ox, Value.int .i64 oy]); exact Since.call (C3.out _))
        | (go_at_call_of 11 (Value.agg #[Value.int .i64 B1, Value.int .i64 B2]); exact Since.call (C4.out _))
        | (go_at_call 12; exact Since.call (C5.out _))
        | (go_at_call 13; exact Since.call (C6.out _))
        | (go_at_call 9; exact Since.call (C7.out _))
        | (go_at_call 14; exact Since.call (C8.out _))
        | (go_at_call 15; exact Since.call (C9.out _))
        | (go_at_call_of 16 (Value.agg #[Value.int .i64 ix, Value.int .i64 iy]); exact Since.call (C10.out _))
        | (go_at_call_of 16 (Value.agg #[Value.int .i64 ox, Value.int .i64 oy]); exact Since.call (C11.out _))))
      refine wpQuiet_nil ?_
      rintro w6 ⟨⟨w6, hb6⟩, rfl⟩
      go_wp2_with fail
      go_ret
      exact ⟨rfl, HB1.out.trans (hb6.mono HB1.out.size)⟩

/-- The door's own heap meets the condition. -/
theorem door_met (os : Os) (args : Array Value) : laidMetH Tryd.prog Rows.fnJointsRow.laid ((World.doorLaid Tryd.prog 400 os).forCall (fun _ _ => 0) ⟨#[], args, []⟩).memory :=
  laidMetH_of_parts3 (fuel := 8) (laidMet_of_run' 8 (by kernel_rfl) (by kernel_rfl)) (by kernel_rfl) (by kernel_rfl)

/-! ### THE ROW's STEP -/
set_option maxRecDepth 100000 in
theorem lifted (os : Os) (started : os.Started) (H : Type) (enc : TypeId × Value → H) :
    ReturnsInHanded {} Tryd.checked os 3 .any (fun w args => (Rows.fnJointsSpec.pre enc Tryd.prog Tryd.f3 [] false w args ∧ laidMetH Tryd.prog Rows.fnJointsRow.laid w) ∧ sizedMet enc Tryd.prog Tryd.f3 (OpenSpec.ofChange Rows.fnJointsSpec) false w args) (Rows.fnJointsSpec.post enc Tryd.prog Tryd.f3 false true false false) := by
  refine returnsInHanded_of_change_and (C := Tryd.checked) (X := fun w _ => laidMetH Tryd.prog Rows.fnJointsRow.laid w) (fun _ _ _ hh h => h.of_heap hh) own started (by kernel_rfl) Tryd.func3
    (ChangeSpec.witness_shaped (enc := enc) (C := Tryd.checked) (os := os) (X := fun w _ => laidMetH Tryd.prog Rows.fnJointsRow.laid w) false (World.doorLaid Tryd.prog 400 os) #[.slice none 0 0] 8 rfl (World.shaped_of_RefB (by kernel_rfl) (by kernel_rfl)) (by kernel_rfl) (by kernel_rfl) (by kernel_rfl) (door_met os _)) ?_
  intro W base args ds gs before hval0 hW _ _ hL _
  have hval : ∀ (j : Nat) t v, Tryd.f3.params[j]? = some t → args[j]? = some v → Value.okWide Tryd.prog W .any base t v := hval0
  have hW' := hW
  obtain ⟨p, q, hA0, hV, rfl, hfz, hnd⟩ := hW
  have hA : DataW.TrodAll enc Tryd.prog W 0 (fun _ => true) true Tryd.f3.params.toList args.toList ds p := hA0
  rw [Tryd.params3] at hA hval
  obtain ⟨v0, vs0, d0, ds0, p0, q0, hargs, rfl, rfl, h0, r0⟩ := trodAll_cons hA
  obtain ⟨rfl, rfl, rfl⟩ := trodAll_nil r0
  obtain rfl : args = #[v0] := by cases args; simp_all
  obtain ⟨rfl, rfl⟩ := trodVars_none hV
  have k0 := h0
  have lt0 : ∀ x ∈ p0, x.block < W.heap.size := by obtain ⟨m, hm⟩ := k0; exact DataW.trod_lt m _ _ _ hm
  obtain ⟨a0, len0, cap0, rfl⟩ := okWide_slice Tryd.underlying22 (hval 0 22 v0 rfl rfl)
  obtain ⟨z0, g0⟩ : ∃ zs, IsRow .u8 W a0 len0 cap0 zs := by
    obtain ⟨fuel, hf⟩ := h0
    rcases open_ints Tryd.underlying22 Tryd.underlying5 (by kernel_rfl) hf with ⟨hcs, _⟩ | ⟨x, l, c, zs, hcs, _, hl, hm, hz, _, hcell, hwz⟩
    · simp [Value.cells] at hcs
      obtain ⟨rfl, rfl, rfl⟩ := hcs
      exact ⟨[], .inl ⟨rfl, rfl, rfl, rfl⟩⟩
    · simp [Value.cells] at hcs
      obtain ⟨rfl, rfl, rfl⟩ := hcs
      exact ⟨zs, .inr ⟨_, rfl, hl, hm, by simpa using hz, hcell, hwz⟩⟩
  clear hA0 hval0
  have hT := tens_of_laid (by kernel_rfl) hL
  refine (walk a0 len0 cap0 z0 W g0 hT).mono fun e W' ⟨he, bel⟩ => ?_
  subst he
  exact ⟨_, rfl, _, _, _, [], _, [], hW', trodAll_mk1 (shut_bool Tryd.underlying4 _), (trodAll_cons_mk (Below.trod laidOut (by kernel_rfl) (of_decide_eq_true (by kernel_rfl)) k0 bel lt0) trodAll_mk0), rfl, bel.frame _, fun h => by cases h⟩

theorem over : Rows.fnJointsRow.holds Tryd.pinned (OpenSpec.ofChange Rows.fnJointsSpec) :=
  OpenClaim.holds_of_wide 3 Tryd.f3 rfl rfl rfl rfl rfl rfl rfl ⟨rfl, rfl, rfl, rfl, rfl⟩ rfl rfl rfl rfl rfl (by kernel_rfl) Tryd.func3 (by kernel_rfl)
    (of_decide_eq_true (by kernel_rfl)) (by unfold Func.isWrapper; first | (rw [if_pos (by decide +kernel)]; kernel_rfl) | (rw [if_neg (by decide +kernel)]; exact ⟨rfl, rfl⟩))
    (fun os started H enc _ => lifted os started H enc)

/-- THE STATEMENT: the card, tied to the program's text. -/
theorem proved : Rows.FnJointsCardSaid :=
  Claim7.holds_tied_plain_at .later [] [.data, .data, .data] true (true, "253773167f561af482ae0022ebcab6cc2c934458e2e7ca756f5bdd39a78e8c6b") false
    over (fun _ h => by cases h) (by kernel_rfl) (fun _ h => by cases h) fnJoints_row_tie rfl ⟨rfl, rfl⟩ (by kernel_rfl) rfl
    (fun f fn hf hfn => by
      obtain rfl : f = 3 := Option.some.inj ((show Tryd.prog.funcNamed Rows.fnJointsRow.func = some 3 by kernel_rfl).symm.trans hf) |>.symm
      obtain rfl : fn = Tryd.f3 := (Option.some.inj (Tryd.func3.symm.trans hfn)).symm
      exact ⟨by kernel_rfl, fun j t ht => by
        rw [Tryd.params3] at ht
        have hm : t ∈ [22] := by simpa using Array.mem_of_getElem? ht
        have hall : ([22].all fun u => !Tryd.prog.wantsStandIn u) = true := by kernel_rfl
        exact (show Tryd.prog.wantsStandIn t = false by simpa using List.all_eq_true.1 hall t hm)⟩)
    (by kernel_rfl)
#print axioms proved
end Go.Proofs.YtioeemmdpfddaaaDoor.fnJoints
