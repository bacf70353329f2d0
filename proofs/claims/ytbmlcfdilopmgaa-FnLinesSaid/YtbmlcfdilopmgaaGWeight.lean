/- The contracts of the program's weights: overSides with each of its closures; AreaTwice, WeightOf, MomentOf, HeightMoment, IsLeftOf; The contracts of the model's weights: AreaTwice, WeightOf, MomentOf, HeightMoment, IsLeftOf. -/
import Derived.Test.YtbmlcfdilopmgaaGPlain
import Derived.Test.YtbmlcfdilopmgaaGStone
import Derived.Deep.Cut
import Derived.Deep.CutRange

/- The contracts of the program's weights: overSides with each of its closures; AreaTwice, WeightOf, MomentOf, HeightMoment, IsLeftOf. -/
namespace Go.Proofs.Ytbmlcfdilopmgaa
set_option maxRecDepth 100000
open Go.ChangeShapes Go.WideShapes Go.ChangeAt Go.RowKit

theorem cdaW (w : World) (n : Nat) (o : Obj) (a : Addr) : ((w.drewN n).alloc o).cell? a = (w.alloc o).cell? a := rfl
theorem fdaW (w : World) (n : Nat) (o : Obj) (a : Addr) : ((w.drewN n).alloc o).frozen? a = (w.alloc o).frozen? a := rfl
theorem cdaW2 (w : World) (n : Nat) (o o' : Obj) (a : Addr) : (((w.drewN n).alloc o).alloc o').cell? a = ((w.alloc o).alloc o').cell? a := rfl
theorem fdaW2 (w : World) (n : Nat) (o o' : Obj) (a : Addr) : (((w.drewN n).alloc o).alloc o').frozen? a = ((w.alloc o).alloc o').frozen? a := rfl
theorem below_alW {a w : World} (h : Below a.heap.size a w) (o : Obj) : Below a.heap.size a (w.alloc o) := h.alloc h.size o

theorem fieldX (w : World) (x y : Int) : (Instr.field 100 (.agg #[.int .i64 x, .int .i64 y]) 0).run Try.prog w = .ok (.int .i64 x) w := rfl
theorem fieldY (w : World) (x y : Int) : (Instr.field 100 (.agg #[.int .i64 x, .int .i64 y]) 1).run Try.prog w = .ok (.int .i64 y) w := rfl

/-- The terms of a sum over the sides, and what overSides answers. -/
def overC (F : Int × Int → Int × Int → Int) (cs : List (Int × Int)) (i : Nat) : Int := F (cn cs i) (cn cs (i + 1)) * crs (cn cs i) (cn cs (i + 1))
def overV (F : Int × Int → Int × Int → Int) (cs : List (Int × Int)) : Int := if stoneV cs then sumTo (overC F cs) cs.length else 0

theorem cloA (w : World) (a b c d : Int) :
    Calls Try.prog 121 #[.agg #[.int .i64 a, .int .i64 b], .agg #[.int .i64 c, .int .i64 d]] w fun e w' => e = .returned (.int .i64 1) ∧ Below w.heap.size w w' := by
  go_enter Try.func121, Try.ntmps121
  go_wp2_with fail
  go_ret
  exact ⟨rfl, by repeat (first | exact Below.refl _ _ | refine Below.alloc ?_ (by simp <;> omega) _ | refine Below.setCell ?_ (by simp <;> omega) _)⟩

theorem cloM (w : World) (x y u v : Int) (hx : -60 ≤ x ∧ x ≤ 60) (hy : -60 ≤ y ∧ y ≤ 60) (hu : -60 ≤ u ∧ u ≤ 60) (hv : -60 ≤ v ∧ v ≤ 60) :
    Calls Try.prog 118 #[.agg #[.int .i64 x, .int .i64 y], .agg #[.int .i64 u, .int .i64 v]] w fun e w' => e = .returned (.int .i64 (x + u)) ∧ Below w.heap.size w w' := by
  go_enter Try.func118, Try.ntmps118
  go_wp2_with fail
  refine (plus _ _ _ _ _ hx hy hu hv).mono ?_
  rintro e w1 ⟨rfl, hb1⟩
  have hfx := fun w => fieldX w (x + u) (y + v)
  go_wp2_with fail
  go_ret
  exact ⟨rfl, ((Below.refl _ _).alloc (by simp <;> omega) _ |>.alloc (by simp <;> omega) _).trans (hb1.mono (by simp <;> omega))⟩


set_option maxHeartbeats 8000000 in
set_option maxRecDepth 100000 in
theorem overSides (w : World) (B : Nat) (v : Value) (cs : List (Int × Int)) (fk : Nat) (F : Int × Int → Int × Int → Int) (hr : Row w B v cs)
    (he : ∀ args w, (callFunc fk args).run Try.prog w = .ok (.enter fk args) w)
    (hf : stoneV cs = true → ∀ (i : Nat) (w' : World), Calls Try.prog fk #[.agg #[.int .i64 (cn cs i).1, .int .i64 (cn cs i).2], .agg #[.int .i64 (cn cs (i + 1)).1, .int .i64 (cn cs (i + 1)).2]] w' fun e w'' => e = .returned (.int .i64 (F (cn cs i) (cn cs (i + 1)))) ∧ Below w'.heap.size w' w'')
    (hbd : stoneV cs = true → ∀ i, -864000 ≤ overC F cs i ∧ overC F cs i ≤ 864000) :
    Calls Try.prog 117 #[.agg #[v], .func (.func fk) #[] #[]] w fun e w' => e = .returned (.int .i64 (overV F cs)) ∧ Below w.heap.size w w' := by
  have HR := Lib.hid hr
  obtain ⟨a, cap, hv, hm⟩ := row_sliceS hr
  generalize hN : cs.length = n at hv hm
  subst hv
  have HFF := Lib.hid hf
  have HBD := Lib.hid hbd
  clear hr hf hbd
  have hb0 := ((Below.refl w.heap.size w).alloc (Nat.le_refl _) (.cells #[.slice a n cap] 129))
  have HB0 := Lib.hid hb0
  have HN := Lib.hid hN
  clear hb0 hN
  cases hs : stoneV cs
  · go_enter Try.func117, Try.ntmps117
    go_wp2_with fail
    refine (implStoneOk _ B _ cs (HR.out.below HB0.out)).mono ?_
    rintro e w1 ⟨rfl, hb1⟩
    rw [hs]
    go_wp2_with fail
    go_ret
    exact ⟨ret_i64 (by unfold overV; rw [hs]; rfl), HB0.out.trans (hb1.mono (by simp <;> omega))⟩
  · go_enter Try.func117, Try.ntmps117
    go_wp2_with fail
    refine (implStoneOk _ B _ cs (HR.out.below HB0.out)).mono ?_
    rintro e w1 ⟨rfl, hb1⟩
    rw [hs]
    have s1 : w1.cell? ⟨w.heap.size, 0, none⟩ = some (.slice a n cap) := (hb1.cell (p := ⟨w.heap.size, 0, none⟩) (by simp)).trans (by go_simp)
    have hb01 := HB0.out.trans (hb1.mono (by simp <;> omega))
    have HB1 := Lib.hid hb01
    obtain ⟨g3, g6⟩ := stone_size hs
    rcases (HR.out.cases) with ⟨hz, hcn⟩ | ⟨g, cap', hg, r, -, hgw, hcap, hcm⟩
    · rw [hcn] at g3; simp at g3
    simp only [Value.slice.injEq] at hg
    obtain ⟨rfl, -, rfl⟩ := hg
    rw [HN.out] at g3 g6 hcap
    unfold maxLen at hcm
    have HR1 := Lib.hid r
    have HS := Lib.hid hs
    have S1 := Lib.hid s1
    clear hs hb01 hb1 r
    go_wp2_with fail
    go_loopw [5, 15] (fun m t wr => ∃ k : Nat, k ≤ n ∧ t = .int .i64 k ∧ m = .int .i64 (sumTo (overC F cs) k) ∧ Below w.heap.size w wr ∧ wr.cell? ⟨w.heap.size, 0, none⟩ = some (.slice (some ⟨g, 0, none⟩) n cap))
      (fun _ t _ => n - (intOf t).toNat)
    case atStart => exact ⟨0, Nat.zero_le _, rfl, rfl, HB1.out, S1.out⟩
    case round =>
      clear HB1 S1 s1
      obtain ⟨k, hk, rfl, rfl, hbw, hsw⟩ := hrel
      have HB := Lib.hid hbw
      have hlN := HN.out
      by_cases hlt : k < n
      · have hbs := cell_block_lt hsw
        have hgl : g < wr.heap.size := by have := hbw.size; omega
        have hC : ∀ (i : Nat) (z : Int) (w' : World), z = i → i ≤ 20 → Below wr.heap.size wr w' → Calls Try.prog 122 #[.agg #[.slice (some ⟨g, 0, none⟩) n cap], .int .i64 z] w'
            fun e w'' => e = .returned (.agg #[.int .i64 (cn cs i).1, .int .i64 (cn cs i).2]) ∧ ∀ u : World, Below u.heap.size u w' → Below u.heap.size u w'' := fun i z w' hz hi h =>
          (cornerAt w' B g cap n cs i z (HR1.out.below (HB.out.trans (h.mono HB.out.size))) HN.out (by omega) g6 hi hz).mono fun e w'' ⟨he, hb⟩ => ⟨he, fun u hu => hu.trans (hb.mono hu.size)⟩
        have hA := hC k k
        have hw1 : IntKind.i64.wrap ((k : Int) + 1) = (k : Int) + 1 := IntWalk.i64_in _ (by omega)
        obtain ⟨z, hz⟩ : ∃ z, IntKind.i64.wrap ((k : Int) + 1) = z := ⟨_, rfl⟩
        have hzk : z = ((k + 1 : Nat) : Int) := by rw [← hz, hw1]; omega
        have hB := hC (k + 1) z
        clear hw1
        have oa := cn_ok HS.out k
        have ob := cn_ok HS.out (k + 1)
        have hX := crs_bd oa ob
        have hT : overC F cs k = F (cn cs k) (cn cs (k + 1)) * crs (cn cs k) (cn cs (k + 1)) := rfl
        have hS := sumTo_bd (overC F cs) 864000 k (fun i _ => HBD.out HS.out i)
        have hTb := HBD.out HS.out k
        rw [okP_iff] at oa ob
        have hcr := fun w => cross (cn cs k).1 (cn cs k).2 (cn cs (k + 1)).1 (cn cs (k + 1)).2 w (by have := mul_bd (x := (cn cs k).1) (y := (cn cs (k + 1)).2) 60 60 ⟨by omega, by omega⟩ ⟨by omega, by omega⟩; omega) (by have := mul_bd (x := (cn cs k).2) (y := (cn cs (k + 1)).1) 60 60 ⟨by omega, by omega⟩ ⟨by omega, by omega⟩; omega)
        have hF := HFF.out HS.out k
        have hcs : (cn cs k).1 * (cn cs (k + 1)).2 - (cn cs k).2 * (cn cs (k + 1)).1 = crs (cn cs k) (cn cs (k + 1)) := rfl
        rw [hcs] at hcr
        have hnx : sumTo (overC F cs) (k + 1) = sumTo (overC F cs) k + overC F cs k := rfl
        clear hcs
        generalize sumTo (overC F cs) k = S at *
        generalize overC F cs k = T at *
        generalize crs (cn cs k) (cn cs (k + 1)) = X at *
        generalize F (cn cs k) (cn cs (k + 1)) = V at *
        generalize (cn cs k).1 = ax at *
        generalize (cn cs k).2 = ay at *
        generalize (cn cs (k + 1)).1 = bx at *
        generalize (cn cs (k + 1)).2 = by_ at *
        subst hT
        have HX := Lib.hid hnx
        have hSb : -6000000 ≤ S ∧ S ≤ 6000000 := by have : (k : Int) ≤ 6 := by omega
                                                    have : 864000 * (k : Int) ≤ 864000 * 6 := by omega
                                                    omega
        have HCA := Lib.hid fun w' => hA w' rfl (by omega)
        have HCB := Lib.hid fun w' => hB w' hzk (by omega)
        have HCR := Lib.hid hcr
        have HF := Lib.hid hF
        have HSW := Lib.hid hsw
        have s1 := hsw
        clear hC hA hB hzk hcr hF hnx oa ob hbw hlN hS hsw
        rename World => w1
        have N1 := Nat.ne_of_lt hbs
        have N2 := Nat.ne_of_lt (Nat.lt_succ_of_lt hbs)
        have N3 := Ne.symm N1
        have N4 := Ne.symm N2
        go_upto_region 7 with fail
        go_cut [7, 8] from 18 to 25 (fun p q wx => ∃ b4 b5 : Nat, p = .pointer (some ⟨b4, 0, none⟩) ∧ q = .pointer (some ⟨b5, 0, none⟩) ∧ w1.heap.size ≤ b4 ∧ w1.heap.size ≤ b5 ∧ b4 ≠ b5 ∧ Below w1.heap.size w1 wx ∧
          (wx.cell? ⟨b4, 0, none⟩ = some (.int .i64 ax) ∧ wx.cell? ⟨b4, 1, none⟩ = some (.int .i64 ay)) ∧
          (wx.cell? ⟨b5, 0, none⟩ = some (.int .i64 bx) ∧ wx.cell? ⟨b5, 1, none⟩ = some (.int .i64 by_)))
        case first =>
          clear he HFF HBD HN HR HB0 HR1 HS HB hTb hX hSb HX HCR HF HSW hcap hcm hk hlt g3 g6 hm hgw hgl
          go_region_held3 (fun w' => w'.cell? ⟨w.heap.size, 0, none⟩ = some (.slice (some ⟨g, 0, none⟩) n cap))
            (first | go_keep | trivial)
            (first
              | (go_at_call_of 122 (Value.int .i64 z)
                 first
                 | (refine (HCB.out (w1.drewN 1) (below_drewN (Below.refl _ _) _)).mono ?_
                    rintro e w2 ⟨rfl, H2⟩
                    have HB2 := H2 w1 (below_drewN (Below.refl _ _) _)
                    have s2 : w2.cell? ⟨w.heap.size, 0, none⟩ = some (.slice (some ⟨g, 0, none⟩) n cap) := cell_kept s1 HB2
                    have L2 := cell_block_lt s2
                    have M2 := Nat.ne_of_lt L2
                    have K2 := Nat.ne_of_lt (Nat.lt_succ_of_lt L2)
                    have M2' := Ne.symm M2
                    have K2' := Ne.symm K2
                    have lw := HB2.size)
                 | (refine (HCB.out ((w1.drewN 1).alloc (.cells #[.int .i64 0, .int .i64 0] 100)) (below_alW (below_drewN (Below.refl _ _) _) _)).mono ?_
                    rintro e w2 ⟨rfl, H2⟩
                    have HB2 := H2 w1 (below_alW (below_drewN (Below.refl _ _) _) _)
                    have s2 : w2.cell? ⟨w.heap.size, 0, none⟩ = some (.slice (some ⟨g, 0, none⟩) n cap) := cell_kept s1 HB2
                    have L2 := cell_block_lt s2
                    have M2 := Nat.ne_of_lt L2
                    have K2 := Nat.ne_of_lt (Nat.lt_succ_of_lt L2)
                    have M2' := Ne.symm M2
                    have K2' := Ne.symm K2
                    have lw := HB2.size
                    have a0 : w2.cell? ⟨w1.heap.size, 0, none⟩ = some (.int .i64 0) := cell_kept (w := ((w1.drewN 1).alloc (.cells #[.int .i64 0, .int .i64 0] 100))) (by rw [cdaW]; go_simp) (H2 _ (Below.refl _ _))
                    have af0 : w2.frozen? ⟨w1.heap.size, 0, none⟩ = false := (Below.frozen (H2 _ (Below.refl _ _)) (p := ⟨w1.heap.size, 0, none⟩) (by simp <;> omega)).trans (by rw [fdaW]; go_simp)
                    have a1 : w2.cell? ⟨w1.heap.size, 1, none⟩ = some (.int .i64 0) := cell_kept (w := ((w1.drewN 1).alloc (.cells #[.int .i64 0, .int .i64 0] 100))) (by rw [cdaW]; go_simp) (H2 _ (Below.refl _ _))
                    have af1 : w2.frozen? ⟨w1.heap.size, 1, none⟩ = false := (Below.frozen (H2 _ (Below.refl _ _)) (p := ⟨w1.heap.size, 1, none⟩) (by simp <;> omega)).trans (by rw [fdaW]; go_simp)
                    have al := cell_block_lt a0
                    have an := Nat.ne_of_lt al
                    have am := Nat.ne_of_gt al)
                 | (refine (HCB.out (((w1.drewN 1).alloc (.cells #[.int .i64 0, .int .i64 0] 100)).alloc (.cells #[.int .i64 0, .int .i64 0] 100)) (below_alW (below_alW (below_drewN (Below.refl _ _) _) _) _)).mono ?_
                    rintro e w2 ⟨rfl, H2⟩
                    have HB2 := H2 w1 (below_alW (below_alW (below_drewN (Below.refl _ _) _) _) _)
                    have s2 : w2.cell? ⟨w.heap.size, 0, none⟩ = some (.slice (some ⟨g, 0, none⟩) n cap) := cell_kept s1 HB2
                    have L2 := cell_block_lt s2
                    have M2 := Nat.ne_of_lt L2
                    have K2 := Nat.ne_of_lt (Nat.lt_succ_of_lt L2)
                    have M2' := Ne.symm M2
                    have K2' := Ne.symm K2
                    have lw := HB2.size
                    have a0 : w2.cell? ⟨w1.heap.size, 0, none⟩ = some (.int .i64 0) := cell_kept (w := (((w1.drewN 1).alloc (.cells #[.int .i64 0, .int .i64 0] 100)).alloc (.cells #[.int .i64 0, .int .i64 0] 100))) (by rw [cdaW2]; go_simp) (H2 _ (Below.refl _ _))
                    have af0 : w2.frozen? ⟨w1.heap.size, 0, none⟩ = false := (Below.frozen (H2 _ (Below.refl _ _)) (p := ⟨w1.heap.size, 0, none⟩) (by simp <;> omega)).trans (by rw [fdaW2]; go_simp)
                    have a1 : w2.cell? ⟨w1.heap.size, 1, none⟩ = some (.int .i64 0) := cell_kept (w := (((w1.drewN 1).alloc (.cells #[.int .i64 0, .int .i64 0] 100)).alloc (.cells #[.int .i64 0, .int .i64 0] 100))) (by rw [cdaW2]; go_simp) (H2 _ (Below.refl _ _))
                    have af1 : w2.frozen? ⟨w1.heap.size, 1, none⟩ = false := (Below.frozen (H2 _ (Below.refl _ _)) (p := ⟨w1.heap.size, 1, none⟩) (by simp <;> omega)).trans (by rw [fdaW2]; go_simp)
                    have al := cell_block_lt a0
                    have an := Nat.ne_of_lt al
                    have am := Nat.ne_of_gt al
                    have b0 : w2.cell? ⟨w1.heap.size + 1, 0, none⟩ = some (.int .i64 0) := cell_kept (w := (((w1.drewN 1).alloc (.cells #[.int .i64 0, .int .i64 0] 100)).alloc (.cells #[.int .i64 0, .int .i64 0] 100))) (by rw [cdaW2]; go_simp) (H2 _ (Below.refl _ _))
                    have bf0 : w2.frozen? ⟨w1.heap.size + 1, 0, none⟩ = false := (Below.frozen (H2 _ (Below.refl _ _)) (p := ⟨w1.heap.size + 1, 0, none⟩) (by simp <;> omega)).trans (by rw [fdaW2]; go_simp)
                    have b1 : w2.cell? ⟨w1.heap.size + 1, 1, none⟩ = some (.int .i64 0) := cell_kept (w := (((w1.drewN 1).alloc (.cells #[.int .i64 0, .int .i64 0] 100)).alloc (.cells #[.int .i64 0, .int .i64 0] 100))) (by rw [cdaW2]; go_simp) (H2 _ (Below.refl _ _))
                    have bf1 : w2.frozen? ⟨w1.heap.size + 1, 1, none⟩ = false := (Below.frozen (H2 _ (Below.refl _ _)) (p := ⟨w1.heap.size + 1, 1, none⟩) (by simp <;> omega)).trans (by rw [fdaW2]; go_simp)
                    have bl := cell_block_lt b0
                    have bn := Nat.ne_of_lt bl
                    have bm := Nat.ne_of_gt bl)
                 | (refine (HCB.out ((w2.alloc (.cells #[.int .i64 0, .int .i64 0] 100)).alloc (.cells #[.int .i64 0, .int .i64 0] 100)) (below_alW (below_alW (HB2) _) _)).mono ?_
                    rintro e w3 ⟨rfl, H3⟩
                    have HB3 := H3 w1 (below_alW (below_alW (HB2) _) _)
                    have s3 : w3.cell? ⟨w.heap.size, 0, none⟩ = some (.slice (some ⟨g, 0, none⟩) n cap) := cell_kept s1 HB3
                    have L3 := cell_block_lt s3
                    have M3 := Nat.ne_of_lt L3
                    have K3 := Nat.ne_of_lt (Nat.lt_succ_of_lt L3)
                    have M3' := Ne.symm M3
                    have K3' := Ne.symm K3
                    have p0 : w3.cell? ⟨w2.heap.size, 0, none⟩ = some (.int .i64 0) := cell_kept (w := ((w2.alloc (.cells #[.int .i64 0, .int .i64 0] 100)).alloc (.cells #[.int .i64 0, .int .i64 0] 100))) (by go_simp) (H3 _ (Below.refl _ _))
                    have pf0 : w3.frozen? ⟨w2.heap.size, 0, none⟩ = false := (Below.frozen (H3 _ (Below.refl _ _)) (p := ⟨w2.heap.size, 0, none⟩) (by simp <;> omega)).trans (by go_simp)
                    have p1 : w3.cell? ⟨w2.heap.size, 1, none⟩ = some (.int .i64 0) := cell_kept (w := ((w2.alloc (.cells #[.int .i64 0, .int .i64 0] 100)).alloc (.cells #[.int .i64 0, .int .i64 0] 100))) (by go_simp) (H3 _ (Below.refl _ _))
                    have pf1 : w3.frozen? ⟨w2.heap.size, 1, none⟩ = false := (Below.frozen (H3 _ (Below.refl _ _)) (p := ⟨w2.heap.size, 1, none⟩) (by simp <;> omega)).trans (by go_simp)
                    have pl := cell_block_lt p0
                    have pn := Nat.ne_of_lt pl
                    have pm := Nat.ne_of_gt pl
                    have q0 : w3.cell? ⟨w2.heap.size + 1, 0, none⟩ = some (.int .i64 0) := cell_kept (w := ((w2.alloc (.cells #[.int .i64 0, .int .i64 0] 100)).alloc (.cells #[.int .i64 0, .int .i64 0] 100))) (by go_simp) (H3 _ (Below.refl _ _))
                    have qf0 : w3.frozen? ⟨w2.heap.size + 1, 0, none⟩ = false := (Below.frozen (H3 _ (Below.refl _ _)) (p := ⟨w2.heap.size + 1, 0, none⟩) (by simp <;> omega)).trans (by go_simp)
                    have q1 : w3.cell? ⟨w2.heap.size + 1, 1, none⟩ = some (.int .i64 0) := cell_kept (w := ((w2.alloc (.cells #[.int .i64 0, .int .i64 0] 100)).alloc (.cells #[.int .i64 0, .int .i64 0] 100))) (by go_simp) (H3 _ (Below.refl _ _))
                    have qf1 : w3.frozen? ⟨w2.heap.size + 1, 1, none⟩ = false := (Below.frozen (H3 _ (Below.refl _ _)) (p := ⟨w2.heap.size + 1, 1, none⟩) (by simp <;> omega)).trans (by go_simp)
                    have ql := cell_block_lt q0
                    have qn := Nat.ne_of_lt ql
                    have qm := Nat.ne_of_gt ql)
                 | (refine (HCB.out (w2.alloc (.cells #[.int .i64 0, .int .i64 0] 100)) (below_alW (HB2) _)).mono ?_
                    rintro e w3 ⟨rfl, H3⟩
                    have HB3 := H3 w1 (below_alW (HB2) _)
                    have s3 : w3.cell? ⟨w.heap.size, 0, none⟩ = some (.slice (some ⟨g, 0, none⟩) n cap) := cell_kept s1 HB3
                    have L3 := cell_block_lt s3
                    have M3 := Nat.ne_of_lt L3
                    have K3 := Nat.ne_of_lt (Nat.lt_succ_of_lt L3)
                    have M3' := Ne.symm M3
                    have K3' := Ne.symm K3
                    have c0 : w3.cell? ⟨w1.heap.size, 0, none⟩ = some (.int .i64 0) := cell_kept a0 (H3 w2 (below_alW (Below.refl _ _) _))
                    have cf0 : w3.frozen? ⟨w1.heap.size, 0, none⟩ = false := (Below.frozen (H3 w2 (below_alW (Below.refl _ _) _)) (p := ⟨w1.heap.size, 0, none⟩) (cell_block_lt a0)).trans af0
                    have c1 : w3.cell? ⟨w1.heap.size, 1, none⟩ = some (.int .i64 0) := cell_kept a1 (H3 w2 (below_alW (Below.refl _ _) _))
                    have cf1 : w3.frozen? ⟨w1.heap.size, 1, none⟩ = false := (Below.frozen (H3 w2 (below_alW (Below.refl _ _) _)) (p := ⟨w1.heap.size, 1, none⟩) (cell_block_lt a1)).trans af1
                    have cl := cell_block_lt c0
                    have cn := Nat.ne_of_lt cl
                    have cm := Nat.ne_of_gt cl
                    have p0 : w3.cell? ⟨w2.heap.size, 0, none⟩ = some (.int .i64 0) := cell_kept (w := (w2.alloc (.cells #[.int .i64 0, .int .i64 0] 100))) (by go_simp) (H3 _ (Below.refl _ _))
                    have pf0 : w3.frozen? ⟨w2.heap.size, 0, none⟩ = false := (Below.frozen (H3 _ (Below.refl _ _)) (p := ⟨w2.heap.size, 0, none⟩) (by simp <;> omega)).trans (by go_simp)
                    have p1 : w3.cell? ⟨w2.heap.size, 1, none⟩ = some (.int .i64 0) := cell_kept (w := (w2.alloc (.cells #[.int .i64 0, .int .i64 0] 100))) (by go_simp) (H3 _ (Below.refl _ _))
                    have pf1 : w3.frozen? ⟨w2.heap.size, 1, none⟩ = false := (Below.frozen (H3 _ (Below.refl _ _)) (p := ⟨w2.heap.size, 1, none⟩) (by simp <;> omega)).trans (by go_simp)
                    have pl := cell_block_lt p0
                    have pn := Nat.ne_of_lt pl
                    have pm := Nat.ne_of_gt pl)
                 | (refine (HCB.out (w2.alloc (.cells #[.int .i64 0, .int .i64 0] 100)) (below_alW (HB2) _)).mono ?_
                    rintro e w3 ⟨rfl, H3⟩
                    have HB3 := H3 w1 (below_alW (HB2) _)
                    have s3 : w3.cell? ⟨w.heap.size, 0, none⟩ = some (.slice (some ⟨g, 0, none⟩) n cap) := cell_kept s1 HB3
                    have L3 := cell_block_lt s3
                    have M3 := Nat.ne_of_lt L3
                    have K3 := Nat.ne_of_lt (Nat.lt_succ_of_lt L3)
                    have M3' := Ne.symm M3
                    have K3' := Ne.symm K3
                    have p0 : w3.cell? ⟨w2.heap.size, 0, none⟩ = some (.int .i64 0) := cell_kept (w := (w2.alloc (.cells #[.int .i64 0, .int .i64 0] 100))) (by go_simp) (H3 _ (Below.refl _ _))
                    have pf0 : w3.frozen? ⟨w2.heap.size, 0, none⟩ = false := (Below.frozen (H3 _ (Below.refl _ _)) (p := ⟨w2.heap.size, 0, none⟩) (by simp <;> omega)).trans (by go_simp)
                    have p1 : w3.cell? ⟨w2.heap.size, 1, none⟩ = some (.int .i64 0) := cell_kept (w := (w2.alloc (.cells #[.int .i64 0, .int .i64 0] 100))) (by go_simp) (H3 _ (Below.refl _ _))
                    have pf1 : w3.frozen? ⟨w2.heap.size, 1, none⟩ = false := (Below.frozen (H3 _ (Below.refl _ _)) (p := ⟨w2.heap.size, 1, none⟩) (by simp <;> omega)).trans (by go_simp)
                    have pl := cell_block_lt p0
                    have pn := Nat.ne_of_lt pl
                    have pm := Nat.ne_of_gt pl)
                 | (refine (HCB.out w2 (HB2)).mono ?_
                    rintro e w3 ⟨rfl, H3⟩
                    have HB3 := H3 w1 (HB2)
                    have s3 : w3.cell? ⟨w.heap.size, 0, none⟩ = some (.slice (some ⟨g, 0, none⟩) n cap) := cell_kept s1 HB3
                    have L3 := cell_block_lt s3
                    have M3 := Nat.ne_of_lt L3
                    have K3 := Nat.ne_of_lt (Nat.lt_succ_of_lt L3)
                    have M3' := Ne.symm M3
                    have K3' := Ne.symm K3
                    have c0 : w3.cell? ⟨w1.heap.size, 0, none⟩ = some (.int .i64 0) := cell_kept a0 (H3 w2 (Below.refl _ _))
                    have cf0 : w3.frozen? ⟨w1.heap.size, 0, none⟩ = false := (Below.frozen (H3 w2 (Below.refl _ _)) (p := ⟨w1.heap.size, 0, none⟩) (cell_block_lt a0)).trans af0
                    have c1 : w3.cell? ⟨w1.heap.size, 1, none⟩ = some (.int .i64 0) := cell_kept a1 (H3 w2 (Below.refl _ _))
                    have cf1 : w3.frozen? ⟨w1.heap.size, 1, none⟩ = false := (Below.frozen (H3 w2 (Below.refl _ _)) (p := ⟨w1.heap.size, 1, none⟩) (cell_block_lt a1)).trans af1
                    have cl := cell_block_lt c0
                    have cn := Nat.ne_of_lt cl
                    have cm := Nat.ne_of_gt cl
                    have d0 : w3.cell? ⟨w1.heap.size + 1, 0, none⟩ = some (.int .i64 0) := cell_kept b0 (H3 w2 (Below.refl _ _))
                    have df0 : w3.frozen? ⟨w1.heap.size + 1, 0, none⟩ = false := (Below.frozen (H3 w2 (Below.refl _ _)) (p := ⟨w1.heap.size + 1, 0, none⟩) (cell_block_lt b0)).trans bf0
                    have d1 : w3.cell? ⟨w1.heap.size + 1, 1, none⟩ = some (.int .i64 0) := cell_kept b1 (H3 w2 (Below.refl _ _))
                    have df1 : w3.frozen? ⟨w1.heap.size + 1, 1, none⟩ = false := (Below.frozen (H3 w2 (Below.refl _ _)) (p := ⟨w1.heap.size + 1, 1, none⟩) (cell_block_lt b1)).trans bf1
                    have dl := cell_block_lt d0
                    have dn := Nat.ne_of_lt dl
                    have dm := Nat.ne_of_gt dl)
                 | (refine (HCB.out w2 (HB2)).mono ?_
                    rintro e w3 ⟨rfl, H3⟩
                    have HB3 := H3 w1 (HB2)
                    have s3 : w3.cell? ⟨w.heap.size, 0, none⟩ = some (.slice (some ⟨g, 0, none⟩) n cap) := cell_kept s1 HB3
                    have L3 := cell_block_lt s3
                    have M3 := Nat.ne_of_lt L3
                    have K3 := Nat.ne_of_lt (Nat.lt_succ_of_lt L3)
                    have M3' := Ne.symm M3
                    have K3' := Ne.symm K3
                    have c0 : w3.cell? ⟨w1.heap.size, 0, none⟩ = some (.int .i64 0) := cell_kept a0 (H3 w2 (Below.refl _ _))
                    have cf0 : w3.frozen? ⟨w1.heap.size, 0, none⟩ = false := (Below.frozen (H3 w2 (Below.refl _ _)) (p := ⟨w1.heap.size, 0, none⟩) (cell_block_lt a0)).trans af0
                    have c1 : w3.cell? ⟨w1.heap.size, 1, none⟩ = some (.int .i64 0) := cell_kept a1 (H3 w2 (Below.refl _ _))
                    have cf1 : w3.frozen? ⟨w1.heap.size, 1, none⟩ = false := (Below.frozen (H3 w2 (Below.refl _ _)) (p := ⟨w1.heap.size, 1, none⟩) (cell_block_lt a1)).trans af1
                    have cl := cell_block_lt c0
                    have cn := Nat.ne_of_lt cl
                    have cm := Nat.ne_of_gt cl)
                 | (refine (HCB.out w2 (HB2)).mono ?_
                    rintro e w3 ⟨rfl, H3⟩
                    have HB3 := H3 w1 (HB2)
                    have s3 : w3.cell? ⟨w.heap.size, 0, none⟩ = some (.slice (some ⟨g, 0, none⟩) n cap) := cell_kept s1 HB3))
              | (go_at_call_of 122 (Value.int .i64 (k : Int))
                 first
                 | (refine (HCA.out (w1.drewN 1) (below_drewN (Below.refl _ _) _)).mono ?_
                    rintro e w2 ⟨rfl, H2⟩
                    have HB2 := H2 w1 (below_drewN (Below.refl _ _) _)
                    have s2 : w2.cell? ⟨w.heap.size, 0, none⟩ = some (.slice (some ⟨g, 0, none⟩) n cap) := cell_kept s1 HB2
                    have L2 := cell_block_lt s2
                    have M2 := Nat.ne_of_lt L2
                    have K2 := Nat.ne_of_lt (Nat.lt_succ_of_lt L2)
                    have M2' := Ne.symm M2
                    have K2' := Ne.symm K2
                    have lw := HB2.size)
                 | (refine (HCA.out ((w1.drewN 1).alloc (.cells #[.int .i64 0, .int .i64 0] 100)) (below_alW (below_drewN (Below.refl _ _) _) _)).mono ?_
                    rintro e w2 ⟨rfl, H2⟩
                    have HB2 := H2 w1 (below_alW (below_drewN (Below.refl _ _) _) _)
                    have s2 : w2.cell? ⟨w.heap.size, 0, none⟩ = some (.slice (some ⟨g, 0, none⟩) n cap) := cell_kept s1 HB2
                    have L2 := cell_block_lt s2
                    have M2 := Nat.ne_of_lt L2
                    have K2 := Nat.ne_of_lt (Nat.lt_succ_of_lt L2)
                    have M2' := Ne.symm M2
                    have K2' := Ne.symm K2
                    have lw := HB2.size
                    have a0 : w2.cell? ⟨w1.heap.size, 0, none⟩ = some (.int .i64 0) := cell_kept (w := ((w1.drewN 1).alloc (.cells #[.int .i64 0, .int .i64 0] 100))) (by rw [cdaW]; go_simp) (H2 _ (Below.refl _ _))
                    have af0 : w2.frozen? ⟨w1.heap.size, 0, none⟩ = false := (Below.frozen (H2 _ (Below.refl _ _)) (p := ⟨w1.heap.size, 0, none⟩) (by simp <;> omega)).trans (by rw [fdaW]; go_simp)
                    have a1 : w2.cell? ⟨w1.heap.size, 1, none⟩ = some (.int .i64 0) := cell_kept (w := ((w1.drewN 1).alloc (.cells #[.int .i64 0, .int .i64 0] 100))) (by rw [cdaW]; go_simp) (H2 _ (Below.refl _ _))
                    have af1 : w2.frozen? ⟨w1.heap.size, 1, none⟩ = false := (Below.frozen (H2 _ (Below.refl _ _)) (p := ⟨w1.heap.size, 1, none⟩) (by simp <;> omega)).trans (by rw [fdaW]; go_simp)
                    have al := cell_block_lt a0
                    have an := Nat.ne_of_lt al
                    have am := Nat.ne_of_gt al)
                 | (refine (HCA.out (((w1.drewN 1).alloc (.cells #[.int .i64 0, .int .i64 0] 100)).alloc (.cells #[.int .i64 0, .int .i64 0] 100)) (below_alW (below_alW (below_drewN (Below.refl _ _) _) _) _)).mono ?_
                    rintro e w2 ⟨rfl, H2⟩
                    have HB2 := H2 w1 (below_alW (below_alW (below_drewN (Below.refl _ _) _) _) _)
                    have s2 : w2.cell? ⟨w.heap.size, 0, none⟩ = some (.slice (some ⟨g, 0, none⟩) n cap) := cell_kept s1 HB2
                    have L2 := cell_block_lt s2
                    have M2 := Nat.ne_of_lt L2
                    have K2 := Nat.ne_of_lt (Nat.lt_succ_of_lt L2)
                    have M2' := Ne.symm M2
                    have K2' := Ne.symm K2
                    have lw := HB2.size
                    have a0 : w2.cell? ⟨w1.heap.size, 0, none⟩ = some (.int .i64 0) := cell_kept (w := (((w1.drewN 1).alloc (.cells #[.int .i64 0, .int .i64 0] 100)).alloc (.cells #[.int .i64 0, .int .i64 0] 100))) (by rw [cdaW2]; go_simp) (H2 _ (Below.refl _ _))
                    have af0 : w2.frozen? ⟨w1.heap.size, 0, none⟩ = false := (Below.frozen (H2 _ (Below.refl _ _)) (p := ⟨w1.heap.size, 0, none⟩) (by simp <;> omega)).trans (by rw [fdaW2]; go_simp)
                    have a1 : w2.cell? ⟨w1.heap.size, 1, none⟩ = some (.int .i64 0) := cell_kept (w := (((w1.drewN 1).alloc (.cells #[.int .i64 0, .int .i64 0] 100)).alloc (.cells #[.int .i64 0, .int .i64 0] 100))) (by rw [cdaW2]; go_simp) (H2 _ (Below.refl _ _))
                    have af1 : w2.frozen? ⟨w1.heap.size, 1, none⟩ = false := (Below.frozen (H2 _ (Below.refl _ _)) (p := ⟨w1.heap.size, 1, none⟩) (by simp <;> omega)).trans (by rw [fdaW2]; go_simp)
                    have al := cell_block_lt a0
                    have an := Nat.ne_of_lt al
                    have am := Nat.ne_of_gt al
                    have b0 : w2.cell? ⟨w1.heap.size + 1, 0, none⟩ = some (.int .i64 0) := cell_kept (w := (((w1.drewN 1).alloc (.cells #[.int .i64 0, .int .i64 0] 100)).alloc (.cells #[.int .i64 0, .int .i64 0] 100))) (by rw [cdaW2]; go_simp) (H2 _ (Below.refl _ _))
                    have bf0 : w2.frozen? ⟨w1.heap.size + 1, 0, none⟩ = false := (Below.frozen (H2 _ (Below.refl _ _)) (p := ⟨w1.heap.size + 1, 0, none⟩) (by simp <;> omega)).trans (by rw [fdaW2]; go_simp)
                    have b1 : w2.cell? ⟨w1.heap.size + 1, 1, none⟩ = some (.int .i64 0) := cell_kept (w := (((w1.drewN 1).alloc (.cells #[.int .i64 0, .int .i64 0] 100)).alloc (.cells #[.int .i64 0, .int .i64 0] 100))) (by rw [cdaW2]; go_simp) (H2 _ (Below.refl _ _))
                    have bf1 : w2.frozen? ⟨w1.heap.size + 1, 1, none⟩ = false := (Below.frozen (H2 _ (Below.refl _ _)) (p := ⟨w1.heap.size + 1, 1, none⟩) (by simp <;> omega)).trans (by rw [fdaW2]; go_simp)
                    have bl := cell_block_lt b0
                    have bn := Nat.ne_of_lt bl
                    have bm := Nat.ne_of_gt bl)
                 | (refine (HCA.out ((w2.alloc (.cells #[.int .i64 0, .int .i64 0] 100)).alloc (.cells #[.int .i64 0, .int .i64 0] 100)) (below_alW (below_alW (HB2) _) _)).mono ?_
                    rintro e w3 ⟨rfl, H3⟩
                    have HB3 := H3 w1 (below_alW (below_alW (HB2) _) _)
                    have s3 : w3.cell? ⟨w.heap.size, 0, none⟩ = some (.slice (some ⟨g, 0, none⟩) n cap) := cell_kept s1 HB3
                    have L3 := cell_block_lt s3
                    have M3 := Nat.ne_of_lt L3
                    have K3 := Nat.ne_of_lt (Nat.lt_succ_of_lt L3)
                    have M3' := Ne.symm M3
                    have K3' := Ne.symm K3
                    have p0 : w3.cell? ⟨w2.heap.size, 0, none⟩ = some (.int .i64 0) := cell_kept (w := ((w2.alloc (.cells #[.int .i64 0, .int .i64 0] 100)).alloc (.cells #[.int .i64 0, .int .i64 0] 100))) (by go_simp) (H3 _ (Below.refl _ _))
                    have pf0 : w3.frozen? ⟨w2.heap.size, 0, none⟩ = false := (Below.frozen (H3 _ (Below.refl _ _)) (p := ⟨w2.heap.size, 0, none⟩) (by simp <;> omega)).trans (by go_simp)
                    have p1 : w3.cell? ⟨w2.heap.size, 1, none⟩ = some (.int .i64 0) := cell_kept (w := ((w2.alloc (.cells #[.int .i64 0, .int .i64 0] 100)).alloc (.cells #[.int .i64 0, .int .i64 0] 100))) (by go_simp) (H3 _ (Below.refl _ _))
                    have pf1 : w3.frozen? ⟨w2.heap.size, 1, none⟩ = false := (Below.frozen (H3 _ (Below.refl _ _)) (p := ⟨w2.heap.size, 1, none⟩) (by simp <;> omega)).trans (by go_simp)
                    have pl := cell_block_lt p0
                    have pn := Nat.ne_of_lt pl
                    have pm := Nat.ne_of_gt pl
                    have q0 : w3.cell? ⟨w2.heap.size + 1, 0, none⟩ = some (.int .i64 0) := cell_kept (w := ((w2.alloc (.cells #[.int .i64 0, .int .i64 0] 100)).alloc (.cells #[.int .i64 0, .int .i64 0] 100))) (by go_simp) (H3 _ (Below.refl _ _))
                    have qf0 : w3.frozen? ⟨w2.heap.size + 1, 0, none⟩ = false := (Below.frozen (H3 _ (Below.refl _ _)) (p := ⟨w2.heap.size + 1, 0, none⟩) (by simp <;> omega)).trans (by go_simp)
                    have q1 : w3.cell? ⟨w2.heap.size + 1, 1, none⟩ = some (.int .i64 0) := cell_kept (w := ((w2.alloc (.cells #[.int .i64 0, .int .i64 0] 100)).alloc (.cells #[.int .i64 0, .int .i64 0] 100))) (by go_simp) (H3 _ (Below.refl _ _))
                    have qf1 : w3.frozen? ⟨w2.heap.size + 1, 1, none⟩ = false := (Below.frozen (H3 _ (Below.refl _ _)) (p := ⟨w2.heap.size + 1, 1, none⟩) (by simp <;> omega)).trans (by go_simp)
                    have ql := cell_block_lt q0
                    have qn := Nat.ne_of_lt ql
                    have qm := Nat.ne_of_gt ql)
                 | (refine (HCA.out (w2.alloc (.cells #[.int .i64 0, .int .i64 0] 100)) (below_alW (HB2) _)).mono ?_
                    rintro e w3 ⟨rfl, H3⟩
                    have HB3 := H3 w1 (below_alW (HB2) _)
                    have s3 : w3.cell? ⟨w.heap.size, 0, none⟩ = some (.slice (some ⟨g, 0, none⟩) n cap) := cell_kept s1 HB3
                    have L3 := cell_block_lt s3
                    have M3 := Nat.ne_of_lt L3
                    have K3 := Nat.ne_of_lt (Nat.lt_succ_of_lt L3)
                    have M3' := Ne.symm M3
                    have K3' := Ne.symm K3
                    have c0 : w3.cell? ⟨w1.heap.size, 0, none⟩ = some (.int .i64 0) := cell_kept a0 (H3 w2 (below_alW (Below.refl _ _) _))
                    have cf0 : w3.frozen? ⟨w1.heap.size, 0, none⟩ = false := (Below.frozen (H3 w2 (below_alW (Below.refl _ _) _)) (p := ⟨w1.heap.size, 0, none⟩) (cell_block_lt a0)).trans af0
                    have c1 : w3.cell? ⟨w1.heap.size, 1, none⟩ = some (.int .i64 0) := cell_kept a1 (H3 w2 (below_alW (Below.refl _ _) _))
                    have cf1 : w3.frozen? ⟨w1.heap.size, 1, none⟩ = false := (Below.frozen (H3 w2 (below_alW (Below.refl _ _) _)) (p := ⟨w1.heap.size, 1, none⟩) (cell_block_lt a1)).trans af1
                    have cl := cell_block_lt c0
                    have cn := Nat.ne_of_lt cl
                    have cm := Nat.ne_of_gt cl
                    have p0 : w3.cell? ⟨w2.heap.size, 0, none⟩ = some (.int .i64 0) := cell_kept (w := (w2.alloc (.cells #[.int .i64 0, .int .i64 0] 100))) (by go_simp) (H3 _ (Below.refl _ _))
                    have pf0 : w3.frozen? ⟨w2.heap.size, 0, none⟩ = false := (Below.frozen (H3 _ (Below.refl _ _)) (p := ⟨w2.heap.size, 0, none⟩) (by simp <;> omega)).trans (by go_simp)
                    have p1 : w3.cell? ⟨w2.heap.size, 1, none⟩ = some (.int .i64 0) := cell_kept (w := (w2.alloc (.cells #[.int .i64 0, .int .i64 0] 100))) (by go_simp) (H3 _ (Below.refl _ _))
                    have pf1 : w3.frozen? ⟨w2.heap.size, 1, none⟩ = false := (Below.frozen (H3 _ (Below.refl _ _)) (p := ⟨w2.heap.size, 1, none⟩) (by simp <;> omega)).trans (by go_simp)
                    have pl := cell_block_lt p0
                    have pn := Nat.ne_of_lt pl
                    have pm := Nat.ne_of_gt pl)
                 | (refine (HCA.out (w2.alloc (.cells #[.int .i64 0, .int .i64 0] 100)) (below_alW (HB2) _)).mono ?_
                    rintro e w3 ⟨rfl, H3⟩
                    have HB3 := H3 w1 (below_alW (HB2) _)
                    have s3 : w3.cell? ⟨w.heap.size, 0, none⟩ = some (.slice (some ⟨g, 0, none⟩) n cap) := cell_kept s1 HB3
                    have L3 := cell_block_lt s3
                    have M3 := Nat.ne_of_lt L3
                    have K3 := Nat.ne_of_lt (Nat.lt_succ_of_lt L3)
                    have M3' := Ne.symm M3
                    have K3' := Ne.symm K3
                    have p0 : w3.cell? ⟨w2.heap.size, 0, none⟩ = some (.int .i64 0) := cell_kept (w := (w2.alloc (.cells #[.int .i64 0, .int .i64 0] 100))) (by go_simp) (H3 _ (Below.refl _ _))
                    have pf0 : w3.frozen? ⟨w2.heap.size, 0, none⟩ = false := (Below.frozen (H3 _ (Below.refl _ _)) (p := ⟨w2.heap.size, 0, none⟩) (by simp <;> omega)).trans (by go_simp)
                    have p1 : w3.cell? ⟨w2.heap.size, 1, none⟩ = some (.int .i64 0) := cell_kept (w := (w2.alloc (.cells #[.int .i64 0, .int .i64 0] 100))) (by go_simp) (H3 _ (Below.refl _ _))
                    have pf1 : w3.frozen? ⟨w2.heap.size, 1, none⟩ = false := (Below.frozen (H3 _ (Below.refl _ _)) (p := ⟨w2.heap.size, 1, none⟩) (by simp <;> omega)).trans (by go_simp)
                    have pl := cell_block_lt p0
                    have pn := Nat.ne_of_lt pl
                    have pm := Nat.ne_of_gt pl)
                 | (refine (HCA.out w2 (HB2)).mono ?_
                    rintro e w3 ⟨rfl, H3⟩
                    have HB3 := H3 w1 (HB2)
                    have s3 : w3.cell? ⟨w.heap.size, 0, none⟩ = some (.slice (some ⟨g, 0, none⟩) n cap) := cell_kept s1 HB3
                    have L3 := cell_block_lt s3
                    have M3 := Nat.ne_of_lt L3
                    have K3 := Nat.ne_of_lt (Nat.lt_succ_of_lt L3)
                    have M3' := Ne.symm M3
                    have K3' := Ne.symm K3
                    have c0 : w3.cell? ⟨w1.heap.size, 0, none⟩ = some (.int .i64 0) := cell_kept a0 (H3 w2 (Below.refl _ _))
                    have cf0 : w3.frozen? ⟨w1.heap.size, 0, none⟩ = false := (Below.frozen (H3 w2 (Below.refl _ _)) (p := ⟨w1.heap.size, 0, none⟩) (cell_block_lt a0)).trans af0
                    have c1 : w3.cell? ⟨w1.heap.size, 1, none⟩ = some (.int .i64 0) := cell_kept a1 (H3 w2 (Below.refl _ _))
                    have cf1 : w3.frozen? ⟨w1.heap.size, 1, none⟩ = false := (Below.frozen (H3 w2 (Below.refl _ _)) (p := ⟨w1.heap.size, 1, none⟩) (cell_block_lt a1)).trans af1
                    have cl := cell_block_lt c0
                    have cn := Nat.ne_of_lt cl
                    have cm := Nat.ne_of_gt cl
                    have d0 : w3.cell? ⟨w1.heap.size + 1, 0, none⟩ = some (.int .i64 0) := cell_kept b0 (H3 w2 (Below.refl _ _))
                    have df0 : w3.frozen? ⟨w1.heap.size + 1, 0, none⟩ = false := (Below.frozen (H3 w2 (Below.refl _ _)) (p := ⟨w1.heap.size + 1, 0, none⟩) (cell_block_lt b0)).trans bf0
                    have d1 : w3.cell? ⟨w1.heap.size + 1, 1, none⟩ = some (.int .i64 0) := cell_kept b1 (H3 w2 (Below.refl _ _))
                    have df1 : w3.frozen? ⟨w1.heap.size + 1, 1, none⟩ = false := (Below.frozen (H3 w2 (Below.refl _ _)) (p := ⟨w1.heap.size + 1, 1, none⟩) (cell_block_lt b1)).trans bf1
                    have dl := cell_block_lt d0
                    have dn := Nat.ne_of_lt dl
                    have dm := Nat.ne_of_gt dl)
                 | (refine (HCA.out w2 (HB2)).mono ?_
                    rintro e w3 ⟨rfl, H3⟩
                    have HB3 := H3 w1 (HB2)
                    have s3 : w3.cell? ⟨w.heap.size, 0, none⟩ = some (.slice (some ⟨g, 0, none⟩) n cap) := cell_kept s1 HB3
                    have L3 := cell_block_lt s3
                    have M3 := Nat.ne_of_lt L3
                    have K3 := Nat.ne_of_lt (Nat.lt_succ_of_lt L3)
                    have M3' := Ne.symm M3
                    have K3' := Ne.symm K3
                    have c0 : w3.cell? ⟨w1.heap.size, 0, none⟩ = some (.int .i64 0) := cell_kept a0 (H3 w2 (Below.refl _ _))
                    have cf0 : w3.frozen? ⟨w1.heap.size, 0, none⟩ = false := (Below.frozen (H3 w2 (Below.refl _ _)) (p := ⟨w1.heap.size, 0, none⟩) (cell_block_lt a0)).trans af0
                    have c1 : w3.cell? ⟨w1.heap.size, 1, none⟩ = some (.int .i64 0) := cell_kept a1 (H3 w2 (Below.refl _ _))
                    have cf1 : w3.frozen? ⟨w1.heap.size, 1, none⟩ = false := (Below.frozen (H3 w2 (Below.refl _ _)) (p := ⟨w1.heap.size, 1, none⟩) (cell_block_lt a1)).trans af1
                    have cl := cell_block_lt c0
                    have cn := Nat.ne_of_lt cl
                    have cm := Nat.ne_of_gt cl)
                 | (refine (HCA.out w2 (HB2)).mono ?_
                    rintro e w3 ⟨rfl, H3⟩
                    have HB3 := H3 w1 (HB2)
                    have s3 : w3.cell? ⟨w.heap.size, 0, none⟩ = some (.slice (some ⟨g, 0, none⟩) n cap) := cell_kept s1 HB3)))
          all_goals
            have z3 := HB3.size
            have z2 := HB2.size
            go_wp2_with fail
            go_meet
            refine ⟨_, _, rfl, rfl, ?_, ?_, ?_, ?_, ⟨?_, ?_⟩, ?_, ?_⟩
          all_goals first
            | (try dsimp only at *); omega
            | (repeat (first | exact HB3 | refine Below.alloc ?_ (by simp <;> omega) _ | refine Below.setCell ?_ (by simp <;> omega) _)); done
            | exact below_alW (below_alW HB3 _) _
            | go_keep; done
            | go_simp; done
        case rest =>
          obtain ⟨b4, b5, rfl, rfl, h4, h5, hne, hbc, ⟨c40, c41⟩, c50, c51⟩ := hcut
          rename World => wc
          have HBC := Lib.hid (HB.out.trans (hbc.mono HB.out.size))
          have sc := Lib.hid (cell_kept s1 hbc)
          have l4 := cell_block_lt c40
          have l5 := cell_block_lt c50
          clear hz hbc s1 HSW N1 N2 N3 N4 HCA HCB hbs hgl
          have hn1 := Since.nonempty wc
          have sa0 := fun (x : Since wc) => (x.cell b4 0 l4).trans c40
          have sa1 := fun (x : Since wc) => (x.cell b4 1 l4).trans c41
          have sb0 := fun (x : Since wc) => (x.cell b5 0 l5).trans c50
          have sb1 := fun (x : Since wc) => (x.cell b5 1 l5).trans c51
          go_wp2_with fail
          refine wp_region_since (by kernel_rfl) (by kernel_rfl) ?_
          repeat (go_big_quiet_step (first
            | (go_at_call 123; exact Since.call (HCR.out _))
            | exact Since.call (HF.out _)))
          refine wpQuiet_nil ?_
          rintro w3 ⟨⟨w3, hb3⟩, rfl⟩
          have HB3 := Lib.hid (HBC.out.trans (hb3.mono HBC.out.size))
          have C0 := Lib.hid (cell_kept sc.out hb3)
          clear sa0 sa1 sb0 sb1 hb3 c40 c41 c50 c51 l4 l5 h4 h5 hne
          go_wp2_with fail
          go_roundw
          case rel => exact ⟨k + 1, by omega, by go_num, by rw [HX.out], HB3.out, C0.out⟩
          case measure => simp [intOf]; omega
      · have hkn : k = n := by omega
        rw [hkn]
        clear hbw hlN hkn hlt hk
        go_wp2_with fail
        go_ret
        exact ⟨ret_i64 (by unfold overV; rw [HS.out, HN.out]; rfl), HB.out⟩

theorem implAreaTwice (w : World) (B : Nat) (v : Value) (cs : List (Int × Int)) (hr : Row w B v cs) :
    Calls Try.prog 116 #[.agg #[v]] w fun e w' => e = .returned (.int .i64 (areaV cs)) ∧ Below w.heap.size w w' := by
  have he : ∀ args w, (callFunc 121 args).run Try.prog w = .ok (.enter 121 args) w := enters_of Try.func121 (by kernel_rfl) rfl
  have HE := Lib.hid he
  have HR := Lib.hid hr
  obtain ⟨a, cap, hv, -⟩ := row_sliceS hr
  generalize cs.length = n at hv
  subst hv
  clear hr he
  have HB0 := Lib.hid ((Below.refl w.heap.size w).alloc (Nat.le_refl _) (.cells #[.slice a n cap] 129))
  have hov : overV (fun _ _ => 1) cs = areaV cs := by unfold overV areaV; rw [show overC (fun _ _ => 1) cs = arC cs from funext fun i => Int.one_mul _]
  have hC := Lib.hid fun w' h => overSides w' B (.slice a n cap) cs 121 (fun _ _ => 1) h HE.out (fun hs i w' => cloA w' _ _ _ _) (fun hs i => by have := arC_bd hs i; rw [show overC (fun _ _ => 1) cs i = arC cs i from Int.one_mul _]; omega)
  have HV := Lib.hid hov
  clear hov
  go_enter Try.func116, Try.ntmps116
  go_wp2_with fail
  refine (hC.out _ (HR.out.below HB0.out)).mono ?_
  rintro e w1 ⟨rfl, hb1⟩
  rw [HV.out]
  go_wp2_with fail
  go_ret
  exact ⟨rfl, HB0.out.trans (hb1.mono (by simp <;> omega))⟩

theorem implMomentOf (w : World) (B : Nat) (v : Value) (cs : List (Int × Int)) (hr : Row w B v cs) :
    Calls Try.prog 114 #[.agg #[v]] w fun e w' => e = .returned (.int .i64 (momV cs)) ∧ Below w.heap.size w w' := by
  have he : ∀ args w, (callFunc 118 args).run Try.prog w = .ok (.enter 118 args) w := enters_of Try.func118 (by kernel_rfl) rfl
  have HE := Lib.hid he
  have HR := Lib.hid hr
  obtain ⟨a, cap, hv, -⟩ := row_sliceS hr
  generalize cs.length = n at hv
  subst hv
  clear hr he
  have HB0 := Lib.hid ((Below.refl w.heap.size w).alloc (Nat.le_refl _) (.cells #[.slice a n cap] 129))
  have hov : overV (fun p q => p.1 + q.1) cs = momV cs := rfl
  have hC := Lib.hid fun w' h => overSides w' B (.slice a n cap) cs 118 (fun p q => p.1 + q.1) h HE.out (fun hs i w' => cloM w' _ _ _ _ (okP_iff.1 (cn_ok hs i)).1 (okP_iff.1 (cn_ok hs i)).2 (okP_iff.1 (cn_ok hs (i + 1))).1 (okP_iff.1 (cn_ok hs (i + 1))).2) (fun hs i => moC_bd hs i)
  have HV := Lib.hid hov
  clear hov
  go_enter Try.func114, Try.ntmps114
  go_wp2_with fail
  refine (hC.out _ (HR.out.below HB0.out)).mono ?_
  rintro e w1 ⟨rfl, hb1⟩
  rw [HV.out]
  go_wp2_with fail
  go_ret
  exact ⟨rfl, HB0.out.trans (hb1.mono (by simp <;> omega))⟩


theorem implWeightOf (w : World) (B : Nat) (v : Value) (cs : List (Int × Int)) (hr : Row w B v cs) :
    Calls Try.prog 113 #[.agg #[v]] w fun e w' => e = .returned (.int .i64 (weightV cs)) ∧ Below w.heap.size w w' := by
  have HR := Lib.hid hr
  obtain ⟨a, cap, hv, -⟩ := row_sliceS hr
  generalize cs.length = n at hv
  subst hv
  clear hr
  have HB0 := Lib.hid ((Below.refl w.heap.size w).alloc (Nat.le_refl _) (.cells #[.slice a n cap] 129))
  have hw : weightV cs = 3 * areaV cs := rfl
  have hbd := areaV_bd cs
  have hC := fun w' h => implAreaTwice w' B (.slice a n cap) cs h
  generalize areaV cs = A at *
  rw [hw]
  clear hw
  go_enter Try.func113, Try.ntmps113
  go_wp2_with fail
  refine (hC _ (HR.out.below HB0.out)).mono ?_
  rintro e w1 ⟨rfl, hb1⟩
  clear hC
  go_wp2_with fail
  go_ret
  exact ⟨rfl, HB0.out.trans (hb1.mono (by simp <;> omega))⟩

end Go.Proofs.Ytbmlcfdilopmgaa

/- The contracts of the model's weights: AreaTwice, WeightOf, MomentOf, HeightMoment, IsLeftOf. -/
namespace Go.Proofs.Ytbmlcfdilopmgaa
set_option maxRecDepth 100000
open Go.ChangeShapes Go.WideShapes Go.ChangeAt Go.RowKit

theorem l04Cross (x y u v : Int) (w : World) (h1 : -1000000 ≤ x * v ∧ x * v ≤ 1000000) (h2 : -1000000 ≤ y * u ∧ y * u ≤ 1000000) :
    Calls Try.prog 92 #[.agg #[.int .i64 x, .int .i64 y], .agg #[.int .i64 u, .int .i64 v]] w fun e w' => e = .returned (.int .i64 (x * v - y * u)) ∧ Below w.heap.size w w' := by
  obtain ⟨h10, h11⟩ := h1
  obtain ⟨h20, h21⟩ := h2
  go_enter Try.func92, Try.ntmps92
  go_wp2
  go_ret
  exact ⟨rfl, by repeat (first | exact Below.refl _ _ | refine Below.alloc ?_ (by simp <;> omega) _ | refine Below.setCell ?_ (by simp <;> omega) _)⟩

/-- .. of two corners. -/
theorem l04CrossAt {cs : List (Int × Int)} (hs : stoneV cs = true) (i j : Nat) (ax ay bx by_ : Int) (w : World) (ea : cn cs i = (ax, ay)) (eb : cn cs j = (bx, by_)) :
    Calls Try.prog 92 #[.agg #[.int .i64 ax, .int .i64 ay], .agg #[.int .i64 bx, .int .i64 by_]] w fun e w' => e = .returned (.int .i64 (crs (cn cs i) (cn cs j))) ∧ Below w.heap.size w w' := by
  have oa := okP_iff.1 (cn_ok hs i)
  have ob := okP_iff.1 (cn_ok hs j)
  rw [ea] at oa
  rw [eb] at ob
  rw [ea, eb]
  exact l04Cross ax ay bx by_ w (by have := mul_bd (x := ax) (y := by_) 60 60 ⟨by omega, by omega⟩ ⟨by omega, by omega⟩; omega) (by have := mul_bd (x := ay) (y := bx) 60 60 ⟨by omega, by omega⟩ ⟨by omega, by omega⟩; omega)

set_option maxHeartbeats 2000000 in
theorem specAreaTwice (w : World) (B : Nat) (v : Value) (cs : List (Int × Int)) (hr : Row w B v cs) :
    Calls Try.prog 91 #[.agg #[v]] w fun e w' => e = .returned (.int .i64 (areaV cs)) ∧ Below w.heap.size w w' := by
  have HR := Lib.hid hr
  obtain ⟨a, cap, hv, hm⟩ := row_sliceS hr
  generalize hN : cs.length = n at hv hm
  subst hv
  clear hr
  unfold maxLen at hm
  have hb0 := ((Below.refl w.heap.size w).alloc (Nat.le_refl _) (.cells #[.slice a n cap] 129))
  have HB0 := Lib.hid hb0
  have HN := Lib.hid hN
  clear hb0 hN
  cases hs : stoneV cs
  · have HZ := Lib.hid (show areaV cs = 0 by unfold areaV; rw [hs]; rfl)
    have HS := Lib.hid hs
    clear hs
    go_enter Try.func91, Try.ntmps91
    by_cases h0 : n = 0
    · rw [h0]
      clear HR h0
      go_wp2_with fail
      refine wp_loop_rounds 1 ?_
      rw [rounds_succ]
      go_wp2_with fail
      go_ret
      exact ⟨ret_i64 HZ.out.symm, by repeat (first | exact Below.refl _ _ | refine Below.alloc ?_ (by simp <;> omega) _)⟩
    · have h1 : 0 < n := by omega
      go_wp2_with fail
      refine wp_loop_rounds 1 ?_
      rw [rounds_succ]
      go_wp2_with fail
      refine (specStoneOk _ B _ cs (HR.out.below HB0.out)).mono ?_
      rintro e w1 ⟨rfl, hb1⟩
      rw [HS.out]
      go_wp2_with fail
      go_ret
      exact ⟨ret_i64 HZ.out.symm, HB0.out.trans (hb1.mono (by simp <;> omega))⟩
  · have s0 : (w.alloc (.cells #[.slice a n cap] 129)).cell? ⟨w.heap.size, 0, none⟩ = some (.slice a n cap) := by go_simp
    obtain ⟨g3, g6⟩ := stone_size hs
    rcases (HR.out.cases) with ⟨hz, hcn⟩ | ⟨g, cap', hg, r, -, hgw, hcap, hcm⟩
    · rw [hcn] at g3; simp at g3
    simp only [Value.slice.injEq] at hg
    obtain ⟨rfl, -, rfl⟩ := hg
    rw [HN.out] at g3 g6 hcap
    unfold maxLen at hcm
    have HR1 := Lib.hid r
    have HS := Lib.hid hs
    have S0 := Lib.hid s0
    clear hs r s0
    go_enter Try.func91, Try.ntmps91
    go_wp2_with fail
    go_loopw [3, 4] (fun m t wr => ∃ k : Nat, k ≤ n ∧ t = .int .i64 k ∧ m = .int .i64 (sumTo (arC cs) k) ∧ Below w.heap.size w wr ∧ wr.cell? ⟨w.heap.size, 0, none⟩ = some (.slice (some ⟨g, 0, none⟩) n cap))
      (fun _ t _ => n - (intOf t).toNat)
    case atStart => exact ⟨0, Nat.zero_le _, rfl, rfl, HB0.out, S0.out⟩
    case round =>
      clear HB0 S0
      obtain ⟨k, hk, rfl, rfl, hbw, hsw⟩ := hrel
      have HB := Lib.hid hbw
      have hlN := HN.out
      by_cases hlt : k < n
      · have hr := HR1.out.below hbw
        have h0 : 0 < cs.length := by omega
        obtain ⟨a0, a1⟩ := hr.cells k (by omega)
        obtain ⟨b0, b1⟩ := hr.corner h0 (k + 1)
        rw [← cn_lt (show k < cs.length by omega)] at a0 a1
        rw [hlN] at b0 b1
        have t1 := tmod_at n (k + 1) ((k : Int) + 1) (by omega)
        have l1 : (k + 1) % n < n := Nat.mod_lt _ (by omega)
        obtain ⟨⟨ax, ay⟩, ea⟩ : ∃ p, cn cs k = p := ⟨_, rfl⟩
        obtain ⟨⟨bx, by_⟩, eb⟩ : ∃ p, cn cs (k + 1) = p := ⟨_, rfl⟩
        have oa := okP_iff.1 (cn_ok HS.out k)
        have ob := okP_iff.1 (cn_ok HS.out (k + 1))
        have hC1 := fun w => l04CrossAt HS.out k (k + 1) ax ay bx by_ w ea eb
        have hT : arC cs k = crs (cn cs k) (cn cs (k + 1)) := rfl
        have hTb := arC_bd HS.out k
        have hSb := six_bd HS.out (arC cs) 7200 (by omega) (arC_bd HS.out) k (by omega)
        have hnx : sumTo (arC cs) (k + 1) = sumTo (arC cs) k + arC cs k := rfl
        rw [ea] at a0 a1 oa
        rw [eb] at b0 b1 ob
        generalize crs (cn cs k) (cn cs (k + 1)) = X at *
        generalize sumTo (arC cs) k = S at *
        generalize arC cs k = T at *
        subst hT
        have HC1 := Lib.hid hC1
        have HX := Lib.hid hnx
        have hgl : g < wr.heap.size := by have := hbw.size; omega
        clear hC1 hnx ea eb hr h0 hbw hlN
        generalize (k + 1) % n = j1 at *
        go_wp2_with fail
        refine (specStoneOk _ B _ cs (HR.out.below HB.out)).mono ?_
        rintro e w1 ⟨rfl, hb1⟩
        rw [HS.out]
        have HB1 := Lib.hid (HB.out.trans (hb1.mono HB.out.size))
        have hgl1 : g < w1.heap.size := by have := hb1.size; omega
        have k0 := cell_kept a0 hb1
        have k1 := cell_kept a1 hb1
        have m0 := cell_kept b0 hb1
        have m1 := cell_kept b1 hb1
        have hs1 := cell_kept hsw hb1
        have hbs1 := cell_block_lt hs1
        clear a0 a1 b0 b1 hsw hb1
        have hn1 := Since.nonempty w1
        have sS := fun (x : Since w1) => (x.cell w.heap.size 0 hbs1).trans hs1
        have sa0 := fun (x : Since w1) => (x.cell g (k * 2) hgl1).trans k0
        have sa1 := fun (x : Since w1) => (x.cell g (k * 2 + 1) hgl1).trans k1
        have sb0 := fun (x : Since w1) => (x.cell g (j1 * 2) hgl1).trans m0
        have sb1 := fun (x : Since w1) => (x.cell g (j1 * 2 + 1) hgl1).trans m1
        go_wp2_with fail
        refine wp_region_since (by kernel_rfl) (by kernel_rfl) ?_
        repeat (go_big_quiet_step (first
          | (go_at_call 92; exact Since.call (HC1.out _))))
        refine wpQuiet_nil ?_
        rintro w3 ⟨⟨w3, hb3⟩, rfl⟩
        have HB3 := Lib.hid (HB1.out.trans (hb3.mono HB1.out.size))
        have C0 := Lib.hid (cell_kept hs1 hb3)
        clear sS sa0 sa1 sb0 sb1 hb3 hs1 k0 k1 m0 m1
        go_wp2_with fail
        go_roundw
        case rel => exact ⟨k + 1, by omega, by go_num, by rw [HX.out], HB3.out, C0.out⟩
        case measure => simp [intOf]; omega
      · have hkn : k = n := by omega
        rw [hkn]
        clear hbw hlN hkn hlt hk
        go_wp2_with fail
        go_ret
        exact ⟨ret_i64 (by unfold areaV; rw [HS.out, HN.out]; rfl), HB.out⟩

set_option maxHeartbeats 2000000 in
theorem specMomentOf (w : World) (B : Nat) (v : Value) (cs : List (Int × Int)) (hr : Row w B v cs) :
    Calls Try.prog 79 #[.agg #[v]] w fun e w' => e = .returned (.int .i64 (momV cs)) ∧ Below w.heap.size w w' := by
  have HR := Lib.hid hr
  obtain ⟨a, cap, hv, hm⟩ := row_sliceS hr
  generalize hN : cs.length = n at hv hm
  subst hv
  clear hr
  unfold maxLen at hm
  have hb0 := ((Below.refl w.heap.size w).alloc (Nat.le_refl _) (.cells #[.slice a n cap] 129))
  have HB0 := Lib.hid hb0
  have HN := Lib.hid hN
  clear hb0 hN
  cases hs : stoneV cs
  · have HZ := Lib.hid (show momV cs = 0 by unfold momV; rw [hs]; rfl)
    have HS := Lib.hid hs
    clear hs
    go_enter Try.func79, Try.ntmps79
    by_cases h0 : n = 0
    · rw [h0]
      clear HR h0
      go_wp2_with fail
      refine wp_loop_rounds 1 ?_
      rw [rounds_succ]
      go_wp2_with fail
      go_ret
      exact ⟨ret_i64 HZ.out.symm, by repeat (first | exact Below.refl _ _ | refine Below.alloc ?_ (by simp <;> omega) _)⟩
    · have h1 : 0 < n := by omega
      go_wp2_with fail
      refine wp_loop_rounds 1 ?_
      rw [rounds_succ]
      go_wp2_with fail
      refine (specStoneOk _ B _ cs (HR.out.below HB0.out)).mono ?_
      rintro e w1 ⟨rfl, hb1⟩
      rw [HS.out]
      go_wp2_with fail
      go_ret
      exact ⟨ret_i64 HZ.out.symm, HB0.out.trans (hb1.mono (by simp <;> omega))⟩
  · have s0 : (w.alloc (.cells #[.slice a n cap] 129)).cell? ⟨w.heap.size, 0, none⟩ = some (.slice a n cap) := by go_simp
    obtain ⟨g3, g6⟩ := stone_size hs
    rcases (HR.out.cases) with ⟨hz, hcn⟩ | ⟨g, cap', hg, r, -, hgw, hcap, hcm⟩
    · rw [hcn] at g3; simp at g3
    simp only [Value.slice.injEq] at hg
    obtain ⟨rfl, -, rfl⟩ := hg
    rw [HN.out] at g3 g6 hcap
    unfold maxLen at hcm
    have HR1 := Lib.hid r
    have HS := Lib.hid hs
    have S0 := Lib.hid s0
    clear hs r s0
    go_enter Try.func79, Try.ntmps79
    go_wp2_with fail
    go_loopw [3, 4] (fun m t wr => ∃ k : Nat, k ≤ n ∧ t = .int .i64 k ∧ m = .int .i64 (sumTo (moC cs) k) ∧ Below w.heap.size w wr ∧ wr.cell? ⟨w.heap.size, 0, none⟩ = some (.slice (some ⟨g, 0, none⟩) n cap))
      (fun _ t _ => n - (intOf t).toNat)
    case atStart => exact ⟨0, Nat.zero_le _, rfl, rfl, HB0.out, S0.out⟩
    case round =>
      clear HB0 S0
      obtain ⟨k, hk, rfl, rfl, hbw, hsw⟩ := hrel
      have HB := Lib.hid hbw
      have hlN := HN.out
      by_cases hlt : k < n
      · have hr := HR1.out.below hbw
        have h0 : 0 < cs.length := by omega
        obtain ⟨a0, a1⟩ := hr.cells k (by omega)
        obtain ⟨b0, b1⟩ := hr.corner h0 (k + 1)
        rw [← cn_lt (show k < cs.length by omega)] at a0 a1
        rw [hlN] at b0 b1
        have t1 := tmod_at n (k + 1) ((k : Int) + 1) (by omega)
        have l1 : (k + 1) % n < n := Nat.mod_lt _ (by omega)
        obtain ⟨⟨ax, ay⟩, ea⟩ : ∃ p, cn cs k = p := ⟨_, rfl⟩
        obtain ⟨⟨bx, by_⟩, eb⟩ : ∃ p, cn cs (k + 1) = p := ⟨_, rfl⟩
        have oa := okP_iff.1 (cn_ok HS.out k)
        have ob := okP_iff.1 (cn_ok HS.out (k + 1))
        have hC1 := fun w => l04CrossAt HS.out k (k + 1) ax ay bx by_ w ea eb
        have hT : moC cs k = (ax + bx) * crs (cn cs k) (cn cs (k + 1)) := by unfold moC; rw [ea, eb]
        have hTb := moC_bd HS.out k
        have hSb := six_bd HS.out (moC cs) 864000 (by omega) (moC_bd HS.out) k (by omega)
        have hnx : sumTo (moC cs) (k + 1) = sumTo (moC cs) k + moC cs k := rfl
        rw [ea] at a0 a1 oa
        rw [eb] at b0 b1 ob
        generalize crs (cn cs k) (cn cs (k + 1)) = X at *
        generalize sumTo (moC cs) k = S at *
        generalize moC cs k = T at *
        subst hT
        have HC1 := Lib.hid hC1
        have HX := Lib.hid hnx
        have hgl : g < wr.heap.size := by have := hbw.size; omega
        clear hC1 hnx ea eb hr h0 hbw hlN
        generalize (k + 1) % n = j1 at *
        go_wp2_with fail
        refine (specStoneOk _ B _ cs (HR.out.below HB.out)).mono ?_
        rintro e w1 ⟨rfl, hb1⟩
        rw [HS.out]
        have HB1 := Lib.hid (HB.out.trans (hb1.mono HB.out.size))
        have hgl1 : g < w1.heap.size := by have := hb1.size; omega
        have k0 := cell_kept a0 hb1
        have k1 := cell_kept a1 hb1
        have m0 := cell_kept b0 hb1
        have m1 := cell_kept b1 hb1
        have hs1 := cell_kept hsw hb1
        have hbs1 := cell_block_lt hs1
        clear a0 a1 b0 b1 hsw hb1
        go_wp2_with fail
        go_region
        have hbd : Below w.heap.size w (((w1.alloc (.cells #[.int .i64 ax, .int .i64 ay] 100)).alloc (.cells #[.int .i64 bx, .int .i64 by_] 100)).drew) := ((HB1.out.alloc HB1.out.size _).alloc (by have := HB1.out.size; simp; omega) _).drew
        have p0 : (((w1.alloc (.cells #[.int .i64 ax, .int .i64 ay] 100)).alloc (.cells #[.int .i64 bx, .int .i64 by_] 100)).drew).cell? ⟨w1.heap.size, 0, none⟩ = some (.int .i64 ax) := by go_simp
        have p1 : (((w1.alloc (.cells #[.int .i64 ax, .int .i64 ay] 100)).alloc (.cells #[.int .i64 bx, .int .i64 by_] 100)).drew).cell? ⟨w1.heap.size, 1, none⟩ = some (.int .i64 ay) := by go_simp
        have q0 : (((w1.alloc (.cells #[.int .i64 ax, .int .i64 ay] 100)).alloc (.cells #[.int .i64 bx, .int .i64 by_] 100)).drew).cell? ⟨w1.heap.size + 1, 0, none⟩ = some (.int .i64 bx) := by go_simp
        have q1 : (((w1.alloc (.cells #[.int .i64 ax, .int .i64 ay] 100)).alloc (.cells #[.int .i64 bx, .int .i64 by_] 100)).drew).cell? ⟨w1.heap.size + 1, 1, none⟩ = some (.int .i64 by_) := by go_simp
        have hs2 : (((w1.alloc (.cells #[.int .i64 ax, .int .i64 ay] 100)).alloc (.cells #[.int .i64 bx, .int .i64 by_] 100)).drew).cell? ⟨w.heap.size, 0, none⟩ = some (.slice (some ⟨g, 0, none⟩) n cap) := by go_simp
        generalize (((w1.alloc (.cells #[.int .i64 ax, .int .i64 ay] 100)).alloc (.cells #[.int .i64 bx, .int .i64 by_] 100)).drew) = w2 at *
        have HB2 := Lib.hid hbd
        have l0 := cell_block_lt p0
        have l2 := cell_block_lt q0
        have hn1 := Since.nonempty w2
        have sa0 := fun (x : Since w2) => (x.cell w1.heap.size 0 l0).trans p0
        have sa1 := fun (x : Since w2) => (x.cell w1.heap.size 1 l0).trans p1
        have sb0 := fun (x : Since w2) => (x.cell (w1.heap.size + 1) 0 l2).trans q0
        have sb1 := fun (x : Since w2) => (x.cell (w1.heap.size + 1) 1 l2).trans q1
        clear hbd hs1 hbs1 k0 k1 m0 m1
        go_wp2_with fail
        refine wp_region_since (by kernel_rfl) (by kernel_rfl) ?_
        repeat (go_big_quiet_step (first
          | (go_at_call 92; exact Since.call (HC1.out _))))
        refine wpQuiet_nil ?_
        rintro w3 ⟨⟨w3, hb3⟩, rfl⟩
        have HB3 := Lib.hid (HB2.out.trans (hb3.mono HB2.out.size))
        have C0 := Lib.hid (cell_kept hs2 hb3)
        clear sa0 sa1 sb0 sb1 hb3 hs2 p0 p1 q0 q1
        go_wp2_with fail
        go_roundw
        case rel => exact ⟨k + 1, by omega, by go_num, by rw [HX.out], HB3.out, C0.out⟩
        case measure => simp [intOf]; omega
      · have hkn : k = n := by omega
        rw [hkn]
        clear hbw hlN hkn hlt hk
        go_wp2_with fail
        go_ret
        exact ⟨ret_i64 (by unfold momV; rw [HS.out, HN.out]; rfl), HB.out⟩

theorem specWeightOf (w : World) (B : Nat) (v : Value) (cs : List (Int × Int)) (hr : Row w B v cs) :
    Calls Try.prog 78 #[.agg #[v]] w fun e w' => e = .returned (.int .i64 (weightV cs)) ∧ Below w.heap.size w w' := by
  have HR := Lib.hid hr
  obtain ⟨a, cap, hv, -⟩ := row_sliceS hr
  generalize cs.length = n at hv
  subst hv
  clear hr
  have HB0 := Lib.hid ((Below.refl w.heap.size w).alloc (Nat.le_refl _) (.cells #[.slice a n cap] 129))
  have hw : weightV cs = 3 * areaV cs := rfl
  have hbd := areaV_bd cs
  have hC := fun w' h => specAreaTwice w' B (.slice a n cap) cs h
  generalize areaV cs = A at *
  rw [hw]
  clear hw
  go_enter Try.func78, Try.ntmps78
  go_wp2_with fail
  refine (hC _ (HR.out.below HB0.out)).mono ?_
  rintro e w1 ⟨rfl, hb1⟩
  clear hC
  go_wp2_with fail
  go_ret
  exact ⟨rfl, HB0.out.trans (hb1.mono (by simp <;> omega))⟩

end Go.Proofs.Ytbmlcfdilopmgaa
