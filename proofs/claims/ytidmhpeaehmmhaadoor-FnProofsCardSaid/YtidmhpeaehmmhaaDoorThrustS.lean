/- The model's functions on thrusts: MakeThrust, CompareThrusts, MixThrusts. -/
import Derived.Test.YtidmhpeaehmmhaaDoorThrustI
namespace Go.Proofs.YtidmhpeaehmmhaaDoor
set_option maxRecDepth 100000
open Go.ChangeShapes Go.WideShapes Go.ChangeAt Go.RowKit

theorem mkIn_1 {h v m d : Int} (hi : inF h = false) : mkIn h v m d = false := by unfold mkIn; rw [hi]; rfl
theorem mkIn_2 {h v m d : Int} (hi : inF v = false) : mkIn h v m d = false := by unfold mkIn; rw [hi]; simp
theorem mkIn_3 {h v m d : Int} (hi : inF m = false) : mkIn h v m d = false := by unfold mkIn; rw [hi]; simp
theorem mkIn_4 {h v m d : Int} (hi : inF d = false) : mkIn h v m d = false := by unfold mkIn; rw [hi]; simp
theorem mkIn_yes {h v m d : Int} (h0 : inF h = true) (h1 : inF v = true) (h2 : inF m = true) (h3 : inF d = true) : mkIn h v m d = true := by unfold mkIn; rw [h0, h1, h2, h3]; rfl
theorem l01In_given (n : Int) (w : World) : Calls Tryd.prog 34 #[.int .i64 n, .int .i64 (-4000000000000000000), .int .i64 4000000000000000000] w fun e w' => e = .returned (.bool (inF n)) ∧ w = w' := l01InR n _ _ w

set_option maxHeartbeats 2000000 in
theorem specMake (h v m d : Int) (w : World) :
    Calls Tryd.prog 29 #[.int .i64 h, .int .i64 v, .int .i64 m, .int .i64 d] w fun e w' => e = .returned (mkV h v m d) ∧ Below w.heap.size w w' := by
  have hb0 := (Below.refl w.heap.size w).alloc (Nat.le_refl _) (.cells #[.int .i64 0, .int .i64 0, .int .i64 0, .int .i64 0] 31)
  have HB0 := Lib.hid hb0
  clear hb0
  by_cases hd0 : d = 0
  · subst hd0
    have HV := Lib.hid (mkV_no (mkB_zero (h := h) (v := v) (m := m)))
    go_enter Tryd.func29, Tryd.ntmps29
    go_wp2_with fail
    refine bodyPost_ret (v := .tuple #[.agg #[.int .i64 0, .int .i64 0, .int .i64 0, .int .i64 0], .bool false]) (by simp [results, Tryd.results29, go_sem]) rfl ⟨by rw [HV.out], HB0.out⟩
  have hd1 : (d == 0) = false := by simpa using hd0
  have HD := Lib.hid hd0
  clear hd0
  cases h1 : inF h
  · have HV := Lib.hid (mkV_no (mkB_out (mkIn_1 (h := h) (v := v) (m := m) (d := d) h1)))
    go_enter Tryd.func29, Tryd.ntmps29
    go_wp2_with fail
    refine (l01In_given _ _).mono ?_
    rintro e w1 ⟨rfl, rfl⟩
    rw [h1]
    go_wp2_with fail
    refine bodyPost_ret (v := .tuple #[.agg #[.int .i64 0, .int .i64 0, .int .i64 0, .int .i64 0], .bool false]) (by simp [results, Tryd.results29, go_sem]) rfl ⟨by rw [HV.out], HB0.out⟩
  cases h2 : inF v
  · have HV := Lib.hid (mkV_no (mkB_out (mkIn_2 (h := h) (v := v) (m := m) (d := d) h2)))
    go_enter Tryd.func29, Tryd.ntmps29
    go_wp2_with fail
    refine (l01In_given _ _).mono ?_
    rintro e w1 ⟨rfl, rfl⟩
    rw [h1]
    go_wp2_with fail
    refine (l01In_given _ _).mono ?_
    rintro e w1 ⟨rfl, rfl⟩
    rw [h2]
    go_wp2_with fail
    refine bodyPost_ret (v := .tuple #[.agg #[.int .i64 0, .int .i64 0, .int .i64 0, .int .i64 0], .bool false]) (by simp [results, Tryd.results29, go_sem]) rfl ⟨by rw [HV.out], HB0.out⟩
  cases h3 : inF m
  · have HV := Lib.hid (mkV_no (mkB_out (mkIn_3 (h := h) (v := v) (m := m) (d := d) h3)))
    go_enter Tryd.func29, Tryd.ntmps29
    go_wp2_with fail
    refine (l01In_given _ _).mono ?_
    rintro e w1 ⟨rfl, rfl⟩
    rw [h1]
    go_wp2_with fail
    refine (l01In_given _ _).mono ?_
    rintro e w1 ⟨rfl, rfl⟩
    rw [h2]
    go_wp2_with fail
    refine (l01In_given _ _).mono ?_
    rintro e w1 ⟨rfl, rfl⟩
    rw [h3]
    go_wp2_with fail
    refine bodyPost_ret (v := .tuple #[.agg #[.int .i64 0, .int .i64 0, .int .i64 0, .int .i64 0], .bool false]) (by simp [results, Tryd.results29, go_sem]) rfl ⟨by rw [HV.out], HB0.out⟩
  cases h4 : inF d
  · have HV := Lib.hid (mkV_no (mkB_out (mkIn_4 (h := h) (v := v) (m := m) (d := d) h4)))
    go_enter Tryd.func29, Tryd.ntmps29
    go_wp2_with fail
    refine (l01In_given _ _).mono ?_
    rintro e w1 ⟨rfl, rfl⟩
    rw [h1]
    go_wp2_with fail
    refine (l01In_given _ _).mono ?_
    rintro e w1 ⟨rfl, rfl⟩
    rw [h2]
    go_wp2_with fail
    refine (l01In_given _ _).mono ?_
    rintro e w1 ⟨rfl, rfl⟩
    rw [h3]
    go_wp2_with fail
    refine (l01In_given _ _).mono ?_
    rintro e w1 ⟨rfl, rfl⟩
    rw [h4]
    go_wp2_with fail
    refine bodyPost_ret (v := .tuple #[.agg #[.int .i64 0, .int .i64 0, .int .i64 0, .int .i64 0], .bool false]) (by simp [results, Tryd.results29, go_sem]) rfl ⟨by rw [HV.out], HB0.out⟩
  · have hd0 := HD.out
    have HM := Lib.hid (mkB_in hd0 (mkIn_yes h1 h2 h3 h4))
    have hg : gcd4 h v m d ≤ 4000000000000000000 := Nat.le_trans (gcd4_le hd0) (inF_abs h4)
    have q0 := inF_abs h1
    have q1 := inF_abs h2
    have q2 := inF_abs h3
    have q3 := inF_abs h4
    have ta := tdiv_bd h (sgn h v m d) h1
    have tb := tdiv_bd v (sgn h v m d) h2
    have tc := tdiv_bd m (sgn h v m d) h3
    have te := tdiv_bd d (sgn h v m d) h4
    have hs0 : ¬ sgn h v m d = 0 := sgn_ne hd0
    have HS : RowKit.Hid (sgn h v m d = if d < 0 then -((gcd4 h v m d : Nat) : Int) else ((gcd4 h v m d : Nat) : Int)) := Lib.hid rfl
    obtain ⟨s, hs⟩ : ∃ s, sgn h v m d = s := ⟨_, rfl⟩
    rw [hs] at ta tb tc te hs0 HS HM
    have HSS := Lib.hid hs
    obtain ⟨a, ha⟩ : ∃ a, h.tdiv s = a := ⟨_, rfl⟩
    obtain ⟨b, hb⟩ : ∃ a, v.tdiv s = a := ⟨_, rfl⟩
    obtain ⟨c, hc⟩ : ∃ a, m.tdiv s = a := ⟨_, rfl⟩
    obtain ⟨f, hf⟩ : ∃ a, d.tdiv s = a := ⟨_, rfl⟩
    rw [ha, hb, hc, hf] at HM
    rw [ha] at ta
    rw [hb] at tb
    rw [hc] at tc
    rw [hf] at te
    have wa : IntKind.i64.wrap a = a := IntWalk.i64_in _ (by omega)
    have wb : IntKind.i64.wrap b = b := IntWalk.i64_in _ (by omega)
    have wc : IntKind.i64.wrap c = c := IntWalk.i64_in _ (by omega)
    have wf : IntKind.i64.wrap f = f := IntWalk.i64_in _ (by omega)
    have HAA := Lib.hid (And.intro ha (And.intro hb (And.intro hc hf)))
    obtain ⟨x, hx, HA⟩ : ∃ a : Int, a.natAbs ≤ 9223372036854775807 ∧ RowKit.Hid (a.natAbs = Nat.gcd h.natAbs v.natAbs ∧ ∀ w, Calls Tryd.prog 35 #[.int .i64 h, .int .i64 v] w fun e w' => e = .returned (.int .i64 a) ∧ Below w.heap.size w w') :=
      ⟨_, (by have := gcd_bd h v (by omega) (by omega); omega), Lib.hid ⟨by omega, fun w => specGcd h v w (by omega) (by omega)⟩⟩
    obtain ⟨y, hy, HB⟩ : ∃ a : Int, a.natAbs ≤ 9223372036854775807 ∧ RowKit.Hid (a.natAbs = Nat.gcd m.natAbs d.natAbs ∧ ∀ w, Calls Tryd.prog 35 #[.int .i64 m, .int .i64 d] w fun e w' => e = .returned (.int .i64 a) ∧ Below w.heap.size w w') :=
      ⟨_, (by have := gcd_bd m d (by omega) (by omega); omega), Lib.hid ⟨by omega, fun w => specGcd m d w (by omega) (by omega)⟩⟩
    have HC : RowKit.Hid (∀ w, Calls Tryd.prog 35 #[.int .i64 x, .int .i64 y] w fun e w' => e = .returned (.int .i64 ((gcd4 h v m d : Nat) : Int)) ∧ Below w.heap.size w w') :=
      Lib.hid (fun w => by
        have hh := specGcd x y w hx hy
        rw [HA.out.1, HB.out.1] at hh
        exact hh)
    clear ta tb tc te q0 q1 q2 q3 hs hd0 hx hy
    generalize gcd4 h v m d = g at *
    go_enter Tryd.func29, Tryd.ntmps29
    go_wp2_with fail
    refine (l01In_given _ _).mono ?_
    rintro e w1 ⟨rfl, rfl⟩
    rw [h1]
    go_wp2_with fail
    refine (l01In_given _ _).mono ?_
    rintro e w1 ⟨rfl, rfl⟩
    rw [h2]
    go_wp2_with fail
    refine (l01In_given _ _).mono ?_
    rintro e w1 ⟨rfl, rfl⟩
    rw [h3]
    go_wp2_with fail
    refine (l01In_given _ _).mono ?_
    rintro e w1 ⟨rfl, rfl⟩
    rw [h4]
    go_wp2_with fail
    clear h1 h2 h3 h4
    refine (HA.out.2 _).mono ?_
    rintro e wa1 ⟨rfl, ka1⟩
    go_wp2_with fail
    refine (HB.out.2 _).mono ?_
    rintro e wa2 ⟨rfl, ka2⟩
    have ka12 := ka1.trans (ka2.mono ka1.size)
    clear ka1 ka2
    go_wp2_with fail
    refine (HC.out _).mono ?_
    rintro e w1 ⟨rfl, ka3⟩
    have hb1 := ka12.trans (ka3.mono ka12.size)
    clear ka12 ka3
    have HB1 := Lib.hid (HB0.out.trans (hb1.mono HB0.out.size))
    have c0' : w1.cell? ⟨w.heap.size, 0, none⟩ = some (.int .i64 0) := tcell (by go_simp) hb1
    have c1' : w1.cell? ⟨w.heap.size, 1, none⟩ = some (.int .i64 0) := tcell (by go_simp) hb1
    have c2' : w1.cell? ⟨w.heap.size, 2, none⟩ = some (.int .i64 0) := tcell (by go_simp) hb1
    have c3' : w1.cell? ⟨w.heap.size, 3, none⟩ = some (.int .i64 0) := tcell (by go_simp) hb1
    have fz : ∀ o, w1.frozen? ⟨w.heap.size, o, none⟩ = false := fun o => ((hb1.frozen (p := ⟨w.heap.size, o, none⟩) (by simp <;> omega)).trans (by go_simp))
    clear hb1 HA HB HC
    by_cases hneg : d < 0
    · have hsn : IntKind.i64.wrap (-(g : Int)) = s := by rw [HS.out, if_pos hneg]; exact IntWalk.i64_in _ (by omega)
      clear HS
      go_wp2_with fail
      go_region
      have HBZ := Lib.hid (HB1.out.alloc HB1.out.size (.cells #[.int .i64 a, .int .i64 b, .int .i64 c, .int .i64 f] 31))
      go_wp2_with fail
      refine (specThrustOk _ _ _ _ _).mono ?_
      rintro e w2 ⟨rfl, hb2⟩
      have c0 : w2.cell? ⟨w.heap.size, 0, none⟩ = some (.int .i64 0) := tcellD (tcell c0' ((Below.refl _ _).alloc (Nat.le_refl _) _)) hb2
      have c1 : w2.cell? ⟨w.heap.size, 1, none⟩ = some (.int .i64 0) := tcellD (tcell c1' ((Below.refl _ _).alloc (Nat.le_refl _) _)) hb2
      have c2 : w2.cell? ⟨w.heap.size, 2, none⟩ = some (.int .i64 0) := tcellD (tcell c2' ((Below.refl _ _).alloc (Nat.le_refl _) _)) hb2
      have c3 : w2.cell? ⟨w.heap.size, 3, none⟩ = some (.int .i64 0) := tcellD (tcell c3' ((Below.refl _ _).alloc (Nat.le_refl _) _)) hb2
      have e0 : w2.cell? ⟨w1.heap.size, 0, none⟩ = some (.int .i64 a) := tcellD (by go_simp) hb2
      have e1 : w2.cell? ⟨w1.heap.size, 1, none⟩ = some (.int .i64 b) := tcellD (by go_simp) hb2
      have e2 : w2.cell? ⟨w1.heap.size, 2, none⟩ = some (.int .i64 c) := tcellD (by go_simp) hb2
      have e3 : w2.cell? ⟨w1.heap.size, 3, none⟩ = some (.int .i64 f) := tcellD (by go_simp) hb2
      have fz2 : ∀ o, w2.frozen? ⟨w.heap.size, o, none⟩ = false := fun o => (hb2.frozen (p := ⟨w.heap.size, o, none⟩) (show w.heap.size < (w1.alloc _).heap.size by have := cell_block_lt c0'; simp; simp at this; omega)).trans ((((Below.refl w1.heap.size w1).alloc (Nat.le_refl _) _).frozen (p := ⟨w.heap.size, o, none⟩) (show w.heap.size < w1.heap.size from cell_block_lt c0')).trans (fz o))
      have HB2 := Lib.hid ((tbelowD HBZ.out).trans (hb2.mono (tbelowD HBZ.out).size))
      clear hb2 fz c0' c1' c2' c3'
      cases hok : okT a b c f
      · have HV := Lib.hid (mkV_no (HM.out.trans hok))
        go_wp2_with fail
        refine World.any (p := fun W => bodyPost _ _ _ _ _ W) (fun Z hW => ?_)
        have z0 : Z.cell? ⟨w.heap.size, 0, none⟩ = some (.int .i64 0) := by subst hW; go_simp
        have z1 : Z.cell? ⟨w.heap.size, 1, none⟩ = some (.int .i64 0) := by subst hW; go_simp
        have z2 : Z.cell? ⟨w.heap.size, 2, none⟩ = some (.int .i64 0) := by subst hW; go_simp
        have z3 : Z.cell? ⟨w.heap.size, 3, none⟩ = some (.int .i64 0) := by subst hW; go_simp
        have HBW : Below w.heap.size w Z := by
          subst hW
          repeat refine Below.setCell ?_ (by simp) _
          exact HB2.out
        refine bodyPost_ret (v := .tuple #[.agg #[.int .i64 0, .int .i64 0, .int .i64 0, .int .i64 0], .bool false]) (by simp [results, Tryd.results29, go_sem, z0, z1, z2, z3]) rfl ⟨by rw [HV.out], HBW⟩
      · have HV := Lib.hid (mkV_yes (HM.out.trans hok) HSS.out HAA.out.1 HAA.out.2.1 HAA.out.2.2.1 HAA.out.2.2.2)
        go_wp2_with fail
        refine World.any (p := fun W => bodyPost _ _ _ _ _ W) (fun Z hW => ?_)
        have z0 : Z.cell? ⟨w.heap.size, 0, none⟩ = some (.int .i64 a) := by subst hW; go_simp
        have z1 : Z.cell? ⟨w.heap.size, 1, none⟩ = some (.int .i64 b) := by subst hW; go_simp
        have z2 : Z.cell? ⟨w.heap.size, 2, none⟩ = some (.int .i64 c) := by subst hW; go_simp
        have z3 : Z.cell? ⟨w.heap.size, 3, none⟩ = some (.int .i64 f) := by subst hW; go_simp
        have HBW : Below w.heap.size w Z := by
          subst hW
          repeat refine Below.setCell ?_ (by simp) _
          exact HB2.out
        refine bodyPost_ret (v := .tuple #[.agg #[.int .i64 a, .int .i64 b, .int .i64 c, .int .i64 f], .bool true]) (by simp [results, Tryd.results29, go_sem, z0, z1, z2, z3]) rfl ⟨by rw [HV.out], HBW⟩
    · have hsn : (g : Int) = s := by rw [HS.out, if_neg hneg]
      rw [hsn]
      clear HS
      go_wp2_with fail
      go_region
      have HBZ := Lib.hid (HB1.out.alloc HB1.out.size (.cells #[.int .i64 a, .int .i64 b, .int .i64 c, .int .i64 f] 31))
      go_wp2_with fail
      refine (specThrustOk _ _ _ _ _).mono ?_
      rintro e w2 ⟨rfl, hb2⟩
      have c0 : w2.cell? ⟨w.heap.size, 0, none⟩ = some (.int .i64 0) := tcellD (tcell c0' ((Below.refl _ _).alloc (Nat.le_refl _) _)) hb2
      have c1 : w2.cell? ⟨w.heap.size, 1, none⟩ = some (.int .i64 0) := tcellD (tcell c1' ((Below.refl _ _).alloc (Nat.le_refl _) _)) hb2
      have c2 : w2.cell? ⟨w.heap.size, 2, none⟩ = some (.int .i64 0) := tcellD (tcell c2' ((Below.refl _ _).alloc (Nat.le_refl _) _)) hb2
      have c3 : w2.cell? ⟨w.heap.size, 3, none⟩ = some (.int .i64 0) := tcellD (tcell c3' ((Below.refl _ _).alloc (Nat.le_refl _) _)) hb2
      have e0 : w2.cell? ⟨w1.heap.size, 0, none⟩ = some (.int .i64 a) := tcellD (by go_simp) hb2
      have e1 : w2.cell? ⟨w1.heap.size, 1, none⟩ = some (.int .i64 b) := tcellD (by go_simp) hb2
      have e2 : w2.cell? ⟨w1.heap.size, 2, none⟩ = some (.int .i64 c) := tcellD (by go_simp) hb2
      have e3 : w2.cell? ⟨w1.heap.size, 3, none⟩ = some (.int .i64 f) := tcellD (by go_simp) hb2
      have fz2 : ∀ o, w2.frozen? ⟨w.heap.size, o, none⟩ = false := fun o => (hb2.frozen (p := ⟨w.heap.size, o, none⟩) (show w.heap.size < (w1.alloc _).heap.size by have := cell_block_lt c0'; simp; simp at this; omega)).trans ((((Below.refl w1.heap.size w1).alloc (Nat.le_refl _) _).frozen (p := ⟨w.heap.size, o, none⟩) (show w.heap.size < w1.heap.size from cell_block_lt c0')).trans (fz o))
      have HB2 := Lib.hid ((tbelowD HBZ.out).trans (hb2.mono (tbelowD HBZ.out).size))
      clear hb2 fz c0' c1' c2' c3'
      cases hok : okT a b c f
      · have HV := Lib.hid (mkV_no (HM.out.trans hok))
        go_wp2_with fail
        refine World.any (p := fun W => bodyPost _ _ _ _ _ W) (fun Z hW => ?_)
        have z0 : Z.cell? ⟨w.heap.size, 0, none⟩ = some (.int .i64 0) := by subst hW; go_simp
        have z1 : Z.cell? ⟨w.heap.size, 1, none⟩ = some (.int .i64 0) := by subst hW; go_simp
        have z2 : Z.cell? ⟨w.heap.size, 2, none⟩ = some (.int .i64 0) := by subst hW; go_simp
        have z3 : Z.cell? ⟨w.heap.size, 3, none⟩ = some (.int .i64 0) := by subst hW; go_simp
        have HBW : Below w.heap.size w Z := by
          subst hW
          repeat refine Below.setCell ?_ (by simp) _
          exact HB2.out
        refine bodyPost_ret (v := .tuple #[.agg #[.int .i64 0, .int .i64 0, .int .i64 0, .int .i64 0], .bool false]) (by simp [results, Tryd.results29, go_sem, z0, z1, z2, z3]) rfl ⟨by rw [HV.out], HBW⟩
      · have HV := Lib.hid (mkV_yes (HM.out.trans hok) HSS.out HAA.out.1 HAA.out.2.1 HAA.out.2.2.1 HAA.out.2.2.2)
        go_wp2_with fail
        refine World.any (p := fun W => bodyPost _ _ _ _ _ W) (fun Z hW => ?_)
        have z0 : Z.cell? ⟨w.heap.size, 0, none⟩ = some (.int .i64 a) := by subst hW; go_simp
        have z1 : Z.cell? ⟨w.heap.size, 1, none⟩ = some (.int .i64 b) := by subst hW; go_simp
        have z2 : Z.cell? ⟨w.heap.size, 2, none⟩ = some (.int .i64 c) := by subst hW; go_simp
        have z3 : Z.cell? ⟨w.heap.size, 3, none⟩ = some (.int .i64 f) := by subst hW; go_simp
        have HBW : Below w.heap.size w Z := by
          subst hW
          repeat refine Below.setCell ?_ (by simp) _
          exact HB2.out
        refine bodyPost_ret (v := .tuple #[.agg #[.int .i64 a, .int .i64 b, .int .i64 c, .int .i64 f], .bool true]) (by simp [results, Tryd.results29, go_sem, z0, z1, z2, z3]) rfl ⟨by rw [HV.out], HBW⟩

theorem mxOk_a {ah av am ad bh bv bm bd : Int} (ha : okT ah av am ad = false) : mxOk ah av am ad bh bv bm bd = false := by unfold mxOk; rw [ha]; rfl
theorem mxOk_b {ah av am ad bh bv bm bd : Int} (hb : okT bh bv bm bd = false) : mxOk ah av am ad bh bv bm bd = false := by unfold mxOk; rw [hb]; simp
theorem mxOk_da {ah av am ad bh bv bm bd : Int} (hd : ad > 1000) : mxOk ah av am ad bh bv bm bd = false := by unfold mxOk; rw [decide_eq_false (show ¬ ad ≤ 1000 by omega)]; simp
theorem mxOk_db {ah av am ad bh bv bm bd : Int} (hd : bd > 1000) : mxOk ah av am ad bh bv bm bd = false := by unfold mxOk; rw [decide_eq_false (show ¬ bd ≤ 1000 by omega)]; simp
theorem mxOk_yes {ah av am ad bh bv bm bd : Int} (ha : okT ah av am ad = true) (hb : okT bh bv bm bd = true) (hda : ¬ ad > 1000) (hdb : ¬ bd > 1000) : mxOk ah av am ad bh bv bm bd = true := by
  unfold mxOk; rw [ha, hb, decide_eq_true (show ad ≤ 1000 by omega), decide_eq_true (show bd ≤ 1000 by omega)]; rfl


end Go.Proofs.YtidmhpeaehmmhaaDoor
