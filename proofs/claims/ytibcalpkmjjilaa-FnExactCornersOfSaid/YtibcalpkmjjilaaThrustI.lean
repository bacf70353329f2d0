/- The program's functions on thrusts: isMixable, MakeThrust, CompareThrusts, MixThrusts. -/
import Derived.Test.YtibcalpkmjjilaaThrustC
namespace Go.Proofs.Ytibcalpkmjjilaa
set_option maxRecDepth 100000
open Go.ChangeShapes Go.WideShapes Go.ChangeAt Go.RowKit

/-- What isMixable answers. -/
def mixT (h v m d : Int) : Bool := okT h v m d && decide (d ≤ 1000)


theorem isBetween_given (n : Int) (w : World) : Calls Try.prog 48 #[.int .i64 n, .int .i64 (-4000000000000000000), .int .i64 4000000000000000000] w fun e w' => e = .returned (.bool (inF n)) ∧ w = w' := isBetweenR n _ _ w (by omega)

/-- The four given numbers, by number. -/
def four (h v m d : Int) : List Int := [h, v, m, d]
theorem inF_all {h v m d : Int} (hk : ∀ j, j < 4 → inF ((four h v m d).getD j 0) = true) : mkIn h v m d = true := by
  have h0 := hk 0 (by omega)
  have h1 := hk 1 (by omega)
  have h2 := hk 2 (by omega)
  have h3 := hk 3 (by omega)
  simp [four] at h0 h1 h2 h3
  unfold mkIn; rw [h0, h1, h2, h3]; rfl
theorem inF_not {h v m d : Int} {j : Nat} (hj : j < 4) (hk : inF ((four h v m d).getD j 0) = false) : mkIn h v m d = false := by
  unfold mkIn
  match j, hj with
  | 0, _ => simp [four] at hk; rw [hk]; rfl
  | 1, _ => simp [four] at hk; rw [hk]; simp
  | 2, _ => simp [four] at hk; rw [hk]; simp
  | 3, _ => simp [four] at hk; rw [hk]; simp
theorem mkB_zero {h v m : Int} : mkB h v m 0 = false := rfl
theorem mkB_out {h v m d : Int} (hi : mkIn h v m d = false) : mkB h v m d = false := by unfold mkB; rw [hi]; simp
theorem mkB_in {h v m d : Int} (hd : d ≠ 0) (hi : mkIn h v m d = true) : mkB h v m d = okT (h.tdiv (sgn h v m d)) (v.tdiv (sgn h v m d)) (m.tdiv (sgn h v m d)) (d.tdiv (sgn h v m d)) := by
  unfold mkB; rw [hi, decide_eq_false hd]; rfl
theorem inF_abs {n : Int} (h : inF n = true) : n.natAbs ≤ 4000000000000000000 := by
  have := inR_iff.1 h
  omega

/-- What MakeThrust answers, as a value. -/
def mkV (h v m d : Int) : Value := .tuple #[.agg #[.int .i64 (mkN h h v m d), .int .i64 (mkN v h v m d), .int .i64 (mkN m h v m d), .int .i64 (mkN d h v m d)], .bool (mkB h v m d)]
theorem mkV_no {h v m d : Int} (hb : mkB h v m d = false) : mkV h v m d = .tuple #[.agg #[.int .i64 0, .int .i64 0, .int .i64 0, .int .i64 0], .bool false] := by
  unfold mkV; rw [mkN_no hb, mkN_no hb, mkN_no hb, mkN_no hb, hb]
theorem mkV_yes {h v m d a b c e s : Int} (hb : mkB h v m d = true) (hs : sgn h v m d = s) (ha : h.tdiv s = a) (hb' : v.tdiv s = b) (hc : m.tdiv s = c) (he : d.tdiv s = e) : mkV h v m d = .tuple #[.agg #[.int .i64 a, .int .i64 b, .int .i64 c, .int .i64 e], .bool true] := by
  unfold mkV; rw [mkN_yes hb, mkN_yes hb, mkN_yes hb, mkN_yes hb, hb, hs, ha, hb', hc, he]

set_option maxHeartbeats 2000000 in
theorem implMake (h v m d : Int) (w : World) :
    Calls Try.prog 38 #[.int .i64 h, .int .i64 v, .int .i64 m, .int .i64 d] w fun e w' => e = .returned (mkV h v m d) ∧ Below w.heap.size w w' := by
  have hb0 := (Below.refl w.heap.size w).alloc (Nat.le_refl _) (.cells #[.int .i64 0, .int .i64 0, .int .i64 0, .int .i64 0] 29)
  have HB0 := Lib.hid hb0
  clear hb0
  by_cases hd0 : d = 0
  · subst hd0
    have HV := Lib.hid (mkV_no (mkB_zero (h := h) (v := v) (m := m)))
    go_enter Try.func38, Try.ntmps38
    go_wp2_with fail
    refine bodyPost_ret (v := .tuple #[.agg #[.int .i64 0, .int .i64 0, .int .i64 0, .int .i64 0], .bool false]) (by simp [results, Try.results38, go_sem]) rfl ⟨by rw [HV.out], HB0.out⟩
  · have hd1 : (d == 0) = false := by simpa using hd0
    have HD := Lib.hid hd0
    clear hd0
    go_enter Try.func38, Try.ntmps38
    go_wp2_with fail
    go_loop [11, 22] (fun _ t => ∃ k : Nat, k ≤ 4 ∧ t = .int .i64 k ∧ ∀ j, j < k → inF ((four h v m d).getD j 0) = true) (fun _ t => 4 - (intOf t).toNat)
    case atStart => exact ⟨0, Nat.zero_le _, rfl, fun j hj => by omega⟩
    case round =>
      obtain ⟨k, hk, rfl, hall⟩ := hrel
      have HA := Lib.hid hall
      clear hall
      by_cases hlt : k < 4
      · have ik : ∀ w, (Instr.index 110 (.agg #[.int .i64 h, .int .i64 v, .int .i64 m, .int .i64 d]) (.int .i64 (k : Int))).run Try.prog w = .ok (.int .i64 ((four h v m d).getD k 0)) w := by
          match k, hlt with
          | 0, _ => exact fun _ => by kernel_rfl
          | 1, _ => exact fun _ => by kernel_rfl
          | 2, _ => exact fun _ => by kernel_rfl
          | 3, _ => exact fun _ => by kernel_rfl
        obtain ⟨n, hn⟩ : ∃ n, (four h v m d).getD k 0 = n := ⟨_, rfl⟩
        rw [hn] at ik
        have HN := Lib.hid hn
        clear hn
        cases hin : inF n
        · have HV := Lib.hid (mkV_no (mkB_out (inF_not (h := h) (v := v) (m := m) (d := d) hlt (by rw [HN.out]; exact hin))))
          go_wp2_with fail
          refine (isBetween_given _ _).mono ?_
          rintro e w1 ⟨rfl, rfl⟩
          rw [hin]
          go_wp2_with fail
          refine bodyPost_ret (v := .tuple #[.agg #[.int .i64 0, .int .i64 0, .int .i64 0, .int .i64 0], .bool false]) (by simp [results, Try.results38, go_sem]) rfl ⟨by rw [HV.out], HB0.out⟩
        · go_wp2_with fail
          refine (isBetween_given _ _).mono ?_
          rintro e w1 ⟨rfl, rfl⟩
          rw [hin]
          go_wp2_with fail
          go_round
          case rel => exact ⟨k + 1, by omega, by go_num, fun j hj => if e : j = k then by rw [e, HN.out]; exact hin else HA.out j (by omega)⟩
          case measure => simp [intOf]; omega
      · obtain rfl : k = 4 := by omega
        have hd0 := HD.out
        have hin := inF_all HA.out
        have HM := Lib.hid (mkB_in hd0 hin)
        have hg : gcd4 h v m d ≤ 4000000000000000000 := Nat.le_trans (gcd4_le hd0) (inF_abs (by simpa [four] using HA.out 3 (by omega)))
        have q0 := inF_abs (by simpa [four] using HA.out 0 (by omega) : inF h = true)
        have q1 := inF_abs (by simpa [four] using HA.out 1 (by omega) : inF v = true)
        have q2 := inF_abs (by simpa [four] using HA.out 2 (by omega) : inF m = true)
        have q3 := inF_abs (by simpa [four] using HA.out 3 (by omega) : inF d = true)
        have HQ := Lib.hid (And.intro q0 (And.intro q1 (And.intro q2 q3)))
        have ta := tdiv_bd h (sgn h v m d) (by simpa [four] using HA.out 0 (by omega))
        have tb := tdiv_bd v (sgn h v m d) (by simpa [four] using HA.out 1 (by omega))
        have tc := tdiv_bd m (sgn h v m d) (by simpa [four] using HA.out 2 (by omega))
        have te := tdiv_bd d (sgn h v m d) (by simpa [four] using HA.out 3 (by omega))
        have hs0 : ¬ sgn h v m d = 0 := sgn_ne hd0
        have HS : RowKit.Hid (sgn h v m d = if d < 0 then -((gcd4 h v m d : Nat) : Int) else ((gcd4 h v m d : Nat) : Int)) := Lib.hid rfl
        have HGV := Lib.hid (gTo_four h v m d)
        obtain ⟨s, hs⟩ : ∃ s, sgn h v m d = s := ⟨_, rfl⟩
        rw [hs] at ta tb tc te hs0 HS HM
        have HSS := Lib.hid hs
        obtain ⟨a, ha⟩ : ∃ a, h.tdiv s = a := ⟨_, rfl⟩
        obtain ⟨b, hb⟩ : ∃ a, v.tdiv s = a := ⟨_, rfl⟩
        obtain ⟨c, hc⟩ : ∃ a, m.tdiv s = a := ⟨_, rfl⟩
        obtain ⟨f, hf⟩ : ∃ a, d.tdiv s = a := ⟨_, rfl⟩
        rw [ha, hb, hc, hf] at HM
        rw [ha] at ta
        rw [hb] at tb
        rw [hc] at tc
        rw [hf] at te
        have wa : IntKind.i64.wrap a = a := IntWalk.i64_in _ (by omega)
        have wb : IntKind.i64.wrap b = b := IntWalk.i64_in _ (by omega)
        have wc : IntKind.i64.wrap c = c := IntWalk.i64_in _ (by omega)
        have wf : IntKind.i64.wrap f = f := IntWalk.i64_in _ (by omega)
        have HAA := Lib.hid (And.intro ha (And.intro hb (And.intro hc hf)))
        clear ta tb tc te q0 q1 q2 q3 hin hs HA hlt hk hd0
        go_wp2_with fail
        refine (implGcd [h, v, m, d] _ 4 _ _ rfl (by omega) ?_).mono ?_
        · obtain ⟨hh, hv, hm, hd⟩ := HQ.out
          intro k hk
          match k, hk with
          | 0, _ => exact ⟨by go_simp, by show h.natAbs ≤ _; omega⟩
          | 1, _ => exact ⟨by go_simp, by show v.natAbs ≤ _; omega⟩
          | 2, _ => exact ⟨by go_simp, by show m.natAbs ≤ _; omega⟩
          | 3, _ => exact ⟨by go_simp, by show d.natAbs ≤ _; omega⟩
        · rintro e w1 ⟨rfl, hb1⟩
          rw [HGV.out]
          have HB1 := Lib.hid ((HB0.out.alloc HB0.out.size (.cells #[.int .i64 h, .int .i64 v, .int .i64 m, .int .i64 d] 3)).trans (hb1.mono (by simp <;> omega)))
          have c0' : w1.cell? ⟨w.heap.size, 0, none⟩ = some (.int .i64 0) := tcell (by go_simp) hb1
          have c1' : w1.cell? ⟨w.heap.size, 1, none⟩ = some (.int .i64 0) := tcell (by go_simp) hb1
          have c2' : w1.cell? ⟨w.heap.size, 2, none⟩ = some (.int .i64 0) := tcell (by go_simp) hb1
          have c3' : w1.cell? ⟨w.heap.size, 3, none⟩ = some (.int .i64 0) := tcell (by go_simp) hb1
          have fz : ∀ o, w1.frozen? ⟨w.heap.size, o, none⟩ = false := fun o => ((hb1.frozen (p := ⟨w.heap.size, o, none⟩) (by simp <;> omega)).trans (by go_simp))
          generalize gcd4 h v m d = g at *
          clear hb1 HGV HQ
          by_cases hneg : d < 0
          · have hsn : IntKind.i64.wrap (-(g : Int)) = s := by rw [HS.out, if_pos hneg]; exact IntWalk.i64_in _ (by omega)
            clear HS
            go_wp2_with fail
            go_region
            have HBZ := Lib.hid (HB1.out.alloc HB1.out.size (.cells #[.int .i64 a, .int .i64 b, .int .i64 c, .int .i64 f] 29))
            go_wp2_with fail
            refine (isValidT _ _ _ _ _).mono ?_
            rintro e w2 ⟨rfl, hb2⟩
            have c0 : w2.cell? ⟨w.heap.size, 0, none⟩ = some (.int .i64 0) := tcellD (tcell c0' ((Below.refl _ _).alloc (Nat.le_refl _) _)) hb2
            have c1 : w2.cell? ⟨w.heap.size, 1, none⟩ = some (.int .i64 0) := tcellD (tcell c1' ((Below.refl _ _).alloc (Nat.le_refl _) _)) hb2
            have c2 : w2.cell? ⟨w.heap.size, 2, none⟩ = some (.int .i64 0) := tcellD (tcell c2' ((Below.refl _ _).alloc (Nat.le_refl _) _)) hb2
            have c3 : w2.cell? ⟨w.heap.size, 3, none⟩ = some (.int .i64 0) := tcellD (tcell c3' ((Below.refl _ _).alloc (Nat.le_refl _) _)) hb2
            have e0 : w2.cell? ⟨w1.heap.size, 0, none⟩ = some (.int .i64 a) := tcellD (by go_simp) hb2
            have e1 : w2.cell? ⟨w1.heap.size, 1, none⟩ = some (.int .i64 b) := tcellD (by go_simp) hb2
            have e2 : w2.cell? ⟨w1.heap.size, 2, none⟩ = some (.int .i64 c) := tcellD (by go_simp) hb2
            have e3 : w2.cell? ⟨w1.heap.size, 3, none⟩ = some (.int .i64 f) := tcellD (by go_simp) hb2
            have fz2 : ∀ o, w2.frozen? ⟨w.heap.size, o, none⟩ = false := fun o => (hb2.frozen (p := ⟨w.heap.size, o, none⟩) (show w.heap.size < (w1.alloc _).heap.size by have := cell_block_lt c0'; simp; simp at this; omega)).trans ((((Below.refl w1.heap.size w1).alloc (Nat.le_refl _) _).frozen (p := ⟨w.heap.size, o, none⟩) (show w.heap.size < w1.heap.size from cell_block_lt c0')).trans (fz o))
            have HB2 := Lib.hid ((tbelowD HBZ.out).trans (hb2.mono (tbelowD HBZ.out).size))
            clear hb2 fz c0' c1' c2' c3'
            cases hok : okT a b c f
            · have HV := Lib.hid (mkV_no (HM.out.trans hok))
              go_wp2_with fail
              refine World.any (p := fun W => bodyPost _ _ _ _ _ W) (fun Z hW => ?_)
              have z0 : Z.cell? ⟨w.heap.size, 0, none⟩ = some (.int .i64 0) := by subst hW; go_simp
              have z1 : Z.cell? ⟨w.heap.size, 1, none⟩ = some (.int .i64 0) := by subst hW; go_simp
              have z2 : Z.cell? ⟨w.heap.size, 2, none⟩ = some (.int .i64 0) := by subst hW; go_simp
              have z3 : Z.cell? ⟨w.heap.size, 3, none⟩ = some (.int .i64 0) := by subst hW; go_simp
              have HBW : Below w.heap.size w Z := by
                subst hW
                repeat refine Below.setCell ?_ (by simp) _
                exact HB2.out
              refine bodyPost_ret (v := .tuple #[.agg #[.int .i64 0, .int .i64 0, .int .i64 0, .int .i64 0], .bool false]) (by simp [results, Try.results38, go_sem, z0, z1, z2, z3]) rfl ⟨by rw [HV.out], HBW⟩
            · have HV := Lib.hid (mkV_yes (HM.out.trans hok) HSS.out HAA.out.1 HAA.out.2.1 HAA.out.2.2.1 HAA.out.2.2.2)
              go_wp2_with fail
              refine World.any (p := fun W => bodyPost _ _ _ _ _ W) (fun Z hW => ?_)
              have z0 : Z.cell? ⟨w.heap.size, 0, none⟩ = some (.int .i64 a) := by subst hW; go_simp
              have z1 : Z.cell? ⟨w.heap.size, 1, none⟩ = some (.int .i64 b) := by subst hW; go_simp
              have z2 : Z.cell? ⟨w.heap.size, 2, none⟩ = some (.int .i64 c) := by subst hW; go_simp
              have z3 : Z.cell? ⟨w.heap.size, 3, none⟩ = some (.int .i64 f) := by subst hW; go_simp
              have HBW : Below w.heap.size w Z := by
                subst hW
                repeat refine Below.setCell ?_ (by simp) _
                exact HB2.out
              refine bodyPost_ret (v := .tuple #[.agg #[.int .i64 a, .int .i64 b, .int .i64 c, .int .i64 f], .bool true]) (by simp [results, Try.results38, go_sem, z0, z1, z2, z3]) rfl ⟨by rw [HV.out], HBW⟩
          · have hsn : (g : Int) = s := by rw [HS.out, if_neg hneg]
            rw [hsn]
            clear HS
            go_wp2_with fail
            go_region
            have HBZ := Lib.hid (HB1.out.alloc HB1.out.size (.cells #[.int .i64 a, .int .i64 b, .int .i64 c, .int .i64 f] 29))
            go_wp2_with fail
            refine (isValidT _ _ _ _ _).mono ?_
            rintro e w2 ⟨rfl, hb2⟩
            have c0 : w2.cell? ⟨w.heap.size, 0, none⟩ = some (.int .i64 0) := tcellD (tcell c0' ((Below.refl _ _).alloc (Nat.le_refl _) _)) hb2
            have c1 : w2.cell? ⟨w.heap.size, 1, none⟩ = some (.int .i64 0) := tcellD (tcell c1' ((Below.refl _ _).alloc (Nat.le_refl _) _)) hb2
            have c2 : w2.cell? ⟨w.heap.size, 2, none⟩ = some (.int .i64 0) := tcellD (tcell c2' ((Below.refl _ _).alloc (Nat.le_refl _) _)) hb2
            have c3 : w2.cell? ⟨w.heap.size, 3, none⟩ = some (.int .i64 0) := tcellD (tcell c3' ((Below.refl _ _).alloc (Nat.le_refl _) _)) hb2
            have e0 : w2.cell? ⟨w1.heap.size, 0, none⟩ = some (.int .i64 a) := tcellD (by go_simp) hb2
            have e1 : w2.cell? ⟨w1.heap.size, 1, none⟩ = some (.int .i64 b) := tcellD (by go_simp) hb2
            have e2 : w2.cell? ⟨w1.heap.size, 2, none⟩ = some (.int .i64 c) := tcellD (by go_simp) hb2
            have e3 : w2.cell? ⟨w1.heap.size, 3, none⟩ = some (.int .i64 f) := tcellD (by go_simp) hb2
            have fz2 : ∀ o, w2.frozen? ⟨w.heap.size, o, none⟩ = false := fun o => (hb2.frozen (p := ⟨w.heap.size, o, none⟩) (show w.heap.size < (w1.alloc _).heap.size by have := cell_block_lt c0'; simp; simp at this; omega)).trans ((((Below.refl w1.heap.size w1).alloc (Nat.le_refl _) _).frozen (p := ⟨w.heap.size, o, none⟩) (show w.heap.size < w1.heap.size from cell_block_lt c0')).trans (fz o))
            have HB2 := Lib.hid ((tbelowD HBZ.out).trans (hb2.mono (tbelowD HBZ.out).size))
            clear hb2 fz c0' c1' c2' c3'
            cases hok : okT a b c f
            · have HV := Lib.hid (mkV_no (HM.out.trans hok))
              go_wp2_with fail
              refine World.any (p := fun W => bodyPost _ _ _ _ _ W) (fun Z hW => ?_)
              have z0 : Z.cell? ⟨w.heap.size, 0, none⟩ = some (.int .i64 0) := by subst hW; go_simp
              have z1 : Z.cell? ⟨w.heap.size, 1, none⟩ = some (.int .i64 0) := by subst hW; go_simp
              have z2 : Z.cell? ⟨w.heap.size, 2, none⟩ = some (.int .i64 0) := by subst hW; go_simp
              have z3 : Z.cell? ⟨w.heap.size, 3, none⟩ = some (.int .i64 0) := by subst hW; go_simp
              have HBW : Below w.heap.size w Z := by
                subst hW
                repeat refine Below.setCell ?_ (by simp) _
                exact HB2.out
              refine bodyPost_ret (v := .tuple #[.agg #[.int .i64 0, .int .i64 0, .int .i64 0, .int .i64 0], .bool false]) (by simp [results, Try.results38, go_sem, z0, z1, z2, z3]) rfl ⟨by rw [HV.out], HBW⟩
            · have HV := Lib.hid (mkV_yes (HM.out.trans hok) HSS.out HAA.out.1 HAA.out.2.1 HAA.out.2.2.1 HAA.out.2.2.2)
              go_wp2_with fail
              refine World.any (p := fun W => bodyPost _ _ _ _ _ W) (fun Z hW => ?_)
              have z0 : Z.cell? ⟨w.heap.size, 0, none⟩ = some (.int .i64 a) := by subst hW; go_simp
              have z1 : Z.cell? ⟨w.heap.size, 1, none⟩ = some (.int .i64 b) := by subst hW; go_simp
              have z2 : Z.cell? ⟨w.heap.size, 2, none⟩ = some (.int .i64 c) := by subst hW; go_simp
              have z3 : Z.cell? ⟨w.heap.size, 3, none⟩ = some (.int .i64 f) := by subst hW; go_simp
              have HBW : Below w.heap.size w Z := by
                subst hW
                repeat refine Below.setCell ?_ (by simp) _
                exact HB2.out
              refine bodyPost_ret (v := .tuple #[.agg #[.int .i64 a, .int .i64 b, .int .i64 c, .int .i64 f], .bool true]) (by simp [results, Try.results38, go_sem, z0, z1, z2, z3]) rfl ⟨by rw [HV.out], HBW⟩

theorem cmp_prod {h v m d h' v' m' d' : Int} (ha : okT h v m d = true) (hb : okT h' v' m' d' = true) : -1000000000000000000 ≤ h * d' ∧ h * d' ≤ 1000000000000000000 := by
  have a := okT_iff.1 ha
  have b := okT_iff.1 hb
  have := mulT_bd (x := h) (y := d') 1000000000000 1000000 (by omega) (by omega)
  omega
theorem mixT_yes {h v m d : Int} (ht : mixT h v m d = true) : okT h v m d = true ∧ d ≤ 1000 := by
  unfold mixT at ht; simp at ht; exact ht
theorem mixT_both {ah av am ad bh bv bm bd : Int} (ha : mixT ah av am ad = true) (hb : mixT bh bv bm bd = true) : mxOk ah av am ad bh bv bm bd = true := by
  unfold mxOk; rw [show (okT ah av am ad && decide (ad ≤ 1000)) = true from ha, show (okT bh bv bm bd && decide (bd ≤ 1000)) = true from hb]; rfl
theorem mixT_a {ah av am ad bh bv bm bd : Int} (ha : mixT ah av am ad = false) : mxOk ah av am ad bh bv bm bd = false := by
  unfold mxOk; rw [show (okT ah av am ad && decide (ad ≤ 1000)) = false from ha]; rfl
theorem mixT_b {ah av am ad bh bv bm bd : Int} (hb : mixT bh bv bm bd = false) : mxOk ah av am ad bh bv bm bd = false := by
  unfold mxOk; rw [show (okT bh bv bm bd && decide (bd ≤ 1000)) = false from hb]; simp
/-- What MixThrusts answers, as a value. -/
def mxV (ah av am ad bh bv bm bd : Int) : Value := if mxOk ah av am ad bh bv bm bd then mkV (mxH ah ad bh bd) (mxH av ad bv bd) (mxH am ad bm bd) (mxD ad bd) else .tuple #[.agg #[.int .i64 0, .int .i64 0, .int .i64 0, .int .i64 0], .bool false]
theorem mxV_no {ah av am ad bh bv bm bd : Int} (h : mxOk ah av am ad bh bv bm bd = false) : mxV ah av am ad bh bv bm bd = .tuple #[.agg #[.int .i64 0, .int .i64 0, .int .i64 0, .int .i64 0], .bool false] := by unfold mxV; rw [h]; rfl
theorem mxV_yes {ah av am ad bh bv bm bd : Int} (h : mxOk ah av am ad bh bv bm bd = true) : mxV ah av am ad bh bv bm bd = mkV (mxH ah ad bh bd) (mxH av ad bv bd) (mxH am ad bm bd) (mxD ad bd) := by unfold mxV; rw [h]; rfl
theorem mkV_any (h v m d : Int) : ∃ (a b c e : Int) (t : Bool), mkV h v m d = .tuple #[.agg #[.int .i64 a, .int .i64 b, .int .i64 c, .int .i64 e], .bool t] := ⟨_, _, _, _, _, rfl⟩
theorem mxV_any (ah av am ad bh bv bm bd : Int) : ∃ (a b c e : Int) (t : Bool), mxV ah av am ad bh bv bm bd = .tuple #[.agg #[.int .i64 a, .int .i64 b, .int .i64 c, .int .i64 e], .bool t] := by
  cases h : mxOk ah av am ad bh bv bm bd
  · exact ⟨_, _, _, _, _, mxV_no h⟩
  · exact ⟨_, _, _, _, _, mxV_yes h⟩
/-- Two products of a mixture and their sum. -/
theorem mix_prod {x y p q : Int} (hx : -10000000000000 ≤ x ∧ x ≤ 10000000000000) (hy : -10000000000000 ≤ y ∧ y ≤ 10000000000000) (hp : 1 ≤ p ∧ p ≤ 1000) (hq : 1 ≤ q ∧ q ≤ 1000) :
    (-10000000000000000 ≤ x * q ∧ x * q ≤ 10000000000000000) ∧ (-10000000000000000 ≤ y * p ∧ y * p ≤ 10000000000000000) := by
  have := mulT_bd (x := x) (y := q) 10000000000000 1000 (by omega) (by omega)
  have := mulT_bd (x := y) (y := p) 10000000000000 1000 (by omega) (by omega)
  omega


end Go.Proofs.Ytibcalpkmjjilaa
