/- Thrusts: the struct as it comes in; ThrustOk of the program and of the model. -/
import Derived.Test.YtidmhpeaehmmhaaDoorThrustG
import Derived.Deep.RegionWith
namespace Go.Proofs.YtidmhpeaehmmhaaDoor
set_option maxRecDepth 100000
open Go.ChangeShapes Go.WideShapes Go.ChangeAt Go.RowKit

/-- A thrust, as a value. -/
abbrev tv (h v m d : Int) : Value := .agg #[.int .i64 h, .int .i64 v, .int .i64 m, .int .i64 d]
theorem array4T {α : Type} {cs : Array α} (h : cs.size = 4) : ∃ a b c d, cs = #[a, b, c, d] := by
  obtain ⟨l⟩ := cs
  match l, h with
  | [a, b, c, d], _ => exact ⟨a, b, c, d, rfl⟩

/-- A struct of four fields, field by field. -/
theorem four_fields {H : Type} {enc : TypeId × Value → H} {P : Program} {w : World} {base fuel : Nat} {spare : Nat → Bool} {held : Bool} {t : TypeId} {f0 f1 f2 f3 : Field} {cs : List Value} {x : DataW H × List MemPlace}
    (ht : P.underlying t = some (.struct #[f0, f1, f2, f3])) (h : DataW.trod enc P w base spare held fuel t cs = some x) :
    ∃ y0 y1 y2 y3 n, DataW.trod enc P w base spare held n f0.type ((cs.drop f0.offset).take (P.cellsOf f0.type)) = some y0 ∧ DataW.trod enc P w base spare held n f1.type ((cs.drop f1.offset).take (P.cellsOf f1.type)) = some y1 ∧
      DataW.trod enc P w base spare held n f2.type ((cs.drop f2.offset).take (P.cellsOf f2.type)) = some y2 ∧ DataW.trod enc P w base spare held n f3.type ((cs.drop f3.offset).take (P.cellsOf f3.type)) = some y3 := by
  obtain ⟨xs, n, -, -, -, hlen, hg⟩ := DataW.trod_struct ht h
  match xs, hlen with
  | [y0, y1, y2, y3], _ => exact ⟨y0, y1, y2, y3, n, by simpa using hg 0 f0 rfl, by simpa using hg 1 f1 rfl, by simpa using hg 2 f2 rfl, by simpa using hg 3 f3 rfl⟩

theorem okT_d {h v m d : Int} (hd : inR d 1 1000000 = false) : okT h v m d = false := by unfold okT; rw [hd]; rfl
theorem okT_h {h v m d : Int} (hh : inR h 0 1000000000000 = false) : okT h v m d = false := by unfold okT; rw [hh]; simp
theorem okT_v {h v m d : Int} (hv : inR v (-10000000000000) 10000000000000 = false) : okT h v m d = false := by unfold okT; rw [hv]; simp
theorem okT_m {h v m d : Int} (hm : inR m (-10000000000000) 10000000000000 = false) : okT h v m d = false := by unfold okT; rw [hm]; simp
theorem okT_yes {h v m d : Int} (hd : inR d 1 1000000 = true) (hh : inR h 0 1000000000000 = true) (hv : inR v (-10000000000000) 10000000000000 = true) (hm : inR m (-10000000000000) 10000000000000 = true) :
    okT h v m d = decide (((gcd4 h v m d : Nat) : Int) = 1) := by
  unfold okT; rw [hd, hh, hv, hm, Bool.eq_iff_iff]; simp <;> omega

theorem isBetween_den (n : Int) (w : World) : Calls Tryd.prog 18 #[.int .i64 n, .int .i64 1, .int .i64 1000000] w fun e w' => e = .returned (.bool (inR n 1 1000000)) ∧ w = w' := isBetweenR n 1 1000000 w (by omega)
theorem isBetween_force (n : Int) (w : World) : Calls Tryd.prog 18 #[.int .i64 n, .int .i64 0, .int .i64 1000000000000] w fun e w' => e = .returned (.bool (inR n 0 1000000000000)) ∧ w = w' := isBetweenR n _ _ w (by omega)
theorem isBetween_turn (n : Int) (w : World) : Calls Tryd.prog 18 #[.int .i64 n, .int .i64 (-10000000000000), .int .i64 10000000000000] w fun e w' => e = .returned (.bool (inR n (-10000000000000) 10000000000000)) ∧ w = w' := isBetweenR n _ _ w (by omega)


theorem gcd_bd (a b : Int) (ha : a.natAbs ≤ 9223372036854775807) (hb : b.natAbs ≤ 9223372036854775807) : Nat.gcd a.natAbs b.natAbs ≤ 9223372036854775807 := by
  by_cases h0 : b.natAbs = 0
  · rw [h0, Nat.gcd_zero_right]; exact ha
  · exact Nat.le_trans (Nat.le_of_dvd (by omega) (Nat.gcd_dvd_right _ _)) hb
theorem inR_abs {n a b : Int} (h : inR n a b = true) (ha : -9223372036854775807 ≤ a) (hb : b ≤ 9223372036854775807) : n.natAbs ≤ 9223372036854775807 := by
  have := inR_iff.1 h
  omega


theorem l01In_den (n : Int) (w : World) : Calls Tryd.prog 34 #[.int .i64 n, .int .i64 1, .int .i64 1000000] w fun e w' => e = .returned (.bool (inR n 1 1000000)) ∧ w = w' := l01InR n _ _ w
theorem l01In_force (n : Int) (w : World) : Calls Tryd.prog 34 #[.int .i64 n, .int .i64 0, .int .i64 1000000000000] w fun e w' => e = .returned (.bool (inR n 0 1000000000000)) ∧ w = w' := l01InR n _ _ w
theorem l01In_turn (n : Int) (w : World) : Calls Tryd.prog 34 #[.int .i64 n, .int .i64 (-10000000000000), .int .i64 10000000000000] w fun e w' => e = .returned (.bool (inR n (-10000000000000) 10000000000000)) ∧ w = w' := l01InR n _ _ w

set_option maxHeartbeats 1000000 in
theorem specThrustOk (h v m d : Int) (w : World) :
    Calls Tryd.prog 20 #[.agg #[.int .i64 h, .int .i64 v, .int .i64 m, .int .i64 d]] w fun e w' => e = .returned (.bool (okT h v m d)) ∧ Below w.heap.size w w' := by
  have hb0 := (Below.refl w.heap.size w).alloc (Nat.le_refl _) (.cells #[.int .i64 h, .int .i64 v, .int .i64 m, .int .i64 d] 31)
  have HB0 := Lib.hid hb0
  clear hb0
  cases hd : inR d 1 1000000
  · go_enter Tryd.func20, Tryd.ntmps20
    go_wp2_with fail
    refine (l01In_den _ _).mono ?_
    rintro e w1 ⟨rfl, rfl⟩
    rw [hd]
    go_wp2_with fail
    go_ret
    exact ⟨ret_bool (okT_d hd).symm, HB0.out⟩
  cases hh : inR h 0 1000000000000
  · go_enter Tryd.func20, Tryd.ntmps20
    go_wp2_with fail
    refine (l01In_den _ _).mono ?_
    rintro e w1 ⟨rfl, rfl⟩
    rw [hd]
    go_wp2_with fail
    refine (l01In_force _ _).mono ?_
    rintro e w1 ⟨rfl, rfl⟩
    rw [hh]
    go_wp2_with fail
    go_ret
    exact ⟨ret_bool (okT_h hh).symm, HB0.out⟩
  cases hv : inR v (-10000000000000) 10000000000000
  · go_enter Tryd.func20, Tryd.ntmps20
    go_wp2_with fail
    refine (l01In_den _ _).mono ?_
    rintro e w1 ⟨rfl, rfl⟩
    rw [hd]
    go_wp2_with fail
    refine (l01In_force _ _).mono ?_
    rintro e w1 ⟨rfl, rfl⟩
    rw [hh]
    go_wp2_with fail
    refine (l01In_turn _ _).mono ?_
    rintro e w1 ⟨rfl, rfl⟩
    rw [hv]
    go_wp2_with fail
    go_ret
    exact ⟨ret_bool (okT_v hv).symm, HB0.out⟩
  cases hm : inR m (-10000000000000) 10000000000000
  · go_enter Tryd.func20, Tryd.ntmps20
    go_wp2_with fail
    refine (l01In_den _ _).mono ?_
    rintro e w1 ⟨rfl, rfl⟩
    rw [hd]
    go_wp2_with fail
    refine (l01In_force _ _).mono ?_
    rintro e w1 ⟨rfl, rfl⟩
    rw [hh]
    go_wp2_with fail
    refine (l01In_turn _ _).mono ?_
    rintro e w1 ⟨rfl, rfl⟩
    rw [hv]
    go_wp2_with fail
    refine (l01In_turn _ _).mono ?_
    rintro e w1 ⟨rfl, rfl⟩
    rw [hm]
    go_wp2_with fail
    go_ret
    exact ⟨ret_bool (okT_m hm).symm, HB0.out⟩
  · have HV := Lib.hid (okT_yes hd hh hv hm)
    obtain ⟨a, ha, HA⟩ : ∃ a : Int, a.natAbs ≤ 9223372036854775807 ∧ RowKit.Hid (a.natAbs = Nat.gcd h.natAbs v.natAbs ∧ ∀ w, Calls Tryd.prog 35 #[.int .i64 h, .int .i64 v] w fun e w' => e = .returned (.int .i64 a) ∧ Below w.heap.size w w') :=
      ⟨_, (by have := gcd_bd h v (inR_abs hh (by omega) (by omega)) (inR_abs hv (by omega) (by omega)); omega), Lib.hid ⟨by omega, fun w => specGcd h v w (inR_abs hh (by omega) (by omega)) (inR_abs hv (by omega) (by omega))⟩⟩
    obtain ⟨b, hb, HB⟩ : ∃ a : Int, a.natAbs ≤ 9223372036854775807 ∧ RowKit.Hid (a.natAbs = Nat.gcd m.natAbs d.natAbs ∧ ∀ w, Calls Tryd.prog 35 #[.int .i64 m, .int .i64 d] w fun e w' => e = .returned (.int .i64 a) ∧ Below w.heap.size w w') :=
      ⟨_, (by have := gcd_bd m d (inR_abs hm (by omega) (by omega)) (inR_abs hd (by omega) (by omega)); omega), Lib.hid ⟨by omega, fun w => specGcd m d w (inR_abs hm (by omega) (by omega)) (inR_abs hd (by omega) (by omega))⟩⟩
    obtain ⟨c, hc, HC⟩ : ∃ c : Int, RowKit.Hid (c = ((gcd4 h v m d : Nat) : Int)) ∧ RowKit.Hid (∀ w, Calls Tryd.prog 35 #[.int .i64 a, .int .i64 b] w fun e w' => e = .returned (.int .i64 c) ∧ Below w.heap.size w w') :=
      ⟨_, Lib.hid (by rw [HA.out.1, HB.out.1]; rfl), Lib.hid (fun w => specGcd a b w ha hb)⟩
    clear ha hb
    go_enter Tryd.func20, Tryd.ntmps20
    go_wp2_with fail
    refine (l01In_den _ _).mono ?_
    rintro e w1 ⟨rfl, rfl⟩
    rw [hd]
    go_wp2_with fail
    refine (l01In_force _ _).mono ?_
    rintro e w1 ⟨rfl, rfl⟩
    rw [hh]
    go_wp2_with fail
    refine (l01In_turn _ _).mono ?_
    rintro e w1 ⟨rfl, rfl⟩
    rw [hv]
    go_wp2_with fail
    refine (l01In_turn _ _).mono ?_
    rintro e w1 ⟨rfl, rfl⟩
    rw [hm]
    clear hd hh hv hm
    go_wp2_with fail
    generalize hW : w.alloc (.cells #[.int .i64 h, .int .i64 v, .int .i64 m, .int .i64 d] 31) = W at *
    have hn1 := Since.nonempty W
    have hw1 : w.heap.size < W.heap.size := by subst hW; simp
    have s0 := fun (x : Since W) => (x.cell w.heap.size 0 hw1).trans (show _ = some (.int .i64 h) by subst hW; go_simp)
    have s1 := fun (x : Since W) => (x.cell w.heap.size 1 hw1).trans (show _ = some (.int .i64 v) by subst hW; go_simp)
    have s2 := fun (x : Since W) => (x.cell w.heap.size 2 hw1).trans (show _ = some (.int .i64 m) by subst hW; go_simp)
    have s3 := fun (x : Since W) => (x.cell w.heap.size 3 hw1).trans (show _ = some (.int .i64 d) by subst hW; go_simp)
    clear hW
    refine wp_region_since (by kernel_rfl) (by kernel_rfl) ?_
    repeat (go_big_quiet_step (first
      | (go_at_call_of 35 (Value.int .i64 h); exact Since.call (HA.out.2 _))
      | (go_at_call_of 35 (Value.int .i64 m); exact Since.call (HB.out.2 _))
      | (go_at_call_of 35 (Value.int .i64 a); exact Since.call (HC.out _))))
    refine wpQuiet_nil ?_
    rintro w2 ⟨⟨_, hb2⟩, rfl⟩
    go_wp2_with fail
    go_ret
    exact ⟨ret_bool (by rw [HV.out, ← hc.out]; rfl), HB0.out.trans (hb2.mono HB0.out.size)⟩
end Go.Proofs.YtidmhpeaehmmhaaDoor
