/- Conditions, one by one: the contracts of RowOk and Fulfills of the program and of the model, and of what they call. -/
import Derived.Test.YtidmhpeaehmmhaaDoorCondP
import Derived.Test.YtidmhpeaehmmhaaDoorThrustC
import Derived.Deep.RegionWith
namespace Go.Proofs.YtidmhpeaehmmhaaDoor
set_option maxRecDepth 100000
open Go.ChangeShapes Go.WideShapes Go.ChangeAt Go.RowKit

/-- A condition's numbers by number; the limits of their range. -/
def cdL (a b c d : Int) : List Int := [a, b, c, d]
def cdM : List Int := [100, 100, 1, 1000000000]
theorem cdL_all {a b c d : Int} (h : ∀ j, j < 4 → inR ((cdL a b c d).getD j 0) (-(cdM.getD j 0)) (cdM.getD j 0) = true) : cdOk a b c d = true := by
  have h0 := h 0 (by omega)
  have h1 := h 1 (by omega)
  have h2 := h 2 (by omega)
  have h3 := h 3 (by omega)
  simp [cdL, cdM] at h0 h1 h2 h3
  unfold cdOk; rw [h0, h1, h2, h3]; rfl
theorem cdL_not {a b c d : Int} {j : Nat} (hj : j < 4) (h : inR ((cdL a b c d).getD j 0) (-(cdM.getD j 0)) (cdM.getD j 0) = false) : cdOk a b c d = false := by
  match j, hj with
  | 0, _ => simp [cdL, cdM] at h; exact cdOk_a h
  | 1, _ => simp [cdL, cdM] at h; exact cdOk_b h
  | 2, _ => simp [cdL, cdM] at h; exact cdOk_c h
  | 3, _ => simp [cdL, cdM] at h; exact cdOk_d h
theorem cdM_bd (j : Nat) : 0 ≤ cdM.getD j 0 ∧ cdM.getD j 0 ≤ 1000000000 := by
  match j with
  | 0 => decide
  | 1 => decide
  | 2 => decide
  | 3 => decide
  | n + 4 => simp [cdM]
theorem index4 (a b c d : Int) (k : Nat) (hk : k < 4) : ∀ w, (Instr.index 51 (.agg #[.int .i64 a, .int .i64 b, .int .i64 c, .int .i64 d]) (.int .i64 (k : Int))).run Tryd.prog w = .ok (.int .i64 ((cdL a b c d).getD k 0)) w := by
  match k, hk with
  | 0, _ => exact fun _ => by kernel_rfl
  | 1, _ => exact fun _ => by kernel_rfl
  | 2, _ => exact fun _ => by kernel_rfl
  | 3, _ => exact fun _ => by kernel_rfl

set_option maxHeartbeats 1000000 in
theorem rowNumbers (a b c d : Int) (w : World) :
    Calls Tryd.prog 32 #[.agg #[.int .i64 a, .int .i64 b, .int .i64 c, .int .i64 d]] w fun e w' => e = .returned (.agg #[.int .i64 a, .int .i64 b, .int .i64 c, .int .i64 d]) ∧ Below w.heap.size w w' := by
  go_enter Tryd.func32, Tryd.ntmps32
  go_wp2_with fail
  refine bodyPost_ret (v := .agg #[.int .i64 a, .int .i64 b, .int .i64 c, .int .i64 d]) (by simp [results, Tryd.results32, go_sem]) rfl ⟨rfl, ?_⟩
  repeat (first | refine Below.setCell ?_ (by simp <;> omega) _ | refine Below.alloc ?_ (by simp <;> omega) _ | exact Below.refl _ _)

set_option maxHeartbeats 2000000 in
/-- isValid: number by number against the limits. -/
theorem rowValid (a b c d : Int) (w : World) :
    Calls Tryd.prog 41 #[.agg #[.int .i64 a, .int .i64 b, .int .i64 c, .int .i64 d]] w fun e w' => e = .returned (.bool (cdOk a b c d)) ∧ Below w.heap.size w w' := by
  have hb0 := ((Below.refl w.heap.size w).alloc (Nat.le_refl _) (.cells #[.int .i64 a, .int .i64 b, .int .i64 c, .int .i64 d] 41)).alloc (by simp) (.cells #[.int .i64 100, .int .i64 100, .int .i64 1, .int .i64 1000000000] 51)
  have HB0 := Lib.hid hb0
  clear hb0
  go_enter Tryd.func41, Tryd.ntmps41
  go_wp2_with fail
  refine (rowNumbers _ _ _ _ _).mono ?_
  rintro e w1 ⟨rfl, hb1⟩
  have l0 : w1.cell? ⟨w.heap.size + 1, 0, none⟩ = some (.int .i64 100) := tcell (by go_simp) hb1
  have l1 : w1.cell? ⟨w.heap.size + 1, 1, none⟩ = some (.int .i64 100) := tcell (by go_simp) hb1
  have l2 : w1.cell? ⟨w.heap.size + 1, 2, none⟩ = some (.int .i64 1) := tcell (by go_simp) hb1
  have l3 : w1.cell? ⟨w.heap.size + 1, 3, none⟩ = some (.int .i64 1000000000) := tcell (by go_simp) hb1
  have hlim : ∀ k, k < 4 → w1.cell? ⟨w.heap.size + 1, k, none⟩ = some (.int .i64 (cdM.getD k 0)) := by
    intro k hk
    match k, hk with
    | 0, _ => exact l0
    | 1, _ => exact l1
    | 2, _ => exact l2
    | 3, _ => exact l3
  clear l0 l1 l2 l3
  have HL := Lib.hid hlim
  have HB1 := Lib.hid (HB0.out.trans (hb1.mono HB0.out.size))
  clear hb1 HB0 hlim
  go_wp2_with fail
  go_loopw [4, 5, 9] (fun _ _ t wr => ∃ k : Nat, k ≤ 4 ∧ t = .int .i64 k ∧ (∀ j, j < k → inR ((cdL a b c d).getD j 0) (-(cdM.getD j 0)) (cdM.getD j 0) = true) ∧ Below w1.heap.size w1 wr) (fun _ _ t _ => 4 - (intOf t).toNat)
  case atStart => exact ⟨0, Nat.zero_le _, rfl, fun j hj => by omega, Below.refl _ _⟩
  case round =>
    obtain ⟨k, hk, rfl, hall, hbw⟩ := hrel
    have HA := Lib.hid hall
    have HBW := Lib.hid (HB1.out.trans (hbw.mono HB1.out.size))
    have HB2 := Lib.hid hbw
    clear hall
    by_cases hlt : k < 4
    · have ik := index4 a b c d k hlt
      have hc := tcell (HL.out k hlt) hbw
      have hbd := cdM_bd k
      have HN := Lib.hid (fun h => cdL_not (a := a) (b := b) (c := c) (d := d) (j := k) hlt h)
      have HY := Lib.hid (fun (h : inR ((cdL a b c d).getD k 0) (-(cdM.getD k 0)) (cdM.getD k 0) = true) => fun j (hj : j < k + 1) => if e : j = k then by rw [e]; exact h else HA.out j (by omega))
      obtain ⟨n, hn⟩ : ∃ n, (cdL a b c d).getD k 0 = n := ⟨_, rfl⟩
      obtain ⟨l, hl⟩ : ∃ l, cdM.getD k 0 = l := ⟨_, rfl⟩
      rw [hn] at ik HN HY
      rw [hl] at hc hbd HN HY
      have hwl : IntKind.i64.wrap (-l) = -l := IntWalk.i64_in _ (by omega)
      have HC := Lib.hid (fun w => isBetweenR n (-l) l w (by omega))
      clear hn hl hbd hbw HA
      cases hin : inR n (-l) l
      · have HV := Lib.hid (HN.out hin)
        go_wp2_with fail
        have hn1 := Since.nonempty wr
        have s0 := fun (x : Since wr) => (x.cell (w.heap.size + 1) k (cell_block_lt hc)).trans hc
        refine wp_region_since (by kernel_rfl) (by kernel_rfl) ?_
        repeat (go_big_quiet_step (first
          | (go_at_call 18; exact Since.call_same (HC.out _))))
        refine wpQuiet_nil ?_
        rintro w2 ⟨⟨_, hb2⟩, rfl⟩
        rw [hin]
        go_wp2_with fail
        go_ret
        exact ⟨ret_bool HV.out.symm, HBW.out.trans (hb2.mono HBW.out.size)⟩
      · go_wp2_with fail
        have hn1 := Since.nonempty wr
        have s0 := fun (x : Since wr) => (x.cell (w.heap.size + 1) k (cell_block_lt hc)).trans hc
        refine wp_region_since (by kernel_rfl) (by kernel_rfl) ?_
        repeat (go_big_quiet_step (first
          | (go_at_call 18; exact Since.call_same (HC.out _))))
        refine wpQuiet_nil ?_
        rintro w2 ⟨⟨_, hb2⟩, rfl⟩
        rw [hin]
        go_wp2_with fail
        go_roundw
        case rel => exact ⟨k + 1, by omega, by go_num, HY.out hin, HB2.out.trans (hb2.mono HB2.out.size)⟩
        case measure => simp [intOf]; omega
    · obtain rfl : k = 4 := by omega
      have HV := Lib.hid (cdL_all HA.out)
      go_wp2_with fail
      go_ret
      exact ⟨ret_bool HV.out.symm, HBW.out⟩

/-- The first k products of a condition's numbers with a thrust's. -/
def exTo (ns fs : List Int) : Nat → Int
  | 0 => 0
  | k + 1 => exTo ns fs k + ns.getD k 0 * fs.getD k 0
theorem exTo_four (h v m d a b c e : Int) : exTo (cdL a b c e) [h, v, m, -d] 4 = cdX h v m d a b c e := by
  have hn : e * -d = -(e * d) := Int.mul_neg e d
  simp [exTo, cdL, cdX]
  omega
structure ExBd (h v m d a b c e : Int) (k : Nat) : Prop where
  p : -1000000000000000 ≤ (cdL a b c e).getD k 0 * ([h, v, m, -d] : List Int).getD k 0 ∧ (cdL a b c e).getD k 0 * ([h, v, m, -d] : List Int).getD k 0 ≤ 1000000000000000
  s : -4000000000000000 ≤ exTo (cdL a b c e) [h, v, m, -d] k ∧ exTo (cdL a b c e) [h, v, m, -d] k ≤ 4000000000000000
theorem ex_bd {h v m d a b c e : Int} (x : CdBd h v m d a b c e) (k : Nat) (hk : k < 4) : ExBd h v m d a b c e k := by
  obtain ⟨h1, h2, h3, h4⟩ := x
  match k, hk with
  | 0, _ => exact ⟨by simp [cdL]; omega, by simp [exTo]⟩
  | 1, _ => exact ⟨by simp [cdL]; omega, by simp [exTo, cdL]; omega⟩
  | 2, _ => exact ⟨by simp [cdL]; omega, by simp [exTo, cdL]; omega⟩
  | 3, _ =>
    have hn : e * -d = -(e * d) := Int.mul_neg e d
    exact ⟨by simp [cdL]; omega, by simp [exTo, cdL]; omega⟩

theorem l01In_lever (n : Int) (w : World) : Calls Tryd.prog 34 #[.int .i64 n, .int .i64 (-100), .int .i64 100] w fun e w' => e = .returned (.bool (inR n (-100) 100)) ∧ w = w' := l01InR n _ _ w
theorem l01In_sign (n : Int) (w : World) : Calls Tryd.prog 34 #[.int .i64 n, .int .i64 (-1), .int .i64 1] w fun e w' => e = .returned (.bool (inR n (-1) 1)) ∧ w = w' := l01InR n _ _ w
theorem l01In_bound (n : Int) (w : World) : Calls Tryd.prog 34 #[.int .i64 n, .int .i64 (-1000000000), .int .i64 1000000000] w fun e w' => e = .returned (.bool (inR n (-1000000000) 1000000000)) ∧ w = w' := l01InR n _ _ w

set_option maxHeartbeats 1000000 in
theorem specRowOk (a b c d : Int) (w : World) :
    Calls Tryd.prog 21 #[.agg #[.int .i64 a, .int .i64 b, .int .i64 c, .int .i64 d]] w fun e w' => e = .returned (.bool (cdOk a b c d)) ∧ Below w.heap.size w w' := by
  have hb0 := (Below.refl w.heap.size w).alloc (Nat.le_refl _) (.cells #[.int .i64 a, .int .i64 b, .int .i64 c, .int .i64 d] 41)
  have HB0 := Lib.hid hb0
  clear hb0
  cases ha : inR a (-100) 100
  · go_enter Tryd.func21, Tryd.ntmps21
    go_wp2_with fail
    refine (l01In_lever _ _).mono ?_
    rintro e w1 ⟨rfl, rfl⟩
    rw [ha]
    go_wp2_with fail
    go_ret
    exact ⟨ret_bool (cdOk_a ha).symm, HB0.out⟩
  cases hb : inR b (-100) 100
  · go_enter Tryd.func21, Tryd.ntmps21
    go_wp2_with fail
    refine (l01In_lever _ _).mono ?_
    rintro e w1 ⟨rfl, rfl⟩
    rw [ha]
    go_wp2_with fail
    refine (l01In_lever _ _).mono ?_
    rintro e w1 ⟨rfl, rfl⟩
    rw [hb]
    go_wp2_with fail
    go_ret
    exact ⟨ret_bool (cdOk_b hb).symm, HB0.out⟩
  cases hc : inR c (-1) 1
  · go_enter Tryd.func21, Tryd.ntmps21
    go_wp2_with fail
    refine (l01In_lever _ _).mono ?_
    rintro e w1 ⟨rfl, rfl⟩
    rw [ha]
    go_wp2_with fail
    refine (l01In_lever _ _).mono ?_
    rintro e w1 ⟨rfl, rfl⟩
    rw [hb]
    go_wp2_with fail
    refine (l01In_sign _ _).mono ?_
    rintro e w1 ⟨rfl, rfl⟩
    rw [hc]
    go_wp2_with fail
    go_ret
    exact ⟨ret_bool (cdOk_c hc).symm, HB0.out⟩
  · have HV := Lib.hid (cdOk_yes (d := d) ha hb hc)
    go_enter Tryd.func21, Tryd.ntmps21
    go_wp2_with fail
    refine (l01In_lever _ _).mono ?_
    rintro e w1 ⟨rfl, rfl⟩
    rw [ha]
    go_wp2_with fail
    refine (l01In_lever _ _).mono ?_
    rintro e w1 ⟨rfl, rfl⟩
    rw [hb]
    go_wp2_with fail
    refine (l01In_sign _ _).mono ?_
    rintro e w1 ⟨rfl, rfl⟩
    rw [hc]
    go_wp2_with fail
    refine (l01In_bound _ _).mono ?_
    rintro e w1 ⟨rfl, rfl⟩
    go_wp2_with fail
    go_ret
    exact ⟨ret_bool HV.out.symm, HB0.out⟩

set_option maxHeartbeats 1000000 in
theorem specHolds (h v m d a b c e : Int) (w : World) (hx : CdBd h v m d a b c e) :
    Calls Tryd.prog 22 #[.agg #[.int .i64 h, .int .i64 v, .int .i64 m, .int .i64 d], .agg #[.int .i64 a, .int .i64 b, .int .i64 c, .int .i64 e]] w fun e1 w' => e1 = .returned (.bool (cdH h v m d a b c e)) ∧ Below w.heap.size w w' := by
  have hb0 := ((Below.refl w.heap.size w).alloc (Nat.le_refl _) (.cells #[.int .i64 h, .int .i64 v, .int .i64 m, .int .i64 d] 31)).alloc (by simp) (.cells #[.int .i64 a, .int .i64 b, .int .i64 c, .int .i64 e] 41)
  have HB0 := Lib.hid hb0
  have HV : RowKit.Hid (cdH h v m d a b c e = decide (a * h + b * v + c * m ≤ e * d)) := Lib.hid rfl
  obtain ⟨h1, h2, h3, h4⟩ := hx
  have w1 : IntKind.i64.wrap (a * h) = a * h := IntWalk.i64_in _ (by omega)
  have w2 : IntKind.i64.wrap (b * v) = b * v := IntWalk.i64_in _ (by omega)
  have w3 : IntKind.i64.wrap (c * m) = c * m := IntWalk.i64_in _ (by omega)
  have w4 : IntKind.i64.wrap (e * d) = e * d := IntWalk.i64_in _ (by omega)
  have w5 : IntKind.i64.wrap (a * h + b * v) = a * h + b * v := IntWalk.i64_in _ (by omega)
  have w6 : IntKind.i64.wrap (a * h + b * v + c * m) = a * h + b * v + c * m := IntWalk.i64_in _ (by omega)
  clear hb0 h1 h2 h3 h4
  go_enter Tryd.func22, Tryd.ntmps22
  go_wp2_with fail
  go_ret
  exact ⟨ret_bool HV.out.symm, HB0.out⟩

end Go.Proofs.YtidmhpeaehmmhaaDoor
