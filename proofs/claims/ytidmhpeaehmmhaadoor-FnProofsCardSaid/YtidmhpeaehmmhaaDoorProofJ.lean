/- The sums of a proof's rows in the program. -/
import Derived.Test.YtidmhpeaehmmhaaDoorProofI
namespace Go.Proofs.YtidmhpeaehmmhaaDoor
set_option maxRecDepth 100000
open Go.ChangeShapes Go.WideShapes Go.ChangeAt Go.RowKit Go.Maps

/-- The sums' cells. -/
def SBox (W : World) (H : Nat) (a b c d : Int) : Prop :=
  (W.cell? ⟨H, 0, none⟩ = some (.int .i64 a) ∧ W.cell? ⟨H, 1, none⟩ = some (.int .i64 b) ∧ W.cell? ⟨H, 2, none⟩ = some (.int .i64 c) ∧ W.cell? ⟨H, 3, none⟩ = some (.int .i64 d)) ∧
  (W.frozen? ⟨H, 0, none⟩ = false ∧ W.frozen? ⟨H, 1, none⟩ = false ∧ W.frozen? ⟨H, 2, none⟩ = false ∧ W.frozen? ⟨H, 3, none⟩ = false)
theorem SBox.below {w w' : World} {H : Nat} {a b c d : Int} (x : SBox w H a b c d) (hb : Below w.heap.size w w') : SBox w' H a b c d := by
  obtain ⟨⟨h0, h1, h2, h3⟩, f0, f1, f2, f3⟩ := x
  have hl : H < w.heap.size := cell_block_lt h0
  exact ⟨⟨cell_kept h0 hb, cell_kept h1 hb, cell_kept h2 hb, cell_kept h3 hb⟩, (hb.frozen (p := ⟨H, 0, none⟩) hl).trans f0, (hb.frozen (p := ⟨H, 1, none⟩) hl).trans f1, (hb.frozen (p := ⟨H, 2, none⟩) hl).trans f2, (hb.frozen (p := ⟨H, 3, none⟩) hl).trans f3⟩
/-- The sums and the result: two boxes. -/
def SBoxes (W : World) (H : Nat) (a b c d : Int) : Prop := SBox W H 0 0 0 0 ∧ SBox W (H + 1) a b c d
theorem sboxes_new (w : World) (t : TypeId) : SBoxes ((w.alloc (.cells #[.int .i64 0, .int .i64 0, .int .i64 0, .int .i64 0] t)).alloc (.cells #[.int .i64 0, .int .i64 0, .int .i64 0, .int .i64 0] t)) w.heap.size 0 0 0 0 := by
  refine ⟨⟨⟨?_, ?_, ?_, ?_⟩, ?_, ?_, ?_, ?_⟩, ⟨?_, ?_, ?_, ?_⟩, ?_, ?_, ?_, ?_⟩ <;> go_simp
theorem SBoxes.below {w w' : World} {H : Nat} {a b c d : Int} (x : SBoxes w H a b c d) (hb : Below w.heap.size w w') : SBoxes w' H a b c d := ⟨x.1.below hb, x.2.below hb⟩
theorem sboxes_set {w : World} {H : Nat} {a b c d : Int} (x : SBoxes w H a b c d) (a' b' c' d' : Int) :
    SBoxes ((((w.setCell ⟨H + 1, 0, none⟩ (.int .i64 a')).setCell ⟨H + 1, 1, none⟩ (.int .i64 b')).setCell ⟨H + 1, 2, none⟩ (.int .i64 c')).setCell ⟨H + 1, 3, none⟩ (.int .i64 d')) H a' b' c' d' := by
  obtain ⟨⟨⟨q0, q1, q2, q3⟩, g0, g1, g2, g3⟩, ⟨s0, s1, s2, s3⟩, f0, f1, f2, f3⟩ := x
  refine ⟨⟨⟨?_, ?_, ?_, ?_⟩, ?_, ?_, ?_, ?_⟩, ⟨?_, ?_, ?_, ?_⟩, ?_, ?_, ?_, ?_⟩ <;> go_simp
theorem below_set4 {w w' : World} {N H : Nat} (h : Below N w w') (hH : N ≤ H) (a b c d : Value) :
    Below N w ((((w'.setCell ⟨H, 0, none⟩ a).setCell ⟨H, 1, none⟩ b).setCell ⟨H, 2, none⟩ c).setCell ⟨H, 3, none⟩ d) :=
  (((h.setCell (p := ⟨H, 0, none⟩) hH _).setCell (p := ⟨H, 1, none⟩) hH _).setCell (p := ⟨H, 2, none⟩) hH _).setCell (p := ⟨H, 3, none⟩) hH _

set_option maxHeartbeats 4000000 in
/-- Without factors all sums are 0. -/
theorem sumsOf_nil (w : World) (B : Nat) (a : Option Addr) (n cap : Nat) (rs : List Cd) (hr : Cds w B a n cap rs) :
    Calls Tryd.prog 17 #[.map none, .slice a n cap] w fun e w' => e = .returned (.agg #[.int .i64 0, .int .i64 0, .int .i64 0, .int .i64 0]) ∧ Below w.heap.size w w' := by
  obtain ⟨hnc, hcm⟩ := hr.cap
  unfold maxLen at hcm
  have HR := Lib.hid hr
  have HS0 := Lib.hid (sboxes_new w 51)
  have HB0 := Lib.hid (((Below.refl w.heap.size w).alloc (Nat.le_refl _) (.cells #[.int .i64 0, .int .i64 0, .int .i64 0, .int .i64 0] 51)).alloc (by simp <;> omega) (.cells #[.int .i64 0, .int .i64 0, .int .i64 0, .int .i64 0] 51))
  clear hr
  go_enter Tryd.func17, Tryd.ntmps17
  go_wp2_with fail
  go_loopw [13] (fun t wr => ∃ k : Nat, k ≤ n ∧ t = .int .i64 k ∧ SBoxes wr w.heap.size 0 0 0 0 ∧ Below w.heap.size w wr)
    (fun t _ => n - (intOf t).toNat)
  case atStart => exact ⟨0, Nat.zero_le _, rfl, HS0.out, HB0.out⟩
  case round =>
    clear HS0 HB0
    obtain ⟨k, hk, rfl, hsb, hbw⟩ := hrel
    have HB := Lib.hid hbw
    have HS := Lib.hid hsb
    by_cases hlt : k < n
    · obtain ⟨g, rfl, -, a0, a1, a2, a3⟩ := (HR.out.below hbw).at k hlt
      generalize (cd rs k).1 = x at *
      generalize (cd rs k).2.1 = y at *
      generalize (cd rs k).2.2.1 = z at *
      generalize (cd rs k).2.2.2 = u at *
      have hal := cd_al wr (.cells #[.int .i64 x, .int .i64 y, .int .i64 z, .int .i64 u] 41)
      have HB1 := Lib.hid (hbw.trans (hal.mono hbw.size))
      have HS1 := Lib.hid (hsb.below hal)
      have hlook := fun w => Maps.look_nil (P := Tryd.prog) (w := w) (t := 48) false lawMK Tryd.underlying48 (zeroMK w) (keyOf_int_mk (P := Tryd.prog) (k := 3) (q := .i64) (a := (k : Int)) Tryd.underlying3 (WalkArith.wf_i64 (by omega)))
      have hwl : w.heap.size + 1 < wr.heap.size := cell_block_lt hsb.2.1.1
      clear hbw hsb hal
      go_wp2_with fail
      refine (rowNumbers _ _ _ _ _).mono ?_
      rintro e w2 ⟨rfl, hb2⟩
      have HB2 := Lib.hid (HB1.out.trans (hb2.mono HB1.out.size))
      have HS2 := Lib.hid (HS1.out.below hb2)
      obtain ⟨⟨-, -⟩, ⟨s0, s1, s2, s3⟩, f0, f1, f2, f3⟩ := id HS2.out
      have hsz2 := hb2.size
      clear hb2 HS1 HB1 a0 a1 a2 a3
      have e0 : ∀ w, (Instr.index 51 (.agg #[.int .i64 x, .int .i64 y, .int .i64 z, .int .i64 u]) (.int .i64 0)).run Tryd.prog w = .ok (.int .i64 x) w := fun _ => by kernel_rfl
      have e1 : ∀ w, (Instr.index 51 (.agg #[.int .i64 x, .int .i64 y, .int .i64 z, .int .i64 u]) (.int .i64 1)).run Tryd.prog w = .ok (.int .i64 y) w := fun _ => by kernel_rfl
      have e2 : ∀ w, (Instr.index 51 (.agg #[.int .i64 x, .int .i64 y, .int .i64 z, .int .i64 u]) (.int .i64 2)).run Tryd.prog w = .ok (.int .i64 z) w := fun _ => by kernel_rfl
      have e3 : ∀ w, (Instr.index 51 (.agg #[.int .i64 x, .int .i64 y, .int .i64 z, .int .i64 u]) (.int .i64 3)).run Tryd.prog w = .ok (.int .i64 u) w := fun _ => by kernel_rfl
      go_wp2_with fail
      refine wp_loop_rounds 5 ?_
      rw [rounds_succ]
      go_wp2_with fail
      rw [rounds_succ]
      go_wp2_with fail
      rw [rounds_succ]
      go_wp2_with fail
      rw [rounds_succ]
      go_wp2_with fail
      rw [rounds_succ]
      go_wp2_with fail
      go_roundw
      case rel => exact ⟨k + 1, by omega, by go_num, sboxes_set HS2.out _ _ _ _, below_set4 HB2.out (by omega) _ _ _ _⟩
      case measure => simp [intOf]; omega
    · obtain rfl : k = n := by omega
      obtain ⟨⟨⟨q0, q1, q2, q3⟩, g0, g1, g2, g3⟩, ⟨s0, s1, s2, s3⟩, -⟩ := hsb
      clear hbw
      go_wp2_with fail
      refine bodyPost_ret (v := .agg #[.int .i64 0, .int .i64 0, .int .i64 0, .int .i64 0]) (by simp [results, Tryd.results17, go_sem, q0, q1, q2, q3]) rfl ⟨rfl, below_set4 HB.out (Nat.le_refl _) _ _ _ _⟩

theorem below_grownM {w w' : World} {r : Option Nat} (h : Below w.heap.size w w') : w.grownBy w' r := ⟨h.os, h.tape, h.output, h.size, fun k hk _ => h.block k hk⟩

set_option maxHeartbeats 4000000 in
/-- The sums of a valid proof. -/
theorem sumsOf_map (w : World) (B : Nat) (a : Option Addr) (n cap : Nat) (rs : List Cd) (ps fs : List Int) (M : Nat) (hr : Cds w B a n cap rs) (hm : FacMap w M ps fs ps.length) (hok : PrOk rs ps fs) :
    Calls Tryd.prog 17 #[.map (some M), .slice a n cap] w fun e w' => e = .returned (.agg #[.int .i64 (smV rs ps fs 0), .int .i64 (smV rs ps fs 1), .int .i64 (smV rs ps fs 2), .int .i64 (smV rs ps fs 3)]) ∧ Below w.heap.size w w' := by
  obtain ⟨hnc, hcm⟩ := hr.cap
  unfold maxLen at hcm
  have HR := Lib.hid hr
  have HM := Lib.hid hm
  have HOK := Lib.hid hok
  have HL := Lib.hid hr.2
  have HS0 := Lib.hid (sboxes_new w 51)
  have HB0 := Lib.hid (((Below.refl w.heap.size w).alloc (Nat.le_refl _) (.cells #[.int .i64 0, .int .i64 0, .int .i64 0, .int .i64 0] 51)).alloc (by simp <;> omega) (.cells #[.int .i64 0, .int .i64 0, .int .i64 0, .int .i64 0] 51))
  clear hr hm hok
  go_enter Tryd.func17, Tryd.ntmps17
  go_wp2_with fail
  go_loopw [13] (fun t wr => ∃ k : Nat, k ≤ n ∧ t = .int .i64 k ∧ SBoxes wr w.heap.size (rwTo rs ps fs 0 k) (rwTo rs ps fs 1 k) (rwTo rs ps fs 2 k) (rwTo rs ps fs 3 k) ∧ Below w.heap.size w wr)
    (fun t _ => n - (intOf t).toNat)
  case atStart => exact ⟨0, Nat.zero_le _, rfl, HS0.out, HB0.out⟩
  case round =>
    clear HS0 HB0
    obtain ⟨k, hk, rfl, hsb, hbw⟩ := hrel
    have HB := Lib.hid hbw
    have HS := Lib.hid hsb
    by_cases hlt : k < n
    · obtain ⟨g, rfl, -, a0, a1, a2, a3⟩ := (HR.out.below hbw).at k hlt
      have hkr : k < rs.length := by rw [HL.out]; exact hlt
      have hFw := lk_bd (ps := ps) HOK.out.fac ps.length (Nat.le_refl _) (k : Int)
      have HMK := Lib.hid (mapD_at ps fs ps.length (k : Int))
      have hb0 := rwTo_bd HOK.out 0 k
      have hb1 := rwTo_bd HOK.out 1 k
      have hb2 := rwTo_bd HOK.out 2 k
      have hb3 := rwTo_bd HOK.out 3 k
      have hm0 := rw_mul_bd HOK.out 0 k hkr
      have hm1 := rw_mul_bd HOK.out 1 k hkr
      have hm2 := rw_mul_bd HOK.out 2 k hkr
      have hm3 := rw_mul_bd HOK.out 3 k hkr
      have HT0 := Lib.hid (rwTo_step rs ps fs 0 k)
      have HT1 := Lib.hid (rwTo_step rs ps fs 1 k)
      have HT2 := Lib.hid (rwTo_step rs ps fs 2 k)
      have HT3 := Lib.hid (rwTo_step rs ps fs 3 k)
      rw [show col 0 (cd rs k) = (cd rs k).1 from rfl] at hm0 HT0
      rw [show col 1 (cd rs k) = (cd rs k).2.1 from rfl] at hm1 HT1
      rw [show col 2 (cd rs k) = (cd rs k).2.2.1 from rfl] at hm2 HT2
      rw [show col 3 (cd rs k) = (cd rs k).2.2.2 from rfl] at hm3 HT3
      obtain ⟨⟨x, y, z, u⟩, hq⟩ : ∃ q, cd rs k = q := ⟨_, rfl⟩
      rw [hq] at a0 a1 a2 a3 hm0 hm1 hm2 hm3 HT0 HT1 HT2 HT3
      dsimp only at a0 a1 a2 a3 hm0 hm1 hm2 hm3 HT0 HT1 HT2 HT3
      clear hq
      generalize lkTo ps fs ps.length (k : Int) = F at *
      generalize rwTo rs ps fs 0 k = r0 at *
      generalize rwTo rs ps fs 1 k = r1 at *
      generalize rwTo rs ps fs 2 k = r2 at *
      generalize rwTo rs ps fs 3 k = r3 at *
      have p0 : IntKind.i64.wrap (F * x) = F * x := IntWalk.i64_in _ (by omega)
      have p1 : IntKind.i64.wrap (F * y) = F * y := IntWalk.i64_in _ (by omega)
      have p2 : IntKind.i64.wrap (F * z) = F * z := IntWalk.i64_in _ (by omega)
      have p3 : IntKind.i64.wrap (F * u) = F * u := IntWalk.i64_in _ (by omega)
      have t0 : IntKind.i64.wrap (r0 + F * x) = r0 + F * x := IntWalk.i64_in _ (by omega)
      have t1 : IntKind.i64.wrap (r1 + F * y) = r1 + F * y := IntWalk.i64_in _ (by omega)
      have t2 : IntKind.i64.wrap (r2 + F * z) = r2 + F * z := IntWalk.i64_in _ (by omega)
      have t3 : IntKind.i64.wrap (r3 + F * u) = r3 + F * u := IntWalk.i64_in _ (by omega)
      have hwa : (Lit.int .i64 (k : Int)).wf = true := WalkArith.wf_i64 (by omega)
      clear hb0 hb1 hb2 hb3 hm0 hm1 hm2 hm3 hFw hkr
      have hal := cd_al wr (.cells #[.int .i64 x, .int .i64 y, .int .i64 z, .int .i64 u] 41)
      have HB1 := Lib.hid (hbw.trans (hal.mono hbw.size))
      have HS1 := Lib.hid (hsb.below hal)
      have HMW := Lib.hid (show FacMap wr M ps fs ps.length from World.ownsMap.kept HM.out (below_grownM (r := none) hbw) (by simp))
      have hwl : w.heap.size + 1 < wr.heap.size := cell_block_lt hsb.2.1.1
      clear hbw hsb hal
      go_wp2_with (first
        | (at_lookup; refine wpList_lookup_own_int _ rfl _ _ 48 rfl 3 3 .i64 lawMK Tryd.underlying48 Tryd.underlying3 (zeroMK _) M ps.length _ rfl (World.ownsMap.alloc HMW.out _) _ _ rfl (keyOf_int_mk Tryd.underlying3 hwa) ?_; intro c hat hwc; obtain rfl : F = c := (by have := HMK.out.symm.trans hat; simpa using this); clear hat hwc)
        | fail)
      refine (rowNumbers _ _ _ _ _).mono ?_
      rintro e w2 ⟨rfl, hb2⟩
      have HB2 := Lib.hid (HB1.out.trans (hb2.mono HB1.out.size))
      have HS2 := Lib.hid (HS1.out.below hb2)
      obtain ⟨⟨-, -⟩, ⟨s0, s1, s2, s3⟩, f0, f1, f2, f3⟩ := id HS2.out
      have hsz2 := hb2.size
      clear hb2 HS1 HB1 a0 a1 a2 a3
      have e0 : ∀ w, (Instr.index 51 (.agg #[.int .i64 x, .int .i64 y, .int .i64 z, .int .i64 u]) (.int .i64 0)).run Tryd.prog w = .ok (.int .i64 x) w := fun _ => by kernel_rfl
      have e1 : ∀ w, (Instr.index 51 (.agg #[.int .i64 x, .int .i64 y, .int .i64 z, .int .i64 u]) (.int .i64 1)).run Tryd.prog w = .ok (.int .i64 y) w := fun _ => by kernel_rfl
      have e2 : ∀ w, (Instr.index 51 (.agg #[.int .i64 x, .int .i64 y, .int .i64 z, .int .i64 u]) (.int .i64 2)).run Tryd.prog w = .ok (.int .i64 z) w := fun _ => by kernel_rfl
      have e3 : ∀ w, (Instr.index 51 (.agg #[.int .i64 x, .int .i64 y, .int .i64 z, .int .i64 u]) (.int .i64 3)).run Tryd.prog w = .ok (.int .i64 u) w := fun _ => by kernel_rfl
      go_wp2_with fail
      refine wp_loop_rounds 5 ?_
      rw [rounds_succ]
      go_wp2_with fail
      rw [rounds_succ]
      go_wp2_with fail
      rw [rounds_succ]
      go_wp2_with fail
      rw [rounds_succ]
      go_wp2_with fail
      rw [rounds_succ]
      go_wp2_with fail
      go_roundw
      case rel => exact ⟨k + 1, by omega, by go_num, by rw [HT0.out, HT1.out, HT2.out, HT3.out]; exact sboxes_set HS2.out _ _ _ _, below_set4 HB2.out (by omega) _ _ _ _⟩
      case measure => simp [intOf]; omega
    · obtain rfl : k = n := by omega
      obtain ⟨⟨⟨q0, q1, q2, q3⟩, g0, g1, g2, g3⟩, ⟨s0, s1, s2, s3⟩, -⟩ := hsb
      have HE := Lib.hid (fun c => (show rwTo rs ps fs c k = smV rs ps fs c by rw [← HL.out]; exact rwTo_end HOK.out c))
      rw [HE.out, HE.out, HE.out, HE.out] at *
      clear hbw
      go_wp2_with fail
      refine bodyPost_ret (v := .agg #[.int .i64 (smV rs ps fs 0), .int .i64 (smV rs ps fs 1), .int .i64 (smV rs ps fs 2), .int .i64 (smV rs ps fs 3)]) (by simp [results, Tryd.results17, go_sem, q0, q1, q2, q3]) rfl ⟨rfl, below_set4 HB.out (Nat.le_refl _) _ _ _ _⟩
end Go.Proofs.YtidmhpeaehmmhaaDoor
