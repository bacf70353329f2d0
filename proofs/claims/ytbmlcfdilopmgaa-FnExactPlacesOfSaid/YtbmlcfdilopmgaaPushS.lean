/- The model's l09Ok, PushAt, l09Moment, MomentsAt, IsInside, PlaceAt. -/
import Derived.Test.YtbmlcfdilopmgaaGPush
import Derived.Test.YtbmlcfdilopmgaaGLoad
import Derived.Test.YtbmlcfdilopmgaaGThrust
import Derived.Deep.RegionWith
namespace Go.Proofs.Ytbmlcfdilopmgaa
set_option maxRecDepth 100000
open Go.ChangeShapes Go.WideShapes Go.ChangeAt Go.RowKit

/-- The boxes of these functions: the arch, the thrust. -/
def GBox (W : World) (H : Nat) (v : Value) (th tv tm td : Int) : Prop :=
  W.cell? ⟨H, 0, none⟩ = some v ∧ W.cell? ⟨H + 1, 0, none⟩ = some (.int .i64 th) ∧ W.cell? ⟨H + 1, 1, none⟩ = some (.int .i64 tv) ∧ W.cell? ⟨H + 1, 2, none⟩ = some (.int .i64 tm) ∧ W.cell? ⟨H + 1, 3, none⟩ = some (.int .i64 td)
theorem GBox.below {w w' : World} {H : Nat} {v : Value} {th tv tm td : Int} (h : GBox w H v th tv tm td) (hb : Below w.heap.size w w') : GBox w' H v th tv tm td :=
  ⟨cell_kept h.1 hb, cell_kept h.2.1 hb, cell_kept h.2.2.1 hb, cell_kept h.2.2.2.1 hb, cell_kept h.2.2.2.2 hb⟩

set_option maxHeartbeats 1000000 in
theorem specPushOk (w : World) (B B2 g cap n : Nat) (la : Option Addr) (m lc : Nat) (js : List Jt) (ls : List Ld) (th tv tm td k : Int) (hr : JRowAt w B g cap js) (hn : js.length = n) (h8 : n ≤ 1048576) (hl : Lds w B2 la m lc ls) :
    Calls Try.prog 83 #[.agg #[.slice (some ⟨g, 0, none⟩) n cap], .slice la m lc, .agg #[.int .i64 th, .int .i64 tv, .int .i64 tm, .int .i64 td], .int .i64 k] w fun e w' => e = .returned (.bool (phOk js ls th tv tm td k)) ∧ Below w.heap.size w w' := by
  have hb0 := ((Below.refl w.heap.size w).alloc (Nat.le_refl _) (.cells #[.slice (some ⟨g, 0, none⟩) n cap] 26)).alloc (by simp) (.cells #[.int .i64 th, .int .i64 tv, .int .i64 tm, .int .i64 td] 31)
  have hg0 : GBox ((w.alloc (.cells #[.slice (some ⟨g, 0, none⟩) n cap] 26)).alloc (.cells #[.int .i64 th, .int .i64 tv, .int .i64 tm, .int .i64 td] 31)) w.heap.size (.slice (some ⟨g, 0, none⟩) n cap) th tv tm td := by
    refine ⟨?_, ?_, ?_, ?_, ?_⟩ <;> go_simp
  have HR := Lib.hid (hr.below hb0)
  have HL := Lib.hid (hl.below hb0)
  have HB0 := Lib.hid hb0
  have HG0 := Lib.hid hg0
  have HN := Lib.hid hn
  clear hr hn hl hb0 hg0
  have e1 : IntKind.i64.wrap ((n : Int) - 1) = (n : Int) - 1 := IntWalk.i64_in _ (by omega)
  cases h : loadsV js ls
  · have HV := Lib.hid (phOk_l (h := th) (v := tv) (m := tm) (d := td) (k := k) h)
    obtain ⟨s0, t0, t1, t2, t3⟩ := id HG0.out
    go_enter Try.func83, Try.ntmps83
    go_wp2_with fail
    refine (specLoadsOk _ _ _ _ _ _ _ _ _ js ls HR.out HN.out h8 HL.out).mono ?_
    rintro e w1 ⟨rfl, hb1⟩
    rw [h]
    have HR1 := Lib.hid (HR.out.below hb1)
    have HL1 := Lib.hid (HL.out.below hb1)
    have HG1 := Lib.hid (HG0.out.below hb1)
    have HB1 := Lib.hid (HB0.out.trans (hb1.mono HB0.out.size))
    clear hb1 HR HL HG0 HB0
    clear s0 t0 t1 t2 t3
    obtain ⟨s0, t0, t1, t2, t3⟩ := id HG1.out
    go_wp2_with fail
    go_ret
    exact ⟨ret_bool HV.out.symm, HB1.out⟩
  cases ht : okT th tv tm td
  · have HV := Lib.hid (phOk_t (js := js) (ls := ls) (k := k) ht)
    obtain ⟨s0, t0, t1, t2, t3⟩ := id HG0.out
    go_enter Try.func83, Try.ntmps83
    go_wp2_with fail
    refine (specLoadsOk _ _ _ _ _ _ _ _ _ js ls HR.out HN.out h8 HL.out).mono ?_
    rintro e w1 ⟨rfl, hb1⟩
    rw [h]
    have HR1 := Lib.hid (HR.out.below hb1)
    have HL1 := Lib.hid (HL.out.below hb1)
    have HG1 := Lib.hid (HG0.out.below hb1)
    have HB1 := Lib.hid (HB0.out.trans (hb1.mono HB0.out.size))
    clear hb1 HR HL HG0 HB0
    clear s0 t0 t1 t2 t3
    obtain ⟨s0, t0, t1, t2, t3⟩ := id HG1.out
    go_wp2_with fail
    refine (specThrustOk _ _ _ _ _).mono ?_
    rintro e w2 ⟨rfl, hb2⟩
    rw [ht]
    have HR2 := Lib.hid (HR1.out.below hb2)
    have HL2 := Lib.hid (HL1.out.below hb2)
    have HG2 := Lib.hid (HG1.out.below hb2)
    have HB2 := Lib.hid (HB1.out.trans (hb2.mono HB1.out.size))
    clear hb2 HR1 HL1 HG1 HB1
    clear s0 t0 t1 t2 t3
    obtain ⟨s0, t0, t1, t2, t3⟩ := id HG2.out
    go_wp2_with fail
    go_ret
    exact ⟨ret_bool HV.out.symm, HB2.out⟩
  · have HV : RowKit.Hid (phOk js ls th tv tm td k = decide (0 ≤ k ∧ k ≤ (n : Int) - 1)) := Lib.hid (by unfold phOk; rw [h, ht, HN.out]; rfl)
    obtain ⟨s0, t0, t1, t2, t3⟩ := id HG0.out
    go_enter Try.func83, Try.ntmps83
    go_wp2_with fail
    refine (specLoadsOk _ _ _ _ _ _ _ _ _ js ls HR.out HN.out h8 HL.out).mono ?_
    rintro e w1 ⟨rfl, hb1⟩
    rw [h]
    have HR1 := Lib.hid (HR.out.below hb1)
    have HL1 := Lib.hid (HL.out.below hb1)
    have HG1 := Lib.hid (HG0.out.below hb1)
    have HB1 := Lib.hid (HB0.out.trans (hb1.mono HB0.out.size))
    clear hb1 HR HL HG0 HB0
    clear s0 t0 t1 t2 t3
    obtain ⟨s0, t0, t1, t2, t3⟩ := id HG1.out
    go_wp2_with fail
    refine (specThrustOk _ _ _ _ _).mono ?_
    rintro e w2 ⟨rfl, hb2⟩
    rw [ht]
    have HR2 := Lib.hid (HR1.out.below hb2)
    have HL2 := Lib.hid (HL1.out.below hb2)
    have HG2 := Lib.hid (HG1.out.below hb2)
    have HB2 := Lib.hid (HB1.out.trans (hb2.mono HB1.out.size))
    clear hb2 HR1 HL1 HG1 HB1
    clear s0 t0 t1 t2 t3
    obtain ⟨s0, t0, t1, t2, t3⟩ := id HG2.out
    go_wp2_with fail
    refine (l01InG _ _ _ _).mono ?_
    rintro e w3 ⟨rfl, rfl⟩
    go_wp2_with fail
    go_ret
    exact ⟨ret_bool (by rw [HV.out, Bool.decide_and]), HB2.out⟩


set_option maxHeartbeats 1000000 in
theorem specMoment (th tv tm td W M x y : Int) (w : World) (e1 : IntKind.i64.wrap (td * W) = td * W) (e2 : IntKind.i64.wrap (tv - td * W) = tv - td * W) (e3 : IntKind.i64.wrap (td * M) = td * M) (e4 : IntKind.i64.wrap (tm - td * M) = tm - td * M) (hb : AbtBd (tm - td * M) (tv - td * W) th x y) :
    Calls Try.prog 84 #[.agg #[.int .i64 th, .int .i64 tv, .int .i64 tm, .int .i64 td], .int .i64 W, .int .i64 M, .agg #[.int .i64 x, .int .i64 y]] w fun e w' => e = .returned (.int .i64 (abtV (tm - td * M) (tv - td * W) th x y)) ∧ Below w.heap.size w w' := by
  have hb0 := ((Below.refl w.heap.size w).alloc (Nat.le_refl _) (.cells #[.int .i64 th, .int .i64 tv, .int .i64 tm, .int .i64 td] 31)).alloc (by simp) (.cells #[.int .i64 x, .int .i64 y] 100)
  have HB0 := Lib.hid hb0
  have HV : RowKit.Hid (abtV (tm - td * M) (tv - td * W) th x y = tm - td * M - x * (tv - td * W) + y * th) := Lib.hid rfl
  obtain ⟨h1, h2, h3, h4⟩ := hb
  rw [HV.out] at h4 ⊢
  have e5 : IntKind.i64.wrap (x * (tv - td * W)) = x * (tv - td * W) := IntWalk.i64_in _ (by omega)
  have e6 : IntKind.i64.wrap (y * th) = y * th := IntWalk.i64_in _ (by omega)
  have e7 : IntKind.i64.wrap (tm - td * M - x * (tv - td * W)) = tm - td * M - x * (tv - td * W) := IntWalk.i64_in _ (by omega)
  have e8 : IntKind.i64.wrap (tm - td * M - x * (tv - td * W) + y * th) = tm - td * M - x * (tv - td * W) + y * th := IntWalk.i64_in _ (by omega)
  clear hb0 h1 h2 h3 h4
  go_enter Try.func84, Try.ntmps84
  go_wp2_with fail
  go_ret
  exact ⟨rfl, HB0.out⟩

set_option maxHeartbeats 2000000 in
theorem specMomentsAt (w : World) (B B2 g cap n : Nat) (la : Option Addr) (m lc : Nat) (js : List Jt) (ls : List Ld) (th tv tm td k : Int) (hr : JRowAt w B g cap js) (hn : js.length = n) (h8 : n ≤ 1048576) (hl : Lds w B2 la m lc ls) :
    Calls Try.prog 63 #[.agg #[.slice (some ⟨g, 0, none⟩) n cap], .slice la m lc, .agg #[.int .i64 th, .int .i64 tv, .int .i64 tm, .int .i64 td], .int .i64 k] w fun e w' => e = .returned (.tuple #[.int .i64 (phA js ls th tv tm td k), .int .i64 (phB js ls th tv tm td k)]) ∧ Below w.heap.size w w' := by
  have hb0 := ((Below.refl w.heap.size w).alloc (Nat.le_refl _) (.cells #[.slice (some ⟨g, 0, none⟩) n cap] 26)).alloc (by simp) (.cells #[.int .i64 th, .int .i64 tv, .int .i64 tm, .int .i64 td] 31)
  have hg0 : GBox ((w.alloc (.cells #[.slice (some ⟨g, 0, none⟩) n cap] 26)).alloc (.cells #[.int .i64 th, .int .i64 tv, .int .i64 tm, .int .i64 td] 31)) w.heap.size (.slice (some ⟨g, 0, none⟩) n cap) th tv tm td := by
    refine ⟨?_, ?_, ?_, ?_, ?_⟩ <;> go_simp
  have HR := Lib.hid (hr.below hb0)
  have HL := Lib.hid (hl.below hb0)
  have HB0 := Lib.hid hb0
  have HG0 := Lib.hid hg0
  have HN := Lib.hid hn
  clear hr hn hl hb0 hg0
  cases h : phOk js ls th tv tm td k
  · rw [phA_no h, phB_no h]
    obtain ⟨s0, t0, t1, t2, t3⟩ := id HG0.out
    go_enter Try.func63, Try.ntmps63
    go_wp2_with fail
    refine (specPushOk _ _ _ _ _ _ _ _ _ js ls th tv tm td k HR.out HN.out h8 HL.out).mono ?_
    rintro e w1 ⟨rfl, hb1⟩
    have HR1 := Lib.hid (HR.out.below hb1)
    have HL1 := Lib.hid (HL.out.below hb1)
    have HG1 := Lib.hid (HG0.out.below hb1)
    have HB1 := Lib.hid (HB0.out.trans (hb1.mono HB0.out.size))
    clear hb1 HR HL HG0 HB0
    clear s0 t0 t1 t2 t3
    obtain ⟨s0, t0, t1, t2, t3⟩ := id HG1.out
    rw [h]
    go_wp2_with fail
    refine bodyPost_ret (v := .tuple #[.int .i64 0, .int .i64 0]) (by simp [results, Try.results63, go_sem]) rfl ⟨rfl, HB1.out⟩
  · obtain ⟨hl, ht, hk0, hk1⟩ := phOk_iff.1 h
    rw [HN.out] at hk1
    obtain ⟨K, rfl⟩ : ∃ K : Nat, k = K := ⟨k.toNat, by omega⟩
    have hKn : K < n := by omega
    have hKn' : (K : Int) < (n : Int) := by omega
    have hK0 : (0 : Int) ≤ (K : Int) := Int.natCast_nonneg _
    have hbd := ph_bd (K : Int) hl ht
    have HVL := Lib.hid hl
    have HSW := Lib.hid (leftF_yes (f := wL) hl (show K < js.length by rw [HN.out]; omega)).symm
    have HSM := Lib.hid (leftF_yes (f := mL) hl (show K < js.length by rw [HN.out]; omega)).symm
    have hin := ph_in js ls th tv tm td (K : Int)
    have hA : phA js ls th tv tm td (K : Int) = abtV (tm - td * leftF mL js ls (K : Int)) (tv - td * leftF wL js ls (K : Int)) th (jt js K).1.1 (jt js K).1.2 := phA_yes h
    have hB : phB js ls th tv tm td (K : Int) = abtV (tm - td * leftF mL js ls (K : Int)) (tv - td * leftF wL js ls (K : Int)) th (jt js K).2.1 (jt js K).2.2 := phB_yes h
    obtain ⟨i1, i2, i3, i4, i5, i6, i7⟩ := hin
    rw [phT_yes h] at i1
    rw [phU_yes h] at i2
    rw [phH_yes h] at i3
    rw [phJ_yes h] at i4 i5 i6 i7
    have ba := abt_bd i1 i2 i3 i4 i5
    have bb := abt_bd i1 i2 i3 i6 i7
    rw [hA, hB]
    rw [show ((K : Int)).toNat = K from rfl] at ba bb
    have HC := Lib.hid (fun (w : World) (B cap : Nat) (hr : JRowAt w B g cap js) => hr.cells K (by rw [HN.out]; omega))
    have hm := hbd.hm
    have hw := hbd.hw
    generalize leftF wL js ls (K : Int) = W at *
    generalize leftF mL js ls (K : Int) = M at *
    generalize (jt js K).1.1 = x at *
    generalize (jt js K).1.2 = y at *
    generalize (jt js K).2.1 = z at *
    generalize (jt js K).2.2 = u at *
    have e1 : IntKind.i64.wrap (td * W) = td * W := IntWalk.i64_in _ (by omega)
    have e2 : IntKind.i64.wrap (tv - td * W) = tv - td * W := IntWalk.i64_in _ (by omega)
    have e3 : IntKind.i64.wrap (td * M) = td * M := IntWalk.i64_in _ (by omega)
    have e4 : IntKind.i64.wrap (tm - td * M) = tm - td * M := IntWalk.i64_in _ (by omega)
    have hMA := fun w => specMoment th tv tm td W M x y w e1 e2 e3 e4 ba
    have hMB := fun w => specMoment th tv tm td W M z u w e1 e2 e3 e4 bb
    generalize abtV (tm - td * M) (tv - td * W) th x y = a at *
    generalize abtV (tm - td * M) (tv - td * W) th z u = b at *
    have HMA := Lib.hid hMA
    have HMB := Lib.hid hMB
    clear hMA hMB e1 e2 e3 e4 ba bb hm hw i1 i2 i3 i4 i5 i6 i7 hA hB hbd hk0 hk1 hl ht
    obtain ⟨s0, t0, t1, t2, t3⟩ := id HG0.out
    go_enter Try.func63, Try.ntmps63
    go_wp2_with fail
    refine (specPushOk _ _ _ _ _ _ _ _ _ js ls th tv tm td (K : Int) HR.out HN.out h8 HL.out).mono ?_
    rintro e w1 ⟨rfl, hb1⟩
    have HR1 := Lib.hid (HR.out.below hb1)
    have HL1 := Lib.hid (HL.out.below hb1)
    have HG1 := Lib.hid (HG0.out.below hb1)
    have HB1 := Lib.hid (HB0.out.trans (hb1.mono HB0.out.size))
    clear hb1 HR HL HG0 HB0
    clear s0 t0 t1 t2 t3
    obtain ⟨s0, t0, t1, t2, t3⟩ := id HG1.out
    rw [h]
    go_wp2_with fail
    refine (specLeft _ _ _ _ _ _ _ _ _ js ls HR1.out HN.out HL1.out HVL.out).mono ?_
    rintro e w3 ⟨g1, c1, g2, c2, rfl, hr3, hr4, hb3⟩
    have x3 := hr3.cell K hKn
    have x4 := hr4.cell K hKn
    have HB3 := Lib.hid (HB1.out.trans (hb3.mono HB1.out.size))
    have HG3 := Lib.hid (HG1.out.below hb3)
    have HR3 := Lib.hid (HR1.out.below hb3)
    obtain ⟨-, hgb1, hnc, hcm⟩ := hr3.lt
    obtain ⟨-, hgb2, hnc2, hcm2⟩ := hr4.lt
    unfold maxLen at hcm hcm2
    rw [HSW.out] at x3
    rw [HSM.out] at x4
    clear s0 t0 t1 t2 t3
    obtain ⟨s0, t0, t1, t2, t3⟩ := id HG3.out
    obtain ⟨a0, a1, a2, a3⟩ := HC.out _ _ _ HR3.out
    have hlt := HR3.out.lt
    obtain ⟨-, hgw, hcap, hcm3⟩ := hlt
    rw [HN.out] at hcap
    unfold maxLen at hcm3
    clear hb3 hr3 hr4 h
    go_upto_region 4 with (fail)
    have hn1 := Since.nonempty w3
    have hlts := cell_block_lt s0
    have hltt := cell_block_lt t0
    dsimp only at hlts hltt
    have r0 := fun (q : Since w3) => (q.cell w.heap.size 0 hlts).trans s0
    have r1 := fun (q : Since w3) => (q.cell (w.heap.size + 1) 0 hltt).trans t0
    have r2 := fun (q : Since w3) => (q.cell (w.heap.size + 1) 1 hltt).trans t1
    have r3 := fun (q : Since w3) => (q.cell (w.heap.size + 1) 2 hltt).trans t2
    have r4 := fun (q : Since w3) => (q.cell (w.heap.size + 1) 3 hltt).trans t3
    have r5 := fun (q : Since w3) => (q.cell g1 K hgb1).trans x3
    have r6 := fun (q : Since w3) => (q.cell g2 K hgb2).trans x4
    have r7 := fun (q : Since w3) => (q.cell g (K * 4) hgw).trans a0
    have r8 := fun (q : Since w3) => (q.cell g (K * 4 + 1) hgw).trans a1
    have r9 := fun (q : Since w3) => (q.cell g (K * 4 + 2) hgw).trans a2
    have r10 := fun (q : Since w3) => (q.cell g (K * 4 + 3) hgw).trans a3
    clear s0 t0 t1 t2 t3 x3 x4 a0 a1 a2 a3
    refine wp_region_since (by kernel_rfl) (by kernel_rfl) ?_
    repeat (go_big_quiet_step (first
      | (go_at_call_of 84 (Value.int .i64 x); exact Since.call (HMA.out _))
      | (go_at_call_of 84 (Value.int .i64 z); exact Since.call (HMB.out _))))
    refine wpQuiet_nil ?_
    rintro w4 ⟨⟨_, hb4⟩, rfl⟩
    go_wp2_with fail
    refine bodyPost_ret (v := .tuple #[.int .i64 a, .int .i64 b]) (by simp [results, Try.results63, go_sem]) rfl ⟨rfl, HB3.out.trans (hb4.mono HB3.out.size)⟩

set_option maxHeartbeats 1000000 in
theorem specIsInside (w : World) (B B2 g cap n : Nat) (la : Option Addr) (m lc : Nat) (js : List Jt) (ls : List Ld) (th tv tm td k : Int) (hr : JRowAt w B g cap js) (hn : js.length = n) (h8 : n ≤ 1048576) (hl : Lds w B2 la m lc ls) :
    Calls Try.prog 64 #[.agg #[.slice (some ⟨g, 0, none⟩) n cap], .slice la m lc, .agg #[.int .i64 th, .int .i64 tv, .int .i64 tm, .int .i64 td], .int .i64 k] w fun e w' => e = .returned (.bool (phIn js ls th tv tm td k)) ∧ Below w.heap.size w w' := by
  have hb0 := ((Below.refl w.heap.size w).alloc (Nat.le_refl _) (.cells #[.slice (some ⟨g, 0, none⟩) n cap] 26)).alloc (by simp) (.cells #[.int .i64 th, .int .i64 tv, .int .i64 tm, .int .i64 td] 31)
  have hg0 : GBox ((w.alloc (.cells #[.slice (some ⟨g, 0, none⟩) n cap] 26)).alloc (.cells #[.int .i64 th, .int .i64 tv, .int .i64 tm, .int .i64 td] 31)) w.heap.size (.slice (some ⟨g, 0, none⟩) n cap) th tv tm td := by
    refine ⟨?_, ?_, ?_, ?_, ?_⟩ <;> go_simp
  have HR := Lib.hid (hr.below hb0)
  have HL := Lib.hid (hl.below hb0)
  have HB0 := Lib.hid hb0
  have HG0 := Lib.hid hg0
  have HN := Lib.hid hn
  clear hr hn hl hb0 hg0
  have HM := Lib.hid (fun w B B2 la hr hn h8 hl => specMomentsAt w B B2 g cap n la m lc js ls th tv tm td k hr hn h8 hl)
  have HV : RowKit.Hid (phIn js ls th tv tm td k = (phOk js ls th tv tm td k && passV (phA js ls th tv tm td k) (phB js ls th tv tm td k))) := Lib.hid rfl
  generalize phA js ls th tv tm td k = a at *
  generalize phB js ls th tv tm td k = b at *
  cases h : phOk js ls th tv tm td k
  · rw [h] at HV
    obtain ⟨s0, t0, t1, t2, t3⟩ := id HG0.out
    go_enter Try.func64, Try.ntmps64
    go_wp2_with fail
    refine (HM.out _ _ _ _ HR.out HN.out h8 HL.out).mono ?_
    rintro e w1 ⟨rfl, hb1⟩
    have HR1 := Lib.hid (HR.out.below hb1)
    have HL1 := Lib.hid (HL.out.below hb1)
    have HG1 := Lib.hid (HG0.out.below hb1)
    have HB1 := Lib.hid (HB0.out.trans (hb1.mono HB0.out.size))
    clear hb1 HR HL HG0 HB0
    clear s0 t0 t1 t2 t3
    obtain ⟨s0, t0, t1, t2, t3⟩ := id HG1.out
    go_wp2_with fail
    refine (specPushOk _ _ _ _ _ _ _ _ _ js ls th tv tm td k HR1.out HN.out h8 HL1.out).mono ?_
    rintro e w2 ⟨rfl, hb2⟩
    have HR2 := Lib.hid (HR1.out.below hb2)
    have HL2 := Lib.hid (HL1.out.below hb2)
    have HG2 := Lib.hid (HG1.out.below hb2)
    have HB2 := Lib.hid (HB1.out.trans (hb2.mono HB1.out.size))
    clear hb2 HR1 HL1 HG1 HB1
    clear s0 t0 t1 t2 t3
    rw [h]
    go_wp2_with fail
    go_ret
    exact ⟨ret_bool HV.out.symm, HB2.out⟩
  · rw [h] at HV
    by_cases ha : a ≤ 0
    · obtain ⟨s0, t0, t1, t2, t3⟩ := id HG0.out
      go_enter Try.func64, Try.ntmps64
      go_wp2_with fail
      refine (HM.out _ _ _ _ HR.out HN.out h8 HL.out).mono ?_
      rintro e w1 ⟨rfl, hb1⟩
      have HR1 := Lib.hid (HR.out.below hb1)
      have HL1 := Lib.hid (HL.out.below hb1)
      have HG1 := Lib.hid (HG0.out.below hb1)
      have HB1 := Lib.hid (HB0.out.trans (hb1.mono HB0.out.size))
      clear hb1 HR HL HG0 HB0
      clear s0 t0 t1 t2 t3
      obtain ⟨s0, t0, t1, t2, t3⟩ := id HG1.out
      go_wp2_with fail
      refine (specPushOk _ _ _ _ _ _ _ _ _ js ls th tv tm td k HR1.out HN.out h8 HL1.out).mono ?_
      rintro e w2 ⟨rfl, hb2⟩
      have HR2 := Lib.hid (HR1.out.below hb2)
      have HL2 := Lib.hid (HL1.out.below hb2)
      have HG2 := Lib.hid (HG1.out.below hb2)
      have HB2 := Lib.hid (HB1.out.trans (hb2.mono HB1.out.size))
      clear hb2 HR1 HL1 HG1 HB1
      clear s0 t0 t1 t2 t3
      rw [h]
      go_wp2_with fail
      go_ret
      exact ⟨ret_bool (by rw [HV.out]; unfold passV; simp <;> omega), HB2.out⟩
    · obtain ⟨s0, t0, t1, t2, t3⟩ := id HG0.out
      go_enter Try.func64, Try.ntmps64
      go_wp2_with fail
      refine (HM.out _ _ _ _ HR.out HN.out h8 HL.out).mono ?_
      rintro e w1 ⟨rfl, hb1⟩
      have HR1 := Lib.hid (HR.out.below hb1)
      have HL1 := Lib.hid (HL.out.below hb1)
      have HG1 := Lib.hid (HG0.out.below hb1)
      have HB1 := Lib.hid (HB0.out.trans (hb1.mono HB0.out.size))
      clear hb1 HR HL HG0 HB0
      clear s0 t0 t1 t2 t3
      obtain ⟨s0, t0, t1, t2, t3⟩ := id HG1.out
      go_wp2_with fail
      refine (specPushOk _ _ _ _ _ _ _ _ _ js ls th tv tm td k HR1.out HN.out h8 HL1.out).mono ?_
      rintro e w2 ⟨rfl, hb2⟩
      have HR2 := Lib.hid (HR1.out.below hb2)
      have HL2 := Lib.hid (HL1.out.below hb2)
      have HG2 := Lib.hid (HG1.out.below hb2)
      have HB2 := Lib.hid (HB1.out.trans (hb2.mono HB1.out.size))
      clear hb2 HR1 HL1 HG1 HB1
      clear s0 t0 t1 t2 t3
      rw [h]
      go_wp2_with fail
      go_ret
      exact ⟨ret_bool (by rw [HV.out]; unfold passV; simp <;> omega), HB2.out⟩

set_option maxHeartbeats 1000000 in
theorem specPlaceAt (w : World) (B B2 g cap n : Nat) (la : Option Addr) (m lc : Nat) (js : List Jt) (ls : List Ld) (th tv tm td k : Int) (hr : JRowAt w B g cap js) (hn : js.length = n) (h8 : n ≤ 1048576) (hl : Lds w B2 la m lc ls) :
    Calls Try.prog 39 #[.agg #[.slice (some ⟨g, 0, none⟩) n cap], .slice la m lc, .agg #[.int .i64 th, .int .i64 tv, .int .i64 tm, .int .i64 td], .int .i64 k] w fun e w' => e = .returned (plV (phA js ls th tv tm td k) (phB js ls th tv tm td k)) ∧ Below w.heap.size w w' := by
  have hb0 := ((Below.refl w.heap.size w).alloc (Nat.le_refl _) (.cells #[.slice (some ⟨g, 0, none⟩) n cap] 26)).alloc (by simp) (.cells #[.int .i64 th, .int .i64 tv, .int .i64 tm, .int .i64 td] 31)
  have hg0 : GBox ((w.alloc (.cells #[.slice (some ⟨g, 0, none⟩) n cap] 26)).alloc (.cells #[.int .i64 th, .int .i64 tv, .int .i64 tm, .int .i64 td] 31)) w.heap.size (.slice (some ⟨g, 0, none⟩) n cap) th tv tm td := by
    refine ⟨?_, ?_, ?_, ?_, ?_⟩ <;> go_simp
  have HR := Lib.hid (hr.below hb0)
  have HL := Lib.hid (hl.below hb0)
  have HB0 := Lib.hid hb0
  have HG0 := Lib.hid hg0
  have HN := Lib.hid hn
  clear hr hn hl hb0 hg0
  have HM := Lib.hid (fun w B B2 la hr hn h8 hl => specMomentsAt w B B2 g cap n la m lc js ls th tv tm td k hr hn h8 hl)
  have HI := Lib.hid (fun w B B2 la hr hn h8 hl => specIsInside w B B2 g cap n la m lc js ls th tv tm td k hr hn h8 hl)
  have hp := pl_in (js := js) (ls := ls) (h := th) (v := tv) (m := tm) (d := td) (k := k)
  have ba := phA_bd js ls th tv tm td k
  have bb := phB_bd js ls th tv tm td k
  generalize phA js ls th tv tm td k = a at *
  generalize phB js ls th tv tm td k = b at *
  have wa : IntKind.i64.wrap (-a) = -a := IntWalk.i64_in _ (by omega)
  have wb : IntKind.i64.wrap (b - a) = b - a := IntWalk.i64_in _ (by omega)
  cases h : phIn js ls th tv tm td k
  · have HV := Lib.hid (plV_no (a := a) (b := b) (by rw [hp, h]; rfl))
    clear hp ba bb
    obtain ⟨s0, t0, t1, t2, t3⟩ := id HG0.out
    go_enter Try.func39, Try.ntmps39
    go_wp2_with fail
    refine (HM.out _ _ _ _ HR.out HN.out h8 HL.out).mono ?_
    rintro e w1 ⟨rfl, hb1⟩
    have HR1 := Lib.hid (HR.out.below hb1)
    have HL1 := Lib.hid (HL.out.below hb1)
    have HG1 := Lib.hid (HG0.out.below hb1)
    have HB1 := Lib.hid (HB0.out.trans (hb1.mono HB0.out.size))
    clear hb1 HR HL HG0 HB0
    clear s0 t0 t1 t2 t3
    obtain ⟨s0, t0, t1, t2, t3⟩ := id HG1.out
    go_wp2_with fail
    refine (HI.out _ _ _ _ HR1.out HN.out h8 HL1.out).mono ?_
    rintro e w2 ⟨rfl, hb2⟩
    have HR2 := Lib.hid (HR1.out.below hb2)
    have HL2 := Lib.hid (HL1.out.below hb2)
    have HG2 := Lib.hid (HG1.out.below hb2)
    have HB2 := Lib.hid (HB1.out.trans (hb2.mono HB1.out.size))
    clear hb2 HR1 HL1 HG1 HB1
    clear s0 t0 t1 t2 t3
    rw [h]
    go_wp2_with fail
    refine bodyPost_ret (v := .tuple #[.int .i64 0, .int .i64 0, .bool false]) (by simp [results, Try.results39, go_sem]) rfl ⟨by rw [HV.out], HB2.out⟩
  rw [h, Bool.true_and] at hp
  by_cases hz : a = 0 ∧ b = 0
  · obtain ⟨rfl, rfl⟩ := hz
    have HV := Lib.hid (plV_no (a := 0) (b := 0) (by decide))
    clear hp ba bb
    obtain ⟨s0, t0, t1, t2, t3⟩ := id HG0.out
    go_enter Try.func39, Try.ntmps39
    go_wp2_with fail
    refine (HM.out _ _ _ _ HR.out HN.out h8 HL.out).mono ?_
    rintro e w1 ⟨rfl, hb1⟩
    have HR1 := Lib.hid (HR.out.below hb1)
    have HL1 := Lib.hid (HL.out.below hb1)
    have HG1 := Lib.hid (HG0.out.below hb1)
    have HB1 := Lib.hid (HB0.out.trans (hb1.mono HB0.out.size))
    clear hb1 HR HL HG0 HB0
    clear s0 t0 t1 t2 t3
    obtain ⟨s0, t0, t1, t2, t3⟩ := id HG1.out
    go_wp2_with fail
    refine (HI.out _ _ _ _ HR1.out HN.out h8 HL1.out).mono ?_
    rintro e w2 ⟨rfl, hb2⟩
    have HR2 := Lib.hid (HR1.out.below hb2)
    have HL2 := Lib.hid (HL1.out.below hb2)
    have HG2 := Lib.hid (HG1.out.below hb2)
    have HB2 := Lib.hid (HB1.out.trans (hb2.mono HB1.out.size))
    clear hb2 HR1 HL1 HG1 HB1
    clear s0 t0 t1 t2 t3
    rw [h]
    go_wp2_with fail
    refine bodyPost_ret (v := .tuple #[.int .i64 0, .int .i64 0, .bool false]) (by simp [results, Try.results39, go_sem]) rfl ⟨by rw [HV.out], HB2.out⟩
  · have hok : plOk a b = true := by rw [hp]; simp; omega
    have hg0 : ¬ plG a b = 0 := by have := plG_pos hok; omega
    have bN := plN_bd (x := -a) (a := a) (b := b)
    have bD := plN_bd (x := b - a) (a := a) (b := b)
    have hV := plV_yes hok
    have HGC := Lib.hid (fun w => specGcd (-a) (b - a) w (by omega) (by omega))
    rw [show ((Nat.gcd (-a).natAbs (b - a).natAbs : Nat) : Int) = plG a b from rfl] at HGC
    obtain ⟨G, hG⟩ : ∃ G, plG a b = G := ⟨_, rfl⟩
    rw [hG] at hg0 bN bD hV HGC
    obtain ⟨p, hP⟩ : ∃ p, (-a).tdiv G = p := ⟨_, rfl⟩
    obtain ⟨q, hQ⟩ : ∃ q, (b - a).tdiv G = q := ⟨_, rfl⟩
    rw [hP] at bN hV
    rw [hQ] at bD hV
    have wp_ : IntKind.i64.wrap p = p := IntWalk.i64_in _ (by omega)
    have wq : IntKind.i64.wrap q = q := IntWalk.i64_in _ (by omega)
    have HV := Lib.hid hV
    have hab : ((a == 0) && (b == 0)) = false := by simpa using hz
    have HZ := Lib.hid hz
    clear hok bN bD hG ba bb hV hp hz
    cases hz0 : a == 0
    · obtain ⟨s0, t0, t1, t2, t3⟩ := id HG0.out
      go_enter Try.func39, Try.ntmps39
      go_wp2_with fail
      refine (HM.out _ _ _ _ HR.out HN.out h8 HL.out).mono ?_
      rintro e w1 ⟨rfl, hb1⟩
      have HR1 := Lib.hid (HR.out.below hb1)
      have HL1 := Lib.hid (HL.out.below hb1)
      have HG1 := Lib.hid (HG0.out.below hb1)
      have HB1 := Lib.hid (HB0.out.trans (hb1.mono HB0.out.size))
      clear hb1 HR HL HG0 HB0
      clear s0 t0 t1 t2 t3
      obtain ⟨s0, t0, t1, t2, t3⟩ := id HG1.out
      go_wp2_with fail
      refine (HI.out _ _ _ _ HR1.out HN.out h8 HL1.out).mono ?_
      rintro e w2 ⟨rfl, hb2⟩
      have HR2 := Lib.hid (HR1.out.below hb2)
      have HL2 := Lib.hid (HL1.out.below hb2)
      have HG2 := Lib.hid (HG1.out.below hb2)
      have HB2 := Lib.hid (HB1.out.trans (hb2.mono HB1.out.size))
      clear hb2 HR1 HL1 HG1 HB1
      clear s0 t0 t1 t2 t3
      rw [h]
      go_wp2_with fail
      refine (HGC.out _).mono ?_
      rintro e w3 ⟨rfl, hb3⟩
      have HB3 := Lib.hid (HB2.out.trans (hb3.mono HB2.out.size))
      clear hb3
      go_wp2_with fail
      go_quiet (fail)
      go_wp2_with fail
      refine bodyPost_ret (v := .tuple #[.int .i64 p, .int .i64 q, .bool true]) (by simp [results, Try.results39, go_sem]) rfl ⟨by rw [HV.out], below_drewN HB3.out _⟩
    · obtain ⟨s0, t0, t1, t2, t3⟩ := id HG0.out
      go_enter Try.func39, Try.ntmps39
      go_wp2_with fail
      refine (HM.out _ _ _ _ HR.out HN.out h8 HL.out).mono ?_
      rintro e w1 ⟨rfl, hb1⟩
      have HR1 := Lib.hid (HR.out.below hb1)
      have HL1 := Lib.hid (HL.out.below hb1)
      have HG1 := Lib.hid (HG0.out.below hb1)
      have HB1 := Lib.hid (HB0.out.trans (hb1.mono HB0.out.size))
      clear hb1 HR HL HG0 HB0
      clear s0 t0 t1 t2 t3
      obtain ⟨s0, t0, t1, t2, t3⟩ := id HG1.out
      go_wp2_with fail
      refine (HI.out _ _ _ _ HR1.out HN.out h8 HL1.out).mono ?_
      rintro e w2 ⟨rfl, hb2⟩
      have HR2 := Lib.hid (HR1.out.below hb2)
      have HL2 := Lib.hid (HL1.out.below hb2)
      have HG2 := Lib.hid (HG1.out.below hb2)
      have HB2 := Lib.hid (HB1.out.trans (hb2.mono HB1.out.size))
      clear hb2 HR1 HL1 HG1 HB1
      clear s0 t0 t1 t2 t3
      rw [h]
      have hz1 : (b == 0) = false := by rw [hz0] at hab; simpa using hab
      go_wp2_with fail
      refine (HGC.out _).mono ?_
      rintro e w3 ⟨rfl, hb3⟩
      have HB3 := Lib.hid (HB2.out.trans (hb3.mono HB2.out.size))
      clear hb3
      go_wp2_with fail
      go_quiet (fail)
      go_wp2_with fail
      refine bodyPost_ret (v := .tuple #[.int .i64 p, .int .i64 q, .bool true]) (by simp [results, Try.results39, go_sem]) rfl ⟨by rw [HV.out], below_drewN HB3.out _⟩
end Go.Proofs.Ytbmlcfdilopmgaa
