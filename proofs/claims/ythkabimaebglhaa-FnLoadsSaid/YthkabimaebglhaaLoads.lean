/- Weights and moments add up from left to right: the law of promise 7. -/
import Derived.Test.YthkabimaebglhaaLoadE
import Derived.Test.YthkabimaebglhaaLoadI
import Derived.Test.YthkabimaebglhaaLoadG
import Derived.Test.YthkabimaebglhaaArchO
import Derived.Test.YthkabimaebglhaaWeightS
import Derived.Test.YthkabimaebglhaaRows
import Derived.WalkKit
import Derived.ProofKit
import Derived.OpenShut
import Derived.ShutString
import Derived.ChangeOld
import Derived.Below
namespace Go.Proofs.Ythkabimaebglhaa.fnLoads
set_option maxRecDepth 100000
open Go.ChangeShapes Go.WideShapes Go.ChangeAt Go.RowKit
open Go.ChangeMaps (open_string shut_string)
set_option linter.unusedVariables false

theorem own : ownKnob Try.prog.godebug = none := by kernel_rfl
theorem laidOut : laidOutB Try.prog = true := by kernel_rfl

/-- WHAT THE WALK IS TOLD OF A SLICE OF INTEGERS THAT CAME IN: it is nil; or it leads to a row of 'cap' cells, the numbers 'zs' (the first 'len' are its elements, the rest its spare room), each fitting its kind. -/
def IsRow (k : IntKind) (w : World) (a : Option Addr) (len cap : Nat) (zs : List Int) : Prop :=
  (a = none ∧ len = 0 ∧ cap = 0 ∧ zs = []) ∨
  ∃ x, a = some x ∧ len ≤ cap ∧ cap ≤ maxLen ∧ zs.length = cap ∧ (∀ i, i < zs.length → w.cell? (x.add i) = some (.int k (zs.getD i 0))) ∧ ∀ n ∈ zs, (Lit.int k n).wf = true

theorem step_b {a w w' : World} (h : RowKit.Hid (Below a.heap.size a w)) (k : Below w.heap.size w w') : Below a.heap.size a w' := h.out.trans (k.mono h.out.size)
theorem alloc_bel (w : World) (o : Obj) : Below w.heap.size w (w.alloc o) := (Below.refl w.heap.size w).alloc (Nat.le_refl _) o
theorem near_loads {js : List Jt} {ls : List Ld} {n : Nat} (hf : Fine 4 js) (hn : js.length = n) (h3 : ls.length ≤ 3) (h : LdsNear n ls) : loadsV js ls = true :=
  loadsV_iff.2 ⟨hf.1, by omega, fun i hi => by rw [hn]; exact (h i hi).ok⟩
theorem near_twice {n : Nat} {l : Ld} (h : LdNear n l) : sclOk 2 l = true ∧ ldOk n (scl 2 l) = true := by
  obtain ⟨h1, h2, h3⟩ := h
  refine ⟨?_, ldOk_iff.2 ⟨h1, by show 0 ≤ l.2.1 * 2 ∧ l.2.1 * 2 ≤ 10000; omega, by show -60 ≤ l.2.2 ∧ l.2.2 ≤ 60; omega⟩⟩
  unfold sclOk
  rw [ldW_iff.2 (by omega), decide_eq_true (show l.2.1 * 2 ≤ 10000 by omega)]
  rfl
theorem twice_yes {ls : List Ld} {n : Nat} (h3 : ls.length ≤ 3) (h : LdsNear n ls) : sclV 2 ls = true :=
  sclV_yes (by omega) (by omega) (allV_iff.2 fun i hi => (near_twice (h i hi)).1)
theorem twice_ok {js : List Jt} {ls : List Ld} {n : Nat} (hf : Fine 4 js) (hn : js.length = n) (h3 : ls.length ≤ 3) (h : LdsNear n ls) : loadsV js (ls.map (scl 2)) = true :=
  loadsV_iff.2 ⟨hf.1, by rw [List.length_map]; omega, fun i hi => by
    rw [List.length_map] at hi
    rw [hn, ld_map 2 ls i hi]; exact (near_twice (h i hi)).2⟩
theorem none_ok {js : List Jt} (hf : Fine 4 js) : loadsV js [] = true := loadsV_iff.2 ⟨hf.1, by simp, fun i hi => absurd hi (Nat.not_lt_zero i)⟩
theorem sumTo_twice (f g : Nat → Int) (n : Nat) (h : ∀ i, i < n → g i = 2 * f i) : sumTo g n = 2 * sumTo f n := by
  induction n with
  | zero => rfl
  | succ n ih =>
    show sumTo g n + g n = 2 * (sumTo f n + f n)
    rw [ih fun i hi => h i (by omega), h n (by omega)]
    omega
/-- Twice the loads: twice what they add. -/
theorem total_twice {js : List Jt} {ls : List Ld} {k : Nat} (h0 : loadsV js [] = true) (h1 : loadsV js ls = true) (h2 : loadsV js (ls.map (scl 2)) = true) (hk : k < js.length) :
    leftF wL js (ls.map (scl 2)) k - leftF wL js [] k = 2 * (leftF wL js ls k - leftF wL js [] k) := by
  rw [leftF_yes h0 hk, leftF_yes h1 hk, leftF_yes h2 hk]
  unfold wL
  rw [stF_sum wK ldw js _ fun i hi => (ldOk_iff.1 ((loadsV_iff.1 h0).2.2 i hi)).1.1, stF_sum wK ldw js _ fun i hi => (ldOk_iff.1 ((loadsV_iff.1 h1).2.2 i hi)).1.1, stF_sum wK ldw js _ fun i hi => (ldOk_iff.1 ((loadsV_iff.1 h2).2.2 i hi)).1.1]
  have hz : sumTo (befF ldw [] k) ([] : List Ld).length = 0 := rfl
  have ht : sumTo (befF ldw (ls.map (scl 2)) k) (ls.map (scl 2)).length = 2 * sumTo (befF ldw ls k) ls.length := by
    rw [List.length_map]
    refine sumTo_twice _ _ _ fun i hi => ?_
    unfold befF
    rw [ld_map 2 ls i hi]
    show (if (ld ls i).1 < (k : Int) then (ld ls i).2.1 * 2 else 0) = 2 * (if (ld ls i).1 < (k : Int) then (ld ls i).2.1 else 0)
    split <;> omega
  rw [hz, ht]
  omega

/-! ### THE WALK: the Go text returns true, and writes nothing that was there. -/
set_option maxRecDepth 100000 in
set_option maxHeartbeats 8000000 in
theorem walk (a0 : Option Addr) (len0 cap0 : Nat) (z0 : List Int) (w : World) (g0 : IsRow .u8 w a0 len0 cap0 z0) :
    Calls Try.prog 3 #[.slice a0 len0 cap0] w fun e w' => e = .returned (.bool true) ∧ Below w.heap.size w w' := by
  have hr : IsCode w a0 len0 cap0 z0 := g0
  clear g0
  have hm := (code_cells hr).1
  unfold maxLen at hm
  by_cases hbig : 1048576 < len0
  · clear hr
    go_enter Try.func3, Try.ntmps3
    go_wp2_with (go_at_call 9; refine (big_yes _ _ _ _ (by omega) (by omega)).mono ?_; rintro e w' ⟨rfl, rfl⟩)
    go_ret
    exact ⟨rfl, Below.refl _ _⟩
  go_enter Try.func3, Try.ntmps3
  go_wp2_with fail
  refine (big_no _ _ _ _ (by omega) (by omega)).mono ?_
  rintro e w' ⟨rfl, rfl⟩
  go_wp2_with fail
  refine (drawLoaded _ _ _ _ _ hr).mono ?_
  rintro e w1 ⟨g, cp, n, js, v, ls, hf, hjn, hl3, hnr, rfl, hrow, hlr, hb1⟩
  have hv := hf.1
  have h38 := arch_size hv
  rw [hjn] at h38
  obtain ⟨h3, h8⟩ := h38
  obtain ⟨-, hg1, hcp, hcm⟩ := hrow.lt
  rw [hjn] at hcp
  unfold maxLen at hcm
  obtain ⟨la, lc, rfl, hlc, hlm⟩ := lrow_slice hlr
  obtain ⟨m, hml⟩ : ∃ m, ls.length = m := ⟨_, rfl⟩
  rw [hml] at hlc hl3 ⊢
  have hlr' : Lds w1 w.heap.size la m lc ls := ⟨by rw [← hml]; exact hlr, hml⟩
  unfold maxLen at hlm
  obtain ⟨N, hnN⟩ : ∃ N, n = N + 1 := ⟨n - 1, by omega⟩
  have hN2 : 2 ≤ N := by omega
  have hN7 : N ≤ 7 := by omega
  have hLV := near_loads hf hjn (by omega) hnr
  have hLT := twice_ok hf hjn (by omega) hnr
  have hL0 := none_ok hf
  have hTY := twice_yes (by omega) hnr
  have HLV := Lib.hid hLV
  have HLT := Lib.hid hLT
  have HL0 := Lib.hid hL0
  have HTY := Lib.hid hTY
  have HV := Lib.hid hv
  have HN := Lib.hid hjn
  have HNN := Lib.hid hnN
  have HML := Lib.hid hml
  have e1 : IntKind.i64.wrap ((n : Int) - 1) = (N : Int) := by rw [IntWalk.i64_in _ (by omega)]; omega
  have hal := alloc_bel w1 (.cells #[.slice (some ⟨g, 0, none⟩) n cp] 26)
  have RW1 := Lib.hid (JRowAt.below hrow hal)
  have RL1 := Lib.hid (hlr'.below hal)
  have HB1 := Lib.hid (hb1.trans (hal.mono hb1.size))
  have hs1 : (w1.alloc (.cells #[.slice (some ⟨g, 0, none⟩) n cp] 26)).cell? ⟨w1.heap.size, 0, none⟩ = some (.slice (some ⟨g, 0, none⟩) n cp) := by go_simp
  have HS1 := Lib.hid hs1
  have hNn : N < n := by omega
  clear hrow hlr hlr' hb1 hal hs1 hr hf hv hjn hnN hml hLV hLT hL0 hTY hnr
  go_upto_region 5 with (fail)
  generalize hW : w1.alloc (.cells #[.slice (some ⟨g, 0, none⟩) n cp] 26) = W at *
  generalize w1.heap.size = bA at *
  have KEEP : ∀ W', Below W.heap.size W W' → JRowAt W' w.heap.size g cp js ∧ Lds W' w.heap.size la m lc ls ∧ Below w.heap.size w W' ∧ W'.cell? ⟨bA, 0, none⟩ = some (.slice (some ⟨g, 0, none⟩) n cp) := fun W' h =>
    ⟨JRowAt.below RW1.out h, RL1.out.below h, HB1.out.trans (h.mono HB1.out.size), cell_kept HS1.out h⟩
  have HK := Lib.hid KEEP
  clear KEEP hW
  go_wp2_with fail
  go_loopw [6, 7, 8] (fun p q t wr => ∃ k : Nat, k ≤ N ∧ t = .int .i64 k ∧ p = .int .i64 (sumTo (wL js ls) k) ∧ q = .int .i64 (sumTo (mL js ls) k) ∧ Below W.heap.size W wr)
    (fun _ _ t _ => N - (intOf t).toNat)
  case atStart => exact ⟨0, Nat.zero_le _, rfl, rfl, rfl, Below.refl _ _⟩
  case round =>
    clear RW1 RL1 HB1 HS1
    obtain ⟨k, hk, rfl, rfl, rfl, hbw⟩ := hrel
    have HBW := Lib.hid hbw
    obtain ⟨rw1, rl1, -, sr⟩ := HK.out _ hbw
    have RWR := Lib.hid rw1
    have RLR := Lib.hid rl1
    clear rw1 rl1
    by_cases hlt : k < N
    · have hkl : k + 1 < js.length := by rw [HN.out, HNN.out]; omega
      have hsv := soV_yes HV.out hkl
      have hwl := leftF_yes (f := wL) HLV.out (show k < js.length by omega)
      have hml := leftF_yes (f := mL) HLV.out (show k < js.length by omega)
      have hSb := wL_bd HLV.out k (by omega)
      have hMb := mL_bd HLV.out k (by omega)
      have hSn := wL_bd HLV.out (k + 1) (by omega)
      have hMn := mL_bd HLV.out (k + 1) (by omega)
      have hn1 : sumTo (wL js ls) (k + 1) = sumTo (wL js ls) k + weightV (betw (jt js k) (jt js (k + 1))) + sumTo (onF ldw ls k) m := by
        show sumTo (wL js ls) k + (weightV (betw (jt js k) (jt js (k + 1))) + sumTo (onF ldw ls k) ls.length) = _
        rw [HML.out]; omega
      have hn2 : sumTo (mL js ls) (k + 1) = sumTo (mL js ls) k + momV (betw (jt js k) (jt js (k + 1))) + sumTo (onF ldm ls k) m := by
        show sumTo (mL js ls) k + (momV (betw (jt js k) (jt js (k + 1))) + sumTo (onF ldm ls k) ls.length) = _
        rw [HML.out]; omega
      have hw5 := weightV_bd (betw (jt js k) (jt js (k + 1)))
      have hm5 := momV_bd (betw (jt js k) (jt js (k + 1)))
      have HN1 := Lib.hid hn1
      have HN2 := Lib.hid hn2
      have HWL := Lib.hid hwl
      have HMLF := Lib.hid hml
      generalize betw (jt js k) (jt js (k + 1)) = V at *
      generalize sumTo (wL js ls) k = Sj at *
      generalize sumTo (mL js ls) k = Mj at *
      have hne1 : (Sj != Sj) = false := by simp
      have hne2 : (Mj != Mj) = false := by simp
      have HSV := Lib.hid hsv
      clear hsv hwl hml hn1 hn2 hSn hMn hkl
      go_wp2_with fail
      refine (implWeightLeft _ _ _ _ _ _ _ _ _ js ls k RWR.out HN.out RLR.out).mono ?_
      rintro e w2 ⟨rfl, hb2⟩
      rw [HWL.out]
      have HB2 := Lib.hid (step_b HBW hb2)
      have s2 := (HK.out _ HB2.out).2.2.2
      clear hb2 sr hbw
      go_wp2_with fail
      refine (implMomentLeft _ _ _ _ _ _ _ _ _ js ls k (HK.out _ HB2.out).1 HN.out (HK.out _ HB2.out).2.1).mono ?_
      rintro e w3 ⟨rfl, hb3⟩
      rw [HMLF.out]
      have HB3 := Lib.hid (step_b HB2 hb3)
      have s3 := (HK.out _ HB3.out).2.2.2
      clear hb3 s2
      go_wp2_with fail
      refine (specStoneOf _ _ _ _ _ js k (HK.out _ HB3.out).1 HN.out (by omega)).mono ?_
      rintro e w4 ⟨us, rfl, hrs, hb4⟩
      rw [HSV.out] at hrs
      obtain ⟨sa, sc, rfl, -⟩ := row_sliceS hrs
      have hal := alloc_bel w4 (.cells #[.slice sa V.length sc] 33)
      have HB4 := Lib.hid ((step_b HB3 hb4).trans (hal.mono (step_b HB3 hb4).size))
      have HRS := Lib.hid (hrs.below hal)
      have hss : (w4.alloc (.cells #[.slice sa V.length sc] 33)).cell? ⟨w4.heap.size, 0, none⟩ = some (.slice sa V.length sc) := by go_simp
      have HSS := Lib.hid hss
      clear hb4 hrs hal hss s3
      go_wp2_with fail
      generalize hW5 : w4.alloc (.cells #[.slice sa V.length sc] 33) = w5 at *
      generalize w4.heap.size = bS at *
      have s5 := HSS.out
      clear hW5
      refine (specWeightOf _ _ _ V HRS.out).mono ?_
      rintro e w6 ⟨rfl, hb6⟩
      have HB6 := Lib.hid (step_b HB4 hb6)
      have HRS6 := Lib.hid (HRS.out.below hb6)
      have s6 := cell_kept s5 hb6
      clear hb6 s5 HSS
      go_wp2_with fail
      refine (specMomentOf _ _ _ V HRS6.out).mono ?_
      rintro e w7 ⟨rfl, hb7⟩
      have HB7 := Lib.hid (step_b HB6 hb7)
      clear hb7 s6 HRS6
      have HL7 := Lib.hid (HK.out _ HB7.out).2.1
      have hwz := HB7.out.size
      have H6 := Lib.hid (loadsV_iff.1 HLV.out).2.1
      have HOK := Lib.hid (loadsV_iff.1 HLV.out).2.2
      generalize weightV V = Wv at *
      generalize momV V = Mv at *
      obtain ⟨X0, hX0⟩ : ∃ X, X = Sj + Wv := ⟨_, rfl⟩
      obtain ⟨Y0, hY0⟩ : ∃ Y, Y = Mj + Mv := ⟨_, rfl⟩
      have hXw : IntKind.i64.wrap (Sj + Wv) = X0 := by rw [hX0]; exact IntWalk.i64_in _ (by omega)
      have hYw : IntKind.i64.wrap (Mj + Mv) = Y0 := by rw [hY0]; exact IntWalk.i64_in _ (by omega)
      have hXb : -100000000 ≤ X0 ∧ X0 ≤ 100000000 := by omega
      have hYb : -100000000 ≤ Y0 ∧ Y0 ≤ 100000000 := by omega
      try rw [hX0.symm]
      try rw [hY0.symm]
      have HX0 := Lib.hid hX0
      have HY0 := Lib.hid hY0
      clear hX0 hY0 hw5 hm5
      go_wp2_with fail
      go_loopw [6, 7, 10] (fun p q t wr => ∃ i : Nat, i ≤ m ∧ t = .int .i64 i ∧ p = .int .i64 (X0 + sumTo (onF ldw ls k) i) ∧ q = .int .i64 (Y0 + sumTo (onF ldm ls k) i) ∧ Below w7.heap.size w7 wr)
        (fun _ _ t _ => m - (intOf t).toNat)
      case atStart => exact ⟨0, Nat.zero_le _, rfl, by simp [sumTo], by simp [sumTo], Below.refl _ _⟩
      case round =>
        obtain ⟨i, hi, rfl, rfl, rfl, hbi⟩ := hrel
        have HBI := Lib.hid hbi
        have hS := onF_bd (f := ldw) (fun l hl => ldw_bd hl) H6.out HOK.out k i (by have := HML.out; omega)
        have hM := onF_bd (f := ldm) (fun l hl => ldm_bd hl) H6.out HOK.out k i (by have := HML.out; omega)
        by_cases hlt2 : i < m
        · obtain ⟨gl, rfl, -, l0, l1, l2⟩ := (HL7.out.below hbi).at i hlt2
          have hO := ldOk_iff.1 (HOK.out i (by have := HML.out; omega))
          have HI1 := Lib.hid (show sumTo (onF ldw ls k) (i + 1) = sumTo (onF ldw ls k) i + onF ldw ls k i from rfl)
          have HI2 := Lib.hid (show sumTo (onF ldm ls k) (i + 1) = sumTo (onF ldm ls k) i + onF ldm ls k i from rfl)
          have HYW := Lib.hid (onF_yes (f := ldw) (ls := ls) (k := k) (i := i))
          have HYM := Lib.hid (onF_yes (f := ldm) (ls := ls) (k := k) (i := i))
          have HNW := Lib.hid (onF_no (f := ldw) (ls := ls) (k := k) (i := i))
          have HNM := Lib.hid (onF_no (f := ldm) (ls := ls) (k := k) (i := i))
          have hw0 : ldw (ld ls i) = (ld ls i).2.1 := rfl
          have hm0 : ldm (ld ls i) = (ld ls i).2.1 * (ld ls i).2.2 := rfl
          rw [hw0] at HYW
          rw [hm0] at HYM
          clear hw0 hm0
          generalize (ld ls i).1 = lx at *
          generalize (ld ls i).2.1 = ly at *
          generalize (ld ls i).2.2 = lz at *
          generalize sumTo (onF ldw ls k) i = LW at *
          generalize sumTo (onF ldm ls k) i = LM at *
          have hmul := mul_bd (x := ly) (y := lz) 10000 60 ⟨by omega, by omega⟩ ⟨by omega, by omega⟩
          obtain ⟨P, hP⟩ : ∃ P, P = ly * lz := ⟨_, rfl⟩
          have hwr : IntKind.i64.wrap (ly * lz) = P := by rw [hP]; exact IntWalk.i64_in _ (by omega)
          rw [← hP] at hmul HYM
          obtain ⟨SX, hSX⟩ : ∃ S, S = X0 + LW := ⟨_, rfl⟩
          obtain ⟨SY, hSY⟩ : ∃ S, S = Y0 + LM := ⟨_, rfl⟩
          have hSXb : -200000000 ≤ SX ∧ SX ≤ 200000000 := by omega
          have hSYb : -200000000 ≤ SY ∧ SY ≤ 200000000 := by omega
          rw [← hSX, ← hSY]
          have HSX := Lib.hid hSX
          have HSY := Lib.hid hSY
          clear hP hSX hSY hS hM hbi hXb hYb hXw hYw hSb hMb
          by_cases hxk : lx = (k : Int)
          · have HY1 := Lib.hid (HYW.out hxk)
            have HY2 := Lib.hid (HYM.out hxk)
            have hq : (lx == (k : Int)) = true := by simp [hxk]
            clear HYW HYM HNW HNM hxk
            go_wp2_with fail
            have hn1 := Since.nonempty wr
            have t1 := fun (x : Since wr) => (x.cell gl (i * 3 + 1) (cell_block_lt l1)).trans l1
            have t2 := fun (x : Since wr) => (x.cell gl (i * 3 + 2) (cell_block_lt l2)).trans l2
            refine wp_region_since (by kernel_rfl) (by kernel_rfl) ?_
            repeat (go_big_quiet_step (fail))
            refine wpQuiet_nil ?_
            rintro w8 ⟨⟨_, hb8⟩, rfl⟩
            have HB8 := Lib.hid (HBI.out.trans (hb8.mono HBI.out.size))
            clear t1 t2 hn1 hb8 l0 l1 l2
            go_wp2_with fail
            go_roundw
            case rel => exact ⟨i + 1, by omega, by go_num, by rw [HI1.out, HY1.out, ← Int.add_assoc, ← HSX.out], by rw [HI2.out, HY2.out, ← Int.add_assoc, ← HSY.out], HB8.out⟩
            case measure => simp [intOf]; omega
          · have HY1 := Lib.hid (HNW.out hxk)
            have HY2 := Lib.hid (HNM.out hxk)
            have hq : (lx == (k : Int)) = false := by simp [hxk]
            clear HYW HYM HNW HNM hxk
            go_wp2_with fail
            go_roundw
            case rel => exact ⟨i + 1, by omega, by go_num, by rw [HI1.out, HY1.out, Int.add_zero, ← HSX.out], by rw [HI2.out, HY2.out, Int.add_zero, ← HSY.out], HBI.out⟩
            case measure => simp [intOf]; omega
        · have him : i = m := by omega
          rw [him, HX0.out, HY0.out, ← HN1.out, ← HN2.out]
          have HBo := Lib.hid (HB7.out.trans (hbi.mono hwz))
          clear hbi hS hM hXb hYb hXw hYw hSb hMb HL7 HBI
          go_wp2_with fail
          go_roundw
          case rel => exact ⟨k + 1, by omega, by go_num, rfl, rfl, HBo.out⟩
          case measure => simp [intOf]; omega
    · have hkN : k = N := by omega
      rw [hkN]
      clear hbw sr
      have hwl := leftF_yes (f := wL) HLV.out (show N < js.length by rw [HN.out]; exact hNn)
      have hml := leftF_yes (f := mL) HLV.out (show N < js.length by rw [HN.out]; exact hNn)
      have htw := total_twice HL0.out HLV.out HLT.out (show N < js.length by rw [HN.out]; exact hNn)
      have hb1 := wL_bd HLV.out N (by omega)
      have hb0 := wL_bd HL0.out N (by omega)
      have hb2 := wL_bd HLT.out N (by omega)
      rw [← leftF_yes HLV.out (show N < js.length by rw [HN.out]; exact hNn)] at hb1
      rw [← leftF_yes HL0.out (show N < js.length by rw [HN.out]; exact hNn)] at hb0
      rw [← leftF_yes HLT.out (show N < js.length by rw [HN.out]; exact hNn)] at hb2
      rw [← hwl, ← hml]
      have HE1 := Lib.hid (show (n : Int) - 1 = (N : Int) by have := HNN.out; omega)
      have HSC := Lib.hid (sclRow_yes HTY.out)
      have HWI := Lib.hid (fun W' h1 (a : Option Addr) (mm cc : Nat) (l2 : List Ld) h2 => by have h := implTotalOf W' w.heap.size w.heap.size g cp n a mm cc js l2 h1 HN.out h2; rw [HE1.out] at h; exact h : ∀ (W' : World), JRowAt W' w.heap.size g cp js → ∀ (a : Option Addr) (mm cc : Nat) (l2 : List Ld), Lds W' w.heap.size a mm cc l2 → Calls Try.prog 18 #[.agg #[.slice (some ⟨g, 0, none⟩) n cp], .slice a mm cc] W' fun e w' => e = .returned (.int .i64 (leftF wL js l2 (N : Int))) ∧ Below W'.heap.size W' w')
      have HMI := Lib.hid (fun W' h1 h2 => implMomentLeft W' w.heap.size w.heap.size g cp n la m lc js ls (N : Int) h1 HN.out h2)
      have HOI := Lib.hid (fun W' h1 h2 => by have h := implLoadsOk W' w.heap.size w.heap.size g cp n la m lc js ls h1 HN.out h2; rw [HLV.out] at h; exact h : ∀ (W' : World), JRowAt W' w.heap.size g cp js → Lds W' w.heap.size la m lc ls → Calls Try.prog 17 #[.agg #[.slice (some ⟨g, 0, none⟩) n cp], .slice la m lc] W' fun e w' => e = .returned (.bool true) ∧ Below W'.heap.size W' w')
      obtain ⟨T0, hT0⟩ : ∃ T, leftF wL js [] (N : Int) = T := ⟨_, rfl⟩
      obtain ⟨T2, hT2⟩ : ∃ T, leftF wL js (ls.map (scl 2)) (N : Int) = T := ⟨_, rfl⟩
      have HT0 := Lib.hid hT0
      have HT2 := Lib.hid hT2
      rw [hT0, hT2] at htw
      rw [hT0] at hb0
      rw [hT2] at hb2
      obtain ⟨T1, hT1⟩ : ∃ T, leftF wL js ls (N : Int) = T := ⟨_, rfl⟩
      obtain ⟨M1, hM1⟩ : ∃ T, leftF mL js ls (N : Int) = T := ⟨_, rfl⟩
      rw [hT1] at htw hb1 ⊢
      rw [hM1] at HMI ⊢
      have HT1 := Lib.hid hT1
      obtain ⟨D, hD⟩ : ∃ D, D = T2 - T0 := ⟨_, rfl⟩
      obtain ⟨E, hE⟩ : ∃ E, E = T1 - T0 := ⟨_, rfl⟩
      have hwD : IntKind.i64.wrap (T2 - T0) = D := by rw [hD]; exact IntWalk.i64_in _ (by omega)
      have hwE : IntKind.i64.wrap (T1 - T0) = E := by rw [hE]; exact IntWalk.i64_in _ (by omega)
      have hw2E : IntKind.i64.wrap (2 * E) = D := by rw [IntWalk.i64_in _ (by omega)]; omega
      have hqD : (D == D) = true := by simp
      have hq1 : (T1 == T1) = true := by simp
      have hqM : (M1 == M1) = true := by simp
      clear hwl hml htw hT0 hT1 hT2 hM1 hD hE hb0 hb1 hb2
      go_wp2_with fail
      refine (implScaleLoads _ _ _ _ _ ls 2 RLR.out).mono ?_
      rintro e w2 ⟨v2, rfl, hrt, hb2⟩
      rw [HSC.out] at hrt
      rw [HTY.out]
      obtain ⟨ta, tc, rfl, -⟩ := lrow_slice hrt
      obtain ⟨tm, htm⟩ : ∃ t, (ls.map (scl 2)).length = t := ⟨_, rfl⟩
      have hzr := (HBW.out.size)
      have hzw := (HK.out _ HBW.out).2.2.1.size
      have RT2 : RowKit.Hid (Lds w2 w.heap.size ta tm tc (ls.map (scl 2))) := Lib.hid ⟨by rw [← htm]; exact hrt.base hzw, htm⟩
      have HB2 := Lib.hid (step_b HBW hb2)
      have s2 := (HK.out _ HB2.out).2.2.2
      rw [htm]
      clear hb2 hrt htm
      go_wp2_with fail
      have hn1 := Since.nonempty w2
      have t1 := fun (x : Since w2) => (x.cell bA 0 (cell_block_lt s2)).trans s2
      have KK := Lib.hid (fun (x : Since w2) => HK.out x.1 (step_b HB2 x.2))
      have c1 : ∀ x : Since w2, Calls Try.prog 17 #[.agg #[.slice (some ⟨g, 0, none⟩) n cp], .slice la m lc] x.1 fun e w' => e = .returned (.bool true) ∧ Below x.1.heap.size x.1 w' := fun x => HOI.out x.1 (KK.out x).1 (KK.out x).2.1
      have c2 : ∀ x : Since w2, Calls Try.prog 18 #[.agg #[.slice (some ⟨g, 0, none⟩) n cp], .slice la m lc] x.1 fun e w' => e = .returned (.int .i64 T1) ∧ Below x.1.heap.size x.1 w' := fun x => by
        have := HWI.out x.1 (KK.out x).1 la m lc ls (KK.out x).2.1; rw [HT1.out] at this; exact this
      have c3 : ∀ x : Since w2, Calls Try.prog 12 #[.agg #[.slice (some ⟨g, 0, none⟩) n cp], .slice la m lc, .int .i64 (N : Int)] x.1 fun e w' => e = .returned (.int .i64 M1) ∧ Below x.1.heap.size x.1 w' := fun x => HMI.out x.1 (KK.out x).1 (KK.out x).2.1
      have c4 : ∀ x : Since w2, Calls Try.prog 18 #[.agg #[.slice (some ⟨g, 0, none⟩) n cp], .slice ta tm tc] x.1 fun e w' => e = .returned (.int .i64 T2) ∧ Below x.1.heap.size x.1 w' := fun x => by
        have := HWI.out x.1 (KK.out x).1 ta tm tc _ (RT2.out.below x.2); rw [HT2.out] at this; exact this
      have c5 : ∀ x : Since w2, Calls Try.prog 18 #[.agg #[.slice (some ⟨g, 0, none⟩) n cp], .slice none 0 0] x.1 fun e w' => e = .returned (.int .i64 T0) ∧ Below x.1.heap.size x.1 w' := fun x => by
        have := HWI.out x.1 (KK.out x).1 none 0 0 [] (Lds.none _ _); rw [HT0.out] at this; exact this
      have C1 := Lib.hid c1
      have C2 := Lib.hid c2
      have C3 := Lib.hid c3
      have C4 := Lib.hid c4
      have C5 := Lib.hid c5
      clear c1 c2 c3 c4 c5
      refine wp_region_fast (by kernel_rfl) (by kernel_rfl) ?_
      try dsimp only [List.append]
      repeat (go_big_quiet_step (first
        | (go_at_call 17; with_reducible exact Since.call (C1.out _))
        | (go_at_call 18; with_reducible exact Since.call (C2.out _))
        | (go_at_call 18; with_reducible exact Since.call (C4.out _))
        | (go_at_call 18; with_reducible exact Since.call (C5.out _))
        | (go_at_call 12; with_reducible exact Since.call (C3.out _))))
      refine wpQuiet_nil ?_
      rintro w3 ⟨⟨_, hb3⟩, rfl⟩
      have HB3 := Lib.hid (step_b HB2 hb3)
      clear t1 hn1 hb3 s2
      go_wp2_with fail
      go_ret
      exact ⟨rfl, (HK.out _ HB3.out).2.2.1⟩

/-! ### THE ROW's STEP -/
set_option maxRecDepth 100000 in
theorem lifted (os : Os) (started : os.Started) (H : Type) (enc : TypeId × Value → H) :
    ReturnsInHanded {} Try.checked os 3 .any (Rows.fnLoadsSpec.pre6 enc Try.prog Try.f3 Rows.fnLoadsRow.domain false) (Rows.fnLoadsSpec.post enc Try.prog Try.f3 false true false false) := by
  refine returnsInHanded_of_change (C := Try.checked) own started (by kernel_rfl) Try.func3
    (ChangeSpec.witness6 (enc := enc) (C := Try.checked) false ⟨#[], #[.slice none 0 0], []⟩ 8 (by kernel_rfl) (by kernel_rfl) (by kernel_rfl) (by kernel_rfl)) ?_
  intro W base args ds gs before hval0 hW hcnd _
  have hval : ∀ (j : Nat) t v, Try.f3.params[j]? = some t → args[j]? = some v → Value.okWide Try.prog W .any base t v := hval0
  have hW' := hW
  obtain ⟨p, q, hA0, hV, rfl, hfz, hnd⟩ := hW
  have hA : DataW.TrodAll enc Try.prog W 0 (fun _ => true) true Try.f3.params.toList args.toList ds p := hA0
  rw [Try.params3] at hA hval
  obtain ⟨v0, vs0, d0, ds0, p0, q0, hargs, rfl, rfl, h0, r0⟩ := trodAll_cons hA
  obtain ⟨rfl, rfl, rfl⟩ := trodAll_nil r0
  obtain rfl : args = #[v0] := by cases args; simp_all
  obtain ⟨rfl, rfl⟩ := trodVars_none hV
  have k0 := h0
  have lt0 : ∀ x ∈ p0, x.block < W.heap.size := by obtain ⟨m, hm⟩ := k0; exact DataW.trod_lt m _ _ _ hm
  obtain ⟨a0, len0, cap0, rfl⟩ := okWide_slice Try.underlying22 (hval 0 22 v0 rfl rfl)
  obtain ⟨z0, g0⟩ : ∃ zs, IsRow .u8 W a0 len0 cap0 zs := by
    obtain ⟨fuel, hf⟩ := h0
    rcases open_ints Try.underlying22 Try.underlying5 (by kernel_rfl) hf with ⟨hcs, _⟩ | ⟨x, l, c, zs, hcs, _, hl, hm, hz, _, hcell, hwz⟩
    · simp [Value.cells] at hcs
      obtain ⟨rfl, rfl, rfl⟩ := hcs
      exact ⟨[], .inl ⟨rfl, rfl, rfl, rfl⟩⟩
    · simp [Value.cells] at hcs
      obtain ⟨rfl, rfl, rfl⟩ := hcs
      exact ⟨zs, .inr ⟨_, rfl, hl, hm, by simpa using hz, hcell, hwz⟩⟩
  clear hA0 hval0
  refine (walk a0 len0 cap0 z0 W g0).mono fun e W' ⟨he, bel⟩ => ?_
  subst he
  exact ⟨_, rfl, _, _, _, [], _, [], hW', trodAll_mk1 (shut_bool Try.underlying4 _), (trodAll_cons_mk (Below.trod laidOut (by kernel_rfl) (of_decide_eq_true (by kernel_rfl)) k0 bel lt0) trodAll_mk0), rfl, bel.frame _, fun h => by cases h⟩

theorem over : Rows.fnLoadsRow.holds Try.pinned (OpenSpec.ofChange Rows.fnLoadsSpec) :=
  OpenClaim.holds_of_wide 3 Try.f3 rfl rfl rfl rfl rfl rfl rfl ⟨rfl, rfl, rfl, rfl, rfl⟩ rfl rfl rfl rfl rfl (by kernel_rfl) Try.func3 (by kernel_rfl)
    (of_decide_eq_true (by kernel_rfl)) (by unfold Func.isWrapper; first | (rw [if_pos (by decide +kernel)]; kernel_rfl) | (rw [if_neg (by decide +kernel)]; exact ⟨rfl, rfl⟩))
    (fun os started H enc _ => lifted os started H enc)

/-- THE STATEMENT. -/
theorem proved : Rows.FnLoadsSaid := over
#print axioms proved
end Go.Proofs.Ythkabimaebglhaa.fnLoads
