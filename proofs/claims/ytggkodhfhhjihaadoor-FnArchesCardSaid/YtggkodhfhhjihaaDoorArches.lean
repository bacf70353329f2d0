/- The mirror image of an arch that is an arch has the same stones: the law of promise 6. -/
import Derived.Test.YtggkodhfhhjihaaDoorArchS
import Derived.Test.YtggkodhfhhjihaaDoorArchJ
import Derived.Test.YtggkodhfhhjihaaDoorArchM
import Derived.Test.YtggkodhfhhjihaaDoorArchT
import Derived.Test.YtggkodhfhhjihaaDoorArchW
import Derived.Test.YtggkodhfhhjihaaDoorLaidC
import Derived.Test.YtggkodhfhhjihaaDoorRows
import Derived.Test.YtggkodhfhhjihaaDoorCards
import Derived.Test.YtggkodhfhhjihaaDoorTie
import Derived.LaidMore
import Derived.Stop.Joined
import Derived.SevenTiedAt
import Derived.WalkKit
import Derived.ProofKit
import Derived.OpenShut
import Derived.ShutString
import Derived.ChangeOld
import Derived.Below
namespace Go.Proofs.YtggkodhfhhjihaaDoor.fnArches
set_option maxRecDepth 100000
open Go.ChangeShapes Go.WideShapes Go.ChangeAt Go.RowKit
open Go.ChangeMaps (open_string shut_string)
set_option linter.unusedVariables false

theorem own : ownKnob Tryd.prog.godebug = none := by kernel_rfl
theorem laidOut : laidOutB Tryd.prog = true := by kernel_rfl

/-- WHAT THE WALK IS TOLD OF A SLICE OF INTEGERS THAT CAME IN: it is nil; or it leads to a row of 'cap' cells, the numbers 'zs' (the first 'len' are its elements, the rest its spare room), each fitting its kind. -/
def IsRow (k : IntKind) (w : World) (a : Option Addr) (len cap : Nat) (zs : List Int) : Prop :=
  (a = none ∧ len = 0 ∧ cap = 0 ∧ zs = []) ∨
  ∃ x, a = some x ∧ len ≤ cap ∧ cap ≤ maxLen ∧ zs.length = cap ∧ (∀ i, i < zs.length → w.cell? (x.add i) = some (.int k (zs.getD i 0))) ∧ ∀ n ∈ zs, (Lit.int k n).wf = true

theorem arText_pos {js : List Jt} (h : archV js = true) : 0 < (arTextV js).size ∧ (arTextV js).size ≤ 672 := by
  have h3 := arch_size h
  have hb := joinB_size3 (textJ js) (textJ_size js)
  have hl : (textJ js).length = js.length := by simp [textJ]
  rw [arTextV_yes h]
  refine ⟨?_, by rw [hl] at hb; omega⟩
  have hj := arch_joint h (i := 0) (by omega)
  cases js with
  | nil => simp at h3
  | cons j r =>
    have e : jt (j :: r) 0 = j := rfl
    rw [e] at hj
    have h1 : 0 < (jtT j).size := by
      unfold jtT
      rw [jtTextV_yes hj, ByteArray.size_append, ByteArray.size_append]
      have h3 : (strOf [45]).size = 1 := rfl
      omega
    show 0 < (joinB (jtT j :: textJ r)).size
    unfold joinB
    rw [List.map_cons, Lib.join_cons]
    have h2 : (jtT j).data.toList.length = (jtT j).size := by cases jtT j; simp [ByteArray.size]
    simp only [ByteArray.size, List.size_toArray, List.length_append]
    omega

theorem step_b {a w w' : World} (h : RowKit.Hid (Below a.heap.size a w)) (k : Below w.heap.size w w') : Below a.heap.size a w' := h.out.trans (k.mono h.out.size)
theorem step_bd {a w w' : World} {n : Nat} (h : RowKit.Hid (Below a.heap.size a w)) (k : Below (w.drewN n).heap.size (w.drewN n) w') : Below a.heap.size a w' := below_after h.out k
theorem step_d {a w' : World} {n : Nat} (k : Below (a.drewN n).heap.size (a.drewN n) w') : Below a.heap.size a w' := below_after (Below.refl _ _) k
theorem alloc_bel (w : World) (o : Obj) : Below w.heap.size w (w.alloc o) := (Below.refl w.heap.size w).alloc (Nat.le_refl _) o

/-! ### THE WALK: the Go text returns true, and writes nothing that was there. -/
set_option maxRecDepth 100000 in
set_option maxHeartbeats 8000000 in
theorem walk (a0 : Option Addr) (len0 cap0 : Nat) (z0 : List Int) (w : World) (g0 : IsRow .u8 w a0 len0 cap0 z0) (hT : Tens w) :
    Calls Tryd.prog 3 #[.slice a0 len0 cap0] w fun e w' => e = .returned (.bool true) ∧ Below w.heap.size w w' := by
  have hr : IsCode w a0 len0 cap0 z0 := g0
  clear g0
  have HT := Lib.hid hT
  clear hT
  have hm := (code_cells hr).1
  unfold maxLen at hm
  by_cases hbig : 1048576 < len0
  · clear hr
    go_enter Tryd.func3, Tryd.ntmps3
    go_wp2_with (go_at_call 5; refine (big_yes _ _ _ _ (by omega) (by omega)).mono ?_; rintro e w' ⟨rfl, rfl⟩)
    go_ret
    exact ⟨rfl, Below.refl _ _⟩
  · go_enter Tryd.func3, Tryd.ntmps3
    go_wp2_with fail
    refine (big_no _ _ _ _ (by omega) (by omega)).mono ?_
    rintro e w' ⟨rfl, rfl⟩
    go_wp2_with fail
    refine (drawArch _ _ _ _ _ hr).mono ?_
    rintro e w1 ⟨g, cp, n, js, hf, hjn, rfl, hrow, hb1⟩
    have hv := hf.1
    have h38 := arch_size hv
    rw [hjn] at h38
    obtain ⟨h3, h8⟩ := h38
    obtain ⟨-, hg1, hcp, hcm⟩ := hrow.lt
    rw [hjn] at hcp
    unfold maxLen at hcm
    obtain ⟨m, hmn⟩ : ∃ m, n = m + 1 := ⟨n - 1, by omega⟩
    have hm2 : 2 ≤ m := by omega
    have hm7 : m ≤ 7 := by omega
    have HV := Lib.hid hv
    have HN := Lib.hid hjn
    have HMN := Lib.hid hmn
    have HC := Lib.hid (show cntV js = (m : Int) by rw [cntV_yes hv, hjn, hmn]; omega)
    have hS := span_pos hv
    have hRi := rise_nonneg hv
    have hTx := arText_pos hv
    have hCS := fun W k => implSpanOf W w.heap.size g cp n js k hjn
    have hCR := fun W k => implRiseOf W w.heap.size g cp n js k hjn
    have hCT := fun W k l => implArchText W w.heap.size g cp n js k hjn l
    have hCA := fun W k => implArchOk W w.heap.size g cp n js k hjn
    rw [hv] at hCA
    have HSM := fun h => Lib.hid (span_mir hv h)
    have HRM := fun h => Lib.hid (rise_mir hv h)
    obtain ⟨S, hSe⟩ : ∃ S, spanV js = S := ⟨_, rfl⟩
    obtain ⟨R, hRe⟩ : ∃ R, riseV js = R := ⟨_, rfl⟩
    obtain ⟨T, hTe⟩ : ∃ T, arTextV js = T := ⟨_, rfl⟩
    rw [hSe] at hS hCS HSM
    rw [hRe] at hRi hCR HRM
    rw [hTe] at hTx hCT
    have HCS := Lib.hid hCS
    have HCR := Lib.hid hCR
    have HCT := Lib.hid hCT
    have HCA := Lib.hid hCA
    have hTz : ((T.size : Int) == 0) = false := by rw [beq_eq_false_iff_ne]; omega
    have hTm : T.size ≤ 672 := hTx.2
    obtain ⟨hS0, hS1⟩ := hS
    obtain ⟨hR0, hR1⟩ := hRi
    have hS2 : ¬ S ≤ 0 := by omega
    have hR2 : ¬ R < 0 := by omega
    have e1 : IntKind.i64.wrap ((n : Int) - 1) = (m : Int) := by rw [IntWalk.i64_in _ (by omega)]; omega
    have hal := alloc_bel w1 (.cells #[.slice (some ⟨g, 0, none⟩) n cp] 26)
    have RW1 := Lib.hid (JRowAt.below hrow hal)
    have HB1 := Lib.hid (hb1.trans (hal.mono hb1.size))
    have hs1 : (w1.alloc (.cells #[.slice (some ⟨g, 0, none⟩) n cp] 26)).cell? ⟨w1.heap.size, 0, none⟩ = some (.slice (some ⟨g, 0, none⟩) n cp) := by go_simp
    have HS1 := Lib.hid hs1
    have hmn1 : m < n := by omega
    clear hrow hb1 hal hs1 hr hCS hCR hCT hCA hSe hRe hTe hTx hf hmn hv hjn
    go_wp2_with fail
    refine World.any (p := fun W => Calls _ _ _ W _) (fun W hW => ?_)
    have RW : RowKit.Hid (JRowAt W w.heap.size g cp js) := Lib.hid (by subst hW; exact RW1.out)
    have HB : RowKit.Hid (Below w.heap.size w W) := Lib.hid (by subst hW; exact HB1.out)
    have sA : W.cell? ⟨w1.heap.size, 0, none⟩ = some (.slice (some ⟨g, 0, none⟩) n cp) := by subst hW; exact HS1.out
    clear hW RW1 HB1 HS1
    generalize w1.heap.size = bA at *
    refine (implCountStones _ _ _ _ _ js RW.out HN.out).mono ?_
    rintro e w2 ⟨rfl, hb2⟩
    rw [HC.out]
    have sA2 := cell_kept sA hb2
    have RW2 := Lib.hid (JRowAt.below RW.out hb2)
    have HB2 := Lib.hid (HB.out.trans (hb2.mono HB.out.size))
    clear hb2 sA RW HB
    go_wp2_with fail
    refine (implMirrorArch _ _ _ _ _ js 0 RW2.out HN.out).mono ?_
    rintro e w3 ⟨u, rfl, hru, hb3⟩
    obtain ⟨ua, uc, rfl, -⟩ := jrow_slice hru
    obtain ⟨ul, hul⟩ : ∃ l, (mirAV js 0).length = l := ⟨_, rfl⟩
    rw [hul]
    rw [hul] at hru
    have sA3 := cell_kept sA2 hb3
    have RW3 := Lib.hid (JRowAt.below RW2.out hb3)
    have HB3 := Lib.hid (HB2.out.trans (hb3.mono HB2.out.size))
    have hal := alloc_bel w3 (.cells #[.slice ua ul uc] 26)
    have RW3' := Lib.hid (JRowAt.below RW3.out hal)
    have HB3' := Lib.hid (HB3.out.trans (hal.mono HB3.out.size))
    have hs3 : (w3.alloc (.cells #[.slice ua ul uc] 26)).cell? ⟨w3.heap.size, 0, none⟩ = some (.slice ua ul uc) := by go_simp
    have hs3' := cell_kept sA3 hal
    have HRU := Lib.hid (JRow.below hru hal)
    have HS3 := Lib.hid hs3
    have HS3' := Lib.hid hs3'
    have HUL := Lib.hid hul
    clear hb3 sA2 RW2 HB2 sA3 RW3 HB3 hal hs3 hs3' hru hul
    cases hok : mirOk js 0
    · clear HSM HRM HRU HUL
      have s3x := HS3'.out
      go_wp2_with fail
      clear s3x
      refine World.any (p := fun W => Calls _ _ _ W _) (fun W hW => ?_)
      have RW : RowKit.Hid (JRowAt W w.heap.size g cp js) := Lib.hid (by subst hW; exact RW3'.out)
      have HB : RowKit.Hid (Below w.heap.size w W) := Lib.hid (by subst hW; exact HB3'.out)
      have sA : W.cell? ⟨bA, 0, none⟩ = some (.slice (some ⟨g, 0, none⟩) n cp) := by subst hW; exact HS3'.out
      clear hW RW3' HB3' HS3 HS3'
      refine (HCA.out _ RW.out).mono ?_
      rintro e w4 ⟨rfl, hb4⟩
      have sA4 := cell_kept sA hb4
      have RW4 := Lib.hid (JRowAt.below RW.out hb4)
      have HB4 := Lib.hid (HB.out.trans (hb4.mono HB.out.size))
      clear hb4 sA RW HB
      go_wp2_with fail
      refine (HCS.out _ RW4.out).mono ?_
      rintro e w5 ⟨rfl, hb5⟩
      have sA5 := cell_kept sA4 hb5
      have RW5 := Lib.hid (JRowAt.below RW4.out hb5)
      have HB5 := Lib.hid (HB4.out.trans (hb5.mono HB4.out.size))
      clear hb5 sA4 RW4 HB4
      go_wp2_with fail
      refine (HCR.out _ RW5.out).mono ?_
      rintro e w6 ⟨rfl, hb6⟩
      have sA6 := cell_kept sA5 hb6
      have RW6 := Lib.hid (JRowAt.below RW5.out hb6)
      have HB6 := Lib.hid (HB5.out.trans (hb6.mono HB5.out.size))
      clear hb6 sA5 RW5 HB5
      go_wp2_with fail
      refine (HCT.out _ RW6.out (HT.out.below HB6.out)).mono ?_
      rintro e w7 ⟨rfl, hb7⟩
      have sA7 := cell_kept sA6 hb7
      have RW7 := Lib.hid (JRowAt.below RW6.out hb7)
      have HB7 := Lib.hid (HB6.out.trans (hb7.mono HB6.out.size))
      clear hb7 sA6 RW6 HB6
      go_wp2_with fail
      go_loopw [7, 8] (fun q t wr => ∃ k : Nat, k ≤ m ∧ t = .int .i64 k ∧ q = .int .i64 (sumTo (wK js) k) ∧ Below w7.heap.size w7 wr)
        (fun _ t _ => m - (intOf t).toNat)
      case atStart => exact ⟨0, Nat.zero_le _, rfl, rfl, Below.refl _ _⟩
      case round =>
        obtain ⟨k, hk, rfl, rfl, hbw⟩ := hrel
        have HBW := Lib.hid hbw
        have sr := cell_kept sA7 hbw
        have RWR := Lib.hid (JRowAt.below RW7.out hbw)
        by_cases hlt : k < m
        · have hkl : k + 1 < js.length := by rw [HN.out, HMN.out]; omega
          have hsv := soV_yes HV.out hkl
          have hst := arch_bet HV.out hkl
          have hwk : wK js k = weightV (betw (jt js k) (jt js (k + 1))) := rfl
          have hbd := wK_bd js k k (by omega)
          have hbd2 := (wK_bd js k (k + 1) (by omega)).2
          have hsn : sumTo (wK js) (k + 1) = sumTo (wK js) k + wK js k := rfl
          generalize betw (jt js k) (jt js (k + 1)) = V at *
          have HSV := Lib.hid hsv
          have HST := Lib.hid hst
          have HWK := Lib.hid hwk
          have HSN := Lib.hid hsn
          clear hsv hst hwk hsn hbw hkl
          go_wp2_with fail
          refine (implStoneOf _ _ _ _ _ js k RWR.out HN.out).mono ?_
          rintro e v1 ⟨us, rfl, hrs, hc1⟩
          rw [HSV.out] at hrs
          obtain ⟨sa, sc, rfl, -⟩ := row_sliceS hrs
          have hal := alloc_bel v1 (.cells #[.slice sa V.length sc] 35)
          have HW1 := Lib.hid ((HBW.out.trans (hc1.mono HBW.out.size)).trans (hal.mono (HBW.out.trans (hc1.mono HBW.out.size)).size))
          have HRS := Lib.hid (hrs.below hal)
          have hss : (v1.alloc (.cells #[.slice sa V.length sc] 35)).cell? ⟨v1.heap.size, 0, none⟩ = some (.slice sa V.length sc) := by go_simp
          have HSS := Lib.hid hss
          clear hc1 hrs hal hss sr
          go_wp2_with fail
          refine World.any (p := fun W => Calls _ _ _ W _) (fun W hW => ?_)
          have HW2 : RowKit.Hid (Below w7.heap.size w7 W) := Lib.hid (by subst hW; exact HW1.out)
          have HRS2 : RowKit.Hid (Row W wr.heap.size (.slice sa V.length sc) V) := Lib.hid (by subst hW; exact HRS.out)
          have s2 : W.cell? ⟨v1.heap.size, 0, none⟩ = some (.slice sa V.length sc) := by subst hW; exact HSS.out
          clear hW HW1 HRS HSS
          generalize v1.heap.size = bS at *
          refine (specWeightOf _ _ _ V HRS2.out).mono ?_
          rintro e v2 ⟨rfl, hc2⟩
          rw [← HWK.out]
          have s3 := cell_kept s2 hc2
          have HRS3 := Lib.hid (HRS2.out.below hc2)
          have HW3 := Lib.hid (HW2.out.trans (hc2.mono HW2.out.size))
          clear hc2 s2 HRS2 HW2
          generalize sumTo (wK js) k = Sk at *
          generalize wK js k = Wv at *
          go_wp2_with fail
          have hn1 := Since.nonempty v2
          have t1 := fun (x : Since v2) => (x.cell bS 0 (cell_block_lt s3)).trans s3
          have c1 : ∀ x : Since v2, Calls Tryd.prog 15 #[.agg #[.slice sa V.length sc]] x.1 fun e w' => e = .returned (.bool true) ∧ Below x.1.heap.size x.1 w' := fun x => by
            have := specStoneOk _ _ _ V (Row.below HRS3.out x.2); rw [HST.out] at this; exact this
          have C1 := Lib.hid c1
          clear c1
          refine wp_region_since (by kernel_rfl) (by kernel_rfl) ?_
          repeat (go_big_quiet_step (first
            | (go_at_call 15; exact Since.call (C1.out _))))
          refine wpQuiet_nil ?_
          rintro v3 ⟨⟨v3, hc3⟩, rfl⟩
          have HW4 := Lib.hid (HW3.out.trans (hc3.mono HW3.out.size))
          clear t1 hc3 s3
          go_wp2_with fail
          go_roundw
          case rel => exact ⟨k + 1, by omega, by go_num, by rw [HSN.out], HW4.out⟩
          case measure => simp [intOf]; omega
        · have hkm : k = m := by omega
          rw [hkm]
          clear hbw
          go_wp2_with fail
          go_ret
          exact ⟨rfl, HB7.out.trans (HBW.out.mono HB7.out.size)⟩
    · have hh := mirOk_iff.1 hok
      have htw := mirOk_twice hok
      have hav := mirAV_yes hok
      have hml : (mirJs js 0).length = n := by rw [mirJs_length]; exact HN.out
      have hule : ul = n := by rw [← HUL.out, hav]; exact hml
      subst hule
      have hru := HRU.out
      rw [hav] at hru
      obtain ⟨gm, hua, hrm⟩ : ∃ gm, ua = some ⟨gm, 0, none⟩ ∧ JRowAt (w3.alloc (.cells #[.slice ua ul uc] 26)) w2.heap.size gm uc (mirJs js 0) := by
        rcases hru.cases (by rw [hml]; omega) with ⟨gm, cm, he, hrr, -⟩
        simp only [Value.slice.injEq] at he
        obtain ⟨rfl, -, rfl⟩ := he
        exact ⟨gm, rfl, hrr⟩
      subst hua
      have HM := Lib.hid hrm
      have HML := Lib.hid hml
      have HMV := Lib.hid hh.2
      have HTW1 := Lib.hid htw.1
      have HTW2 := Lib.hid htw.2
      have hSM := (HSM hh.2).out
      have hRM := (HRM hh.2).out
      have hWM := fun (k : Nat) (hk : k + 1 < js.length) => wK_mir HV.out hh.2 hk
      have hTot := sum_wK_mir HV.out hh.2
      have hmc := hrm.lt
      obtain ⟨-, -, hmc1, hmc2⟩ := hmc
      rw [hml] at hmc1
      unfold maxLen at hmc2
      generalize mirJs js 0 = ms at *
      have HWM := Lib.hid hWM
      have HTOT := Lib.hid hTot
      have hMS := fun W B k => implSpanOf W B gm uc ul ms k hml
      have hMR := fun W B k => implRiseOf W B gm uc ul ms k hml
      rw [hSM] at hMS
      rw [hRM] at hMR
      have HMS := Lib.hid hMS
      have HMR := Lib.hid hMR
      have s3x := HS3'.out
      clear hh htw hav hml hru hrm hSM hRM HSM HRM HRU HUL hWM hTot hMS hMR
      go_wp2_with fail
      clear s3x
      refine World.any (p := fun W => Calls _ _ _ W _) (fun W hW => ?_)
      have RW : RowKit.Hid (JRowAt W w.heap.size g cp js) := Lib.hid (by subst hW; exact RW3'.out)
      have RM : RowKit.Hid (JRowAt W w2.heap.size gm uc ms) := Lib.hid (by subst hW; exact HM.out)
      have HB : RowKit.Hid (Below w.heap.size w W) := Lib.hid (by subst hW; exact HB3'.out)
      have sA : W.cell? ⟨bA, 0, none⟩ = some (.slice (some ⟨g, 0, none⟩) ul cp) := by subst hW; exact HS3'.out
      have sM : W.cell? ⟨w3.heap.size, 0, none⟩ = some (.slice (some ⟨gm, 0, none⟩) ul uc) := by subst hW; exact HS3.out
      clear hW RW3' HB3' HS3 HS3' HM
      generalize w3.heap.size = bM at *
      have SM := Lib.hid sM
      clear sM
      have KEEP : ∀ W', Below W.heap.size W W' → JRowAt W' w.heap.size g cp js ∧ JRowAt W' w2.heap.size gm uc ms ∧ Below w.heap.size w W' ∧ W'.cell? ⟨bA, 0, none⟩ = some (.slice (some ⟨g, 0, none⟩) ul cp) ∧ W'.cell? ⟨bM, 0, none⟩ = some (.slice (some ⟨gm, 0, none⟩) ul uc) := fun W' h =>
        ⟨JRowAt.below RW.out h, JRowAt.below RM.out h, HB.out.trans (h.mono HB.out.size), cell_kept sA h, cell_kept SM.out h⟩
      have HK := Lib.hid KEEP
      clear KEEP SM RM
      refine (HCA.out _ RW.out).mono ?_
      rintro e w4 ⟨rfl, hb4⟩
      have H4 := Lib.hid hb4
      have sA4 := (HK.out _ hb4).2.2.2.1
      clear hb4 sA RW HB
      go_wp2_with fail
      refine (HCS.out _ (HK.out _ H4.out).1).mono ?_
      rintro e w5 ⟨rfl, hb5⟩
      have H5 := Lib.hid (step_b H4 hb5)
      have sA5 := (HK.out _ H5.out).2.2.2.1
      clear hb5 sA4 H4
      go_wp2_with fail
      refine (HCR.out _ (HK.out _ H5.out).1).mono ?_
      rintro e w6 ⟨rfl, hb6⟩
      have H6 := Lib.hid (step_b H5 hb6)
      have sA6 := (HK.out _ H6.out).2.2.2.1
      clear hb6 sA5 H5
      go_wp2_with fail
      refine (HCT.out _ (HK.out _ H6.out).1 (HT.out.below (HK.out _ H6.out).2.2.1)).mono ?_
      rintro e w7 ⟨rfl, hb7⟩
      have H7 := Lib.hid (step_b H6 hb7)
      clear hb7 sA6 H6
      go_wp2_with fail
      go_loopw [7, 8] (fun q t wr => ∃ k : Nat, k ≤ m ∧ t = .int .i64 k ∧ q = .int .i64 (sumTo (wK js) k) ∧ Below W.heap.size W wr)
        (fun _ t _ => m - (intOf t).toNat)
      case atStart => exact ⟨0, Nat.zero_le _, rfl, rfl, H7.out⟩
      case round =>
        obtain ⟨k, hk, rfl, rfl, hbw⟩ := hrel
        have HBW := Lib.hid hbw
        obtain ⟨rw1, rm1, -, sr, sm⟩ := HK.out _ hbw
        by_cases hlt : k < m
        · have hkl : k + 1 < js.length := by rw [HN.out, HMN.out]; omega
          have hsv := soV_yes HV.out hkl
          have hst := arch_bet HV.out hkl
          have hwk : wK js k = weightV (betw (jt js k) (jt js (k + 1))) := rfl
          have hbd := wK_bd js k k (by omega)
          have hbd2 := (wK_bd js k (k + 1) (by omega)).2
          have hsn : sumTo (wK js) (k + 1) = sumTo (wK js) k + wK js k := rfl
          obtain ⟨i, hi⟩ : ∃ i, i = m - 1 - k := ⟨_, rfl⟩
          have hwm := HWM.out k hkl
          rw [show js.length - 2 - k = i by rw [HN.out, HMN.out]; omega] at hwm
          have hil : i + 1 < ms.length := by rw [HML.out, HMN.out]; omega
          have hsm := soV_yes HMV.out hil
          have hwi : wK ms i = weightV (betw (jt ms i) (jt ms (i + 1))) := rfl
          rw [hwm] at hwi
          have hi3 : IntKind.i64.wrap ((m : Int) - 1) = (m : Int) - 1 := IntWalk.i64_in _ (by omega)
          have hi4 : IntKind.i64.wrap ((m : Int) - 1 - (k : Int)) = (i : Int) := by rw [IntWalk.i64_in _ (by omega)]; omega
          generalize betw (jt js k) (jt js (k + 1)) = V at *
          generalize betw (jt ms i) (jt ms (i + 1)) = V2 at *
          have HSV := Lib.hid hsv
          have HST := Lib.hid hst
          have HWK := Lib.hid hwk
          have HSN := Lib.hid hsn
          have HSM2 := Lib.hid hsm
          have HWI := Lib.hid hwi
          have SMR := Lib.hid sm
          have RMR := Lib.hid rm1
          clear hsv hst hwk hsn hbw hkl hwm hil hsm hwi hi sm rm1
          have RWR := Lib.hid rw1
          clear rw1
          go_wp2_with fail
          refine (implStoneOf _ _ _ _ _ js k RWR.out HN.out).mono ?_
          rintro e v1 ⟨us, rfl, hrs, hc1⟩
          rw [HSV.out] at hrs
          obtain ⟨sa, sc, rfl, -⟩ := row_sliceS hrs
          have hal := alloc_bel v1 (.cells #[.slice sa V.length sc] 35)
          have HW1 := Lib.hid ((HBW.out.trans (hc1.mono HBW.out.size)).trans (hal.mono (HBW.out.trans (hc1.mono HBW.out.size)).size))
          have HRS := Lib.hid (hrs.below hal)
          have hss : (v1.alloc (.cells #[.slice sa V.length sc] 35)).cell? ⟨v1.heap.size, 0, none⟩ = some (.slice sa V.length sc) := by go_simp
          have HSS := Lib.hid hss
          clear hc1 hrs hal hss sr
          go_wp2_with fail
          refine World.any (p := fun W => Calls _ _ _ W _) (fun Y hW => ?_)
          have HW2 : RowKit.Hid (Below W.heap.size W Y) := Lib.hid (by subst hW; exact HW1.out)
          have HRS2 : RowKit.Hid (Row Y wr.heap.size (.slice sa V.length sc) V) := Lib.hid (by subst hW; exact HRS.out)
          have s2 : Y.cell? ⟨v1.heap.size, 0, none⟩ = some (.slice sa V.length sc) := by subst hW; exact HSS.out
          clear hW HW1 HRS HSS
          generalize v1.heap.size = bS at *
          refine (specWeightOf _ _ _ V HRS2.out).mono ?_
          rintro e v2 ⟨rfl, hc2⟩
          rw [← HWK.out]
          have s3 := cell_kept s2 hc2
          have HRS3 := Lib.hid (HRS2.out.below hc2)
          have HW3 := Lib.hid (HW2.out.trans (hc2.mono HW2.out.size))
          clear hc2 s2 HRS2 HW2
          generalize sumTo (wK js) k = Sk at *
          have hne : (wK js k != wK js k) = false := by simp
          generalize wK js k = Wv at *
          have m3 := (HK.out _ HW3.out).2.2.2.2
          have F0 := Lib.hid (fun (X : World) (h : Below v2.heap.size v2 X) => (⟨cell_kept m3 h, cell_kept s3 h⟩ : X.cell? ⟨bM, 0, none⟩ = some (.slice (some ⟨gm, 0, none⟩) ul uc) ∧ X.cell? ⟨bS, 0, none⟩ = some (.slice sa V.length sc)))
          have C1 : RowKit.Hid (∀ X, Below v2.heap.size v2 X → Calls Tryd.prog 15 #[.agg #[.slice sa V.length sc]] X fun e w' => e = .returned (.bool true) ∧ Below X.heap.size X w') := Lib.hid (fun X h => by
            have := specStoneOk _ _ _ V (Row.below HRS3.out h); rw [HST.out] at this; exact this)
          have C2 : RowKit.Hid (∀ X, Below v2.heap.size v2 X → Calls Tryd.prog 14 #[.agg #[.slice sa V.length sc]] X fun e w' => e = .returned (.int .i64 Wv) ∧ Below X.heap.size X w') := Lib.hid (fun X h => by
            have := specWeightOf _ _ _ V (Row.below HRS3.out h); rw [← HWK.out] at this; exact this)
          have C3 : RowKit.Hid (∀ X, Below v2.heap.size v2 X → Calls Tryd.prog 13 #[.agg #[.slice (some ⟨gm, 0, none⟩) ul uc], .int .i64 (i : Int)] X fun e w' => ∃ ya yc, e = .returned (.agg #[.slice ya V2.length yc]) ∧ Row w' X.heap.size (.slice ya V2.length yc) V2 ∧ Below X.heap.size X w') := Lib.hid (fun X h => by
            refine (implStoneOf X _ _ _ _ ms (i : Int) (JRowAt.below (HK.out _ HW3.out).2.1 h) HML.out).mono ?_
            rintro e w' ⟨u, rfl, hru, hbu⟩
            rw [HSM2.out] at hru
            obtain ⟨ya, yc, rfl, -⟩ := row_sliceS hru
            exact ⟨ya, yc, rfl, hru, hbu⟩)
          have C4 : RowKit.Hid (∀ X B ya yc, Row X B (.slice ya V2.length yc) V2 → Calls Tryd.prog 14 #[.agg #[.slice ya V2.length yc]] X fun e w' => e = .returned (.int .i64 Wv) ∧ Below X.heap.size X w') := Lib.hid (fun X B ya yc h => by
            have := specWeightOf _ _ _ V2 h; rw [← HWI.out] at this; exact this)
          have Z0 := Lib.hid (Below.refl v2.heap.size v2)
          go_wp2_with fail
          go_region_held3 (fun w' => w'.cell? ⟨bM, 0, none⟩ = some (.slice (some ⟨gm, 0, none⟩) ul uc) ∧ w'.cell? ⟨bS, 0, none⟩ = some (.slice sa V.length sc))
            (first | (exact F0.out _ Z4.out) | (exact F0.out _ Z3.out) | (exact F0.out _ Z2.out) | (exact F0.out _ Z1.out) | go_keep | trivial)
            (first
              | (go_at_call 15; refine (C1.out _ (by first | exact below_drewN Z0.out _ | exact Z0.out)).mono ?_; rintro e y1 ⟨rfl, hy1⟩; have Z1 : RowKit.Hid (Below v2.heap.size v2 y1) := Lib.hid (by first | exact step_bd Z0 hy1 | exact step_b Z0 hy1); clear hy1)
              | (go_at_call 13; refine (C3.out _ (by first | exact Z2.out | exact below_drewN Z2.out _ | exact Z1.out | exact below_drewN Z1.out _)).mono ?_; rintro e y3 ⟨ya, yc, rfl, hry, hy3⟩; (first | (have Z3 : RowKit.Hid (Below v2.heap.size v2 y3) := Lib.hid (by first | exact step_b Z2 hy3 | exact step_bd Z2 hy3)) | (have Z2 : RowKit.Hid (Below v2.heap.size v2 y3) := Lib.hid (by first | exact step_b Z1 hy3 | exact step_bd Z1 hy3))); have RY := Lib.hid hry; clear hy3 hry)
              | (go_at_call_of 14 (Value.agg #[Value.slice sa V.length sc]); refine (C2.out _ (by first | exact Z3.out | exact below_drewN Z3.out _ | exact Z2.out | exact below_drewN Z2.out _ | exact Z1.out | exact below_drewN Z1.out _)).mono ?_; rintro e y2 ⟨rfl, hy2⟩; (first | (have Z4 : RowKit.Hid (Below v2.heap.size v2 y2) := Lib.hid (by first | exact step_b Z3 hy2 | exact step_bd Z3 hy2)) | (have Z3 : RowKit.Hid (Below v2.heap.size v2 y2) := Lib.hid (by first | exact step_b Z2 hy2 | exact step_bd Z2 hy2)) | (have Z2 : RowKit.Hid (Below v2.heap.size v2 y2) := Lib.hid (by first | exact step_b Z1 hy2 | exact step_bd Z1 hy2))); (try (have RY2 := Lib.hid (RY.out.below hy2))); clear hy2)
              | (go_at_call 14; refine (C4.out _ _ _ _ (by first | exact RY2.out | exact RY.out)).mono ?_; rintro e y4 ⟨rfl, hy4⟩; (first | (have Z4 : RowKit.Hid (Below v2.heap.size v2 y4) := Lib.hid (by first | exact step_b Z3 hy4 | exact step_bd Z3 hy4)) | (have Z3 : RowKit.Hid (Below v2.heap.size v2 y4) := Lib.hid (by first | exact step_b Z2 hy4 | exact step_bd Z2 hy4))); clear hy4))
          all_goals
            have HW4 := Lib.hid (HW3.out.trans (Z4.out.mono HW3.out.size))
            go_wp2_with fail
            go_roundw
            case rel => exact ⟨k + 1, by omega, by go_num, by rw [HSN.out], HW4.out⟩
            case measure => simp [intOf]; omega
        · have hkm : k = m := by omega
          rw [hkm]
          have SMR := sm
          have HSUM := Lib.hid (show sumTo (wK ms) (ul - 1) = sumTo (wK js) m by have := HTOT.out; rw [HN.out] at this; rw [this, HMN.out, Nat.add_sub_cancel])
          generalize hSm : sumTo (wK js) m = Sm at *
          clear hSm hbw rw1 rm1 sr
          have RMR := Lib.hid (HK.out _ HBW.out).2.1
          go_wp2_with fail
          refine (implMirrorArch _ _ _ _ _ ms 0 RMR.out HML.out).mono ?_
          rintro e v1 ⟨ub, rfl, hrb, hc1⟩
          rw [HTW1.out]
          rw [HTW2.out] at hrb
          obtain ⟨gb, cb, rfl, hrb2, -⟩ := hrb.cases (by rw [HN.out]; omega)
          have hal := alloc_bel v1 (.cells #[.slice (some ⟨gb, 0, none⟩) js.length cb] 26)
          have HW1 := Lib.hid ((HBW.out.trans (hc1.mono HBW.out.size)).trans (hal.mono (HBW.out.trans (hc1.mono HBW.out.size)).size))
          have HRB := Lib.hid (JRowAt.below hrb2 hal)
          have hss : (v1.alloc (.cells #[.slice (some ⟨gb, 0, none⟩) js.length cb] 26)).cell? ⟨v1.heap.size, 0, none⟩ = some (.slice (some ⟨gb, 0, none⟩) js.length cb) := by go_simp
          have HSS := Lib.hid hss
          clear hc1 hrb hrb2 hal hss SMR RMR sm
          go_wp2_with fail
          refine World.any (p := fun W => Code.wp _ _ _ _ W) (fun Y hW => ?_)
          have HW2 : RowKit.Hid (Below W.heap.size W Y) := Lib.hid (by subst hW; exact HW1.out)
          have HRB2 : RowKit.Hid (JRowAt Y wr.heap.size gb cb js) := Lib.hid (by subst hW; exact HRB.out.base (by have := HW1.out.size; omega))
          have b2 : Y.cell? ⟨v1.heap.size, 0, none⟩ = some (.slice (some ⟨gb, 0, none⟩) js.length cb) := by subst hW; exact HSS.out
          clear hW HW1 HRB HSS
          generalize v1.heap.size = bB at *
          rw [HN.out] at b2
          obtain ⟨rwY, rmY, hbY, a2, m2⟩ := HK.out _ HW2.out
          have RWY := Lib.hid rwY
          have RMY := Lib.hid rmY
          have HBY := Lib.hid hbY
          clear rwY rmY hbY
          have hn1 := Since.nonempty Y
          have t1 := fun (x : Since Y) => (x.cell bA 0 (cell_block_lt a2)).trans a2
          have t2 := fun (x : Since Y) => (x.cell bM 0 (cell_block_lt m2)).trans m2
          have t3 := fun (x : Since Y) => (x.cell bB 0 (cell_block_lt b2)).trans b2
          have D1 : RowKit.Hid (∀ x : Since Y, Calls Tryd.prog 16 #[.agg #[.slice (some ⟨g, 0, none⟩) ul cp], .agg #[.slice (some ⟨gb, 0, none⟩) ul cb]] x.1 fun e w' => e = .returned (.bool true) ∧ Below x.1.heap.size x.1 w') := Lib.hid (fun x => sameArch _ _ _ _ _ _ _ _ js (JRowAt.below RWY.out x.2) (JRowAt.below HRB2.out x.2) HN.out)
          have D2 : RowKit.Hid (∀ x : Since Y, Calls Tryd.prog 10 #[.agg #[.slice (some ⟨gm, 0, none⟩) ul uc]] x.1 fun e w' => e = .returned (.int .i64 S) ∧ Below x.1.heap.size x.1 w') := Lib.hid (fun x => HMS.out _ _ (JRowAt.below RMY.out x.2))
          have D3 : RowKit.Hid (∀ x : Since Y, Calls Tryd.prog 10 #[.agg #[.slice (some ⟨g, 0, none⟩) ul cp]] x.1 fun e w' => e = .returned (.int .i64 S) ∧ Below x.1.heap.size x.1 w') := Lib.hid (fun x => HCS.out _ (JRowAt.below RWY.out x.2))
          have D4 : RowKit.Hid (∀ x : Since Y, Calls Tryd.prog 11 #[.agg #[.slice (some ⟨gm, 0, none⟩) ul uc]] x.1 fun e w' => e = .returned (.int .i64 R) ∧ Below x.1.heap.size x.1 w') := Lib.hid (fun x => HMR.out _ _ (JRowAt.below RMY.out x.2))
          have D5 : RowKit.Hid (∀ x : Since Y, Calls Tryd.prog 11 #[.agg #[.slice (some ⟨g, 0, none⟩) ul cp]] x.1 fun e w' => e = .returned (.int .i64 R) ∧ Below x.1.heap.size x.1 w') := Lib.hid (fun x => HCR.out _ (JRowAt.below RWY.out x.2))
          have D6 : RowKit.Hid (∀ x : Since Y, Calls Tryd.prog 17 #[.agg #[.slice (some ⟨gm, 0, none⟩) ul uc], .slice none 0 0] x.1 fun e w' => e = .returned (.int .i64 Sm) ∧ Below x.1.heap.size x.1 w') := Lib.hid (fun x => by
            have := totalNil _ _ _ _ _ ms (JRowAt.below RMY.out x.2) HML.out HMV.out; rw [HSUM.out] at this; exact this)
          have q1 : (S == S) = true := by simp
          have q2 : (R == R) = true := by simp
          have q3 : (Sm == Sm) = true := by simp
          refine wp_region_since (by kernel_rfl) (by kernel_rfl) ?_
          repeat (go_big_quiet_step (first
            | (go_at_call 16; exact Since.call (D1.out _))
            | (go_at_call_of 10 (Value.agg #[Value.slice (some ⟨gm, 0, none⟩) ul uc]); exact Since.call (D2.out _))
            | (go_at_call_of 10 (Value.agg #[Value.slice (some ⟨g, 0, none⟩) ul cp]); exact Since.call (D3.out _))
            | (go_at_call_of 11 (Value.agg #[Value.slice (some ⟨gm, 0, none⟩) ul uc]); exact Since.call (D4.out _))
            | (go_at_call_of 11 (Value.agg #[Value.slice (some ⟨g, 0, none⟩) ul cp]); exact Since.call (D5.out _))
            | (go_at_call 17; exact Since.call (D6.out _))))
          refine wpQuiet_nil ?_
          rintro w9 ⟨⟨_, hb9⟩, rfl⟩
          go_wp2_with fail
          go_ret
          exact ⟨rfl, HBY.out.trans (hb9.mono HBY.out.size)⟩

/-- The door's own heap meets the condition. -/
theorem door_met (os : Os) (args : Array Value) : laidMetH Tryd.prog Rows.fnArchesRow.laid ((World.doorLaid Tryd.prog 400 os).forCall (fun _ _ => 0) ⟨#[], args, []⟩).memory :=
  laidMetH_of_parts3 (fuel := 8) (laidMet_of_run' 8 (by kernel_rfl) (by kernel_rfl)) (by kernel_rfl) (by kernel_rfl)

/-! ### THE ROW's STEP -/
set_option maxRecDepth 100000 in
theorem lifted (os : Os) (started : os.Started) (H : Type) (enc : TypeId × Value → H) :
    ReturnsInHanded {} Tryd.checked os 3 .any (fun w args => (Rows.fnArchesSpec.pre enc Tryd.prog Tryd.f3 [] false w args ∧ laidMetH Tryd.prog Rows.fnArchesRow.laid w) ∧ sizedMet enc Tryd.prog Tryd.f3 (OpenSpec.ofChange Rows.fnArchesSpec) false w args) (Rows.fnArchesSpec.post enc Tryd.prog Tryd.f3 false true false false) := by
  refine returnsInHanded_of_change_and (C := Tryd.checked) (X := fun w _ => laidMetH Tryd.prog Rows.fnArchesRow.laid w) (fun _ _ _ hh h => h.of_heap hh) own started (by kernel_rfl) Tryd.func3
    (ChangeSpec.witness_shaped (enc := enc) (C := Tryd.checked) (os := os) (X := fun w _ => laidMetH Tryd.prog Rows.fnArchesRow.laid w) false (World.doorLaid Tryd.prog 400 os) #[.slice none 0 0] 8 rfl (World.shaped_of_RefB (by kernel_rfl) (by kernel_rfl)) (by kernel_rfl) (by kernel_rfl) (by kernel_rfl) (door_met os _)) ?_
  intro W base args ds gs before hval0 hW _ _ hL _
  have hval : ∀ (j : Nat) t v, Tryd.f3.params[j]? = some t → args[j]? = some v → Value.okWide Tryd.prog W .any base t v := hval0
  have hW' := hW
  obtain ⟨p, q, hA0, hV, rfl, hfz, hnd⟩ := hW
  have hA : DataW.TrodAll enc Tryd.prog W 0 (fun _ => true) true Tryd.f3.params.toList args.toList ds p := hA0
  rw [Tryd.params3] at hA hval
  obtain ⟨v0, vs0, d0, ds0, p0, q0, hargs, rfl, rfl, h0, r0⟩ := trodAll_cons hA
  obtain ⟨rfl, rfl, rfl⟩ := trodAll_nil r0
  obtain rfl : args = #[v0] := by cases args; simp_all
  obtain ⟨rfl, rfl⟩ := trodVars_none hV
  have k0 := h0
  have lt0 : ∀ x ∈ p0, x.block < W.heap.size := by obtain ⟨m, hm⟩ := k0; exact DataW.trod_lt m _ _ _ hm
  obtain ⟨a0, len0, cap0, rfl⟩ := okWide_slice Tryd.underlying22 (hval 0 22 v0 rfl rfl)
  obtain ⟨z0, g0⟩ : ∃ zs, IsRow .u8 W a0 len0 cap0 zs := by
    obtain ⟨fuel, hf⟩ := h0
    rcases open_ints Tryd.underlying22 Tryd.underlying5 (by kernel_rfl) hf with ⟨hcs, _⟩ | ⟨x, l, c, zs, hcs, _, hl, hm, hz, _, hcell, hwz⟩
    · simp [Value.cells] at hcs
      obtain ⟨rfl, rfl, rfl⟩ := hcs
      exact ⟨[], .inl ⟨rfl, rfl, rfl, rfl⟩⟩
    · simp [Value.cells] at hcs
      obtain ⟨rfl, rfl, rfl⟩ := hcs
      exact ⟨zs, .inr ⟨_, rfl, hl, hm, by simpa using hz, hcell, hwz⟩⟩
  clear hA0 hval0
  have hT := tens_of_laid (by kernel_rfl) hL
  refine (walk a0 len0 cap0 z0 W g0 hT).mono fun e W' ⟨he, bel⟩ => ?_
  subst he
  exact ⟨_, rfl, _, _, _, [], _, [], hW', trodAll_mk1 (shut_bool Tryd.underlying4 _), (trodAll_cons_mk (Below.trod laidOut (by kernel_rfl) (of_decide_eq_true (by kernel_rfl)) k0 bel lt0) trodAll_mk0), rfl, bel.frame _, fun h => by cases h⟩

theorem over : Rows.fnArchesRow.holds Tryd.pinned (OpenSpec.ofChange Rows.fnArchesSpec) :=
  OpenClaim.holds_of_wide 3 Tryd.f3 rfl rfl rfl rfl rfl rfl rfl ⟨rfl, rfl, rfl, rfl, rfl⟩ rfl rfl rfl rfl rfl (by kernel_rfl) Tryd.func3 (by kernel_rfl)
    (of_decide_eq_true (by kernel_rfl)) (by unfold Func.isWrapper; first | (rw [if_pos (by decide +kernel)]; kernel_rfl) | (rw [if_neg (by decide +kernel)]; exact ⟨rfl, rfl⟩))
    (fun os started H enc _ => lifted os started H enc)

/-- THE STATEMENT: the card, tied to the program's text. -/
theorem proved : Rows.FnArchesCardSaid :=
  Claim7.holds_tied_plain_at .later [] [.data, .data, .data] true (true, "64df1cb1ea6108cc02b526d122d65966c037f555878a32d4f6b761c2a6583bff") false
    over (fun _ h => by cases h) (by kernel_rfl) (fun _ h => by cases h) fnArches_row_tie rfl ⟨rfl, rfl⟩ (by kernel_rfl) rfl
    (fun f fn hf hfn => by
      obtain rfl : f = 3 := Option.some.inj ((show Tryd.prog.funcNamed Rows.fnArchesRow.func = some 3 by kernel_rfl).symm.trans hf) |>.symm
      obtain rfl : fn = Tryd.f3 := (Option.some.inj (Tryd.func3.symm.trans hfn)).symm
      exact ⟨by kernel_rfl, fun j t ht => by
        rw [Tryd.params3] at ht
        have hm : t ∈ [22] := by simpa using Array.mem_of_getElem? ht
        have hall : ([22].all fun u => !Tryd.prog.wantsStandIn u) = true := by kernel_rfl
        exact (show Tryd.prog.wantsStandIn t = false by simpa using List.all_eq_true.1 hall t hm)⟩)
    (by kernel_rfl)
#print axioms proved
end Go.Proofs.YtggkodhfhhjihaaDoor.fnArches
