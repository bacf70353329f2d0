/- ProofOk, SumOfRows and IsProof of the model. By program (gen_proofs.py). -/
import Derived.Test.YtidmhpeaehmmhabProofI
namespace Go.Proofs.Ytidmhpeaehmmhab
set_option maxRecDepth 100000
open Go.ChangeShapes Go.WideShapes Go.ChangeAt Go.RowKit

theorem prOk_s {rs : List Cd} {ps fs : List Int} (h : allV ps.length (prAt ps fs rs.length) = false) : prOk rs ps fs = false := by rw [prOk_model, h]; simp
theorem prOk_all_s {rs : List Cd} {ps fs : List Int} (h1 : rs.length ≤ 40) (h2 : cdsOk rs = true) (h4 : inR ps.length 1 4 = true) (h5 : fs.length = ps.length) : prOk rs ps fs = allV ps.length (prAt ps fs rs.length) := by
  rw [prOk_model]; unfold prNum; rw [decide_eq_true h1, h2, h4, decide_eq_true h5]; rfl

set_option maxHeartbeats 8000000 in
set_option maxRecDepth 100000 in
theorem specProofOk (w : World) (B B2 B3 : Nat) (a b ra : Option Addr) (n cap m cap2 rn rc : Nat) (rs : List Cd) (ps fs : List Int) (hp : Ins w B a n cap ps) (hf : Ins w B2 b m cap2 fs) (hr : Cds w B3 ra rn rc rs) :
    Calls Try.prog 22 #[.slice ra rn rc, .agg #[.slice a n cap, .slice b m cap2]] w fun e w' => e = .returned (.bool (prOk rs ps fs)) ∧ Below w.heap.size w w' := by
  obtain ⟨hnc, hcm⟩ := hp.cap
  obtain ⟨hmc, hcm2⟩ := hf.cap
  obtain ⟨hrc, hcm3⟩ := hr.cap
  unfold maxLen at hcm hcm2 hcm3
  have HLP := Lib.hid hp.2
  have HLF := Lib.hid hf.2
  have HLR := Lib.hid hr.2
  have HP := Lib.hid hp
  have HF := Lib.hid hf
  have HR := Lib.hid hr
  have HB0 := Lib.hid ((Below.refl w.heap.size w).alloc (Nat.le_refl _) (.cells #[.slice a n cap, .slice b m cap2] 32))
  have HX0 := Lib.hid (pbox_alloc w a b n cap m cap2 32)
  clear hp hf hr
  by_cases h1 : 40 < rn
  · have HV := Lib.hid (prOk_a (ps := ps) (fs := fs) (show ¬ rs.length ≤ 40 by have := HLR.out; omega))
    have h1' : decide ((40 : Int) < rn) = true := decide_eq_true (by omega)
    have h1i : (40 : Int) < rn := by omega
    go_enter Try.func22, Try.ntmps22
    go_wp2_with fail
    go_ret
    exact ⟨ret_bool HV.out.symm, HB0.out⟩
  have h1' : decide ((40 : Int) < rn) = false := decide_eq_false (by omega)
  have h1i : ¬ (40 : Int) < rn := by omega
  cases h4 : inR (n : Int) 1 4
  · have HV := Lib.hid (prOk_d (rs := rs) (fs := fs) (show inR ps.length 1 4 = false by rw [HLP.out]; exact h4))
    have H4 := Lib.hid h4
    clear h4
    go_enter Try.func22, Try.ntmps22
    go_wp2_with fail
    refine (l01InR (n : Int) 1 4 _).mono ?_
    rintro e w1 ⟨rfl, rfl⟩
    rw [H4.out]
    go_wp2_with fail
    go_ret
    exact ⟨ret_bool HV.out.symm, HB0.out⟩
  have hn4 := inR_iff.1 h4
  have H4 := Lib.hid h4
  clear h4
  by_cases h5 : m = n
  case neg =>
    have HV := Lib.hid (prOk_e (rs := rs) (show ¬ fs.length = ps.length by rw [HLF.out, HLP.out]; exact h5))
    have h5' : ((m : Int) != n) = true := by simp; omega
    have h5i : ¬ (m : Int) = n := by omega
    clear h5
    go_enter Try.func22, Try.ntmps22
    go_wp2_with fail
    refine (l01InR (n : Int) 1 4 _).mono ?_
    rintro e w1 ⟨rfl, rfl⟩
    rw [H4.out]
    go_wp2_with fail
    go_ret
    exact ⟨ret_bool HV.out.symm, HB0.out⟩
  subst h5
  obtain ⟨hn1, hn2⟩ := hn4
  have h5' : ((m : Int) != m) = false := by simp
  go_enter Try.func22, Try.ntmps22
  go_wp2_with fail
  refine (l01InR (m : Int) 1 4 _).mono ?_
  rintro e w1 ⟨rfl, rfl⟩
  rw [H4.out]
  go_wp2_with fail
  go_loopw [5] (fun t wr => ∃ k : Nat, k ≤ rn ∧ t = .int .i64 k ∧ allFrom rn k (cdOkAt rs) = allFrom rn 0 (cdOkAt rs) ∧ PBox wr w.heap.size a m cap b m cap2 ∧ Below w.heap.size w wr)
    (fun t _ => rn - (intOf t).toNat)
  case atStart => exact ⟨0, Nat.zero_le _, rfl, rfl, HX0.out, HB0.out⟩
  case round =>
    clear HX0 HB0
    obtain ⟨k, hk, rfl, hall, hbox, hbw⟩ := hrel
    have HB := Lib.hid hbw
    have HA := Lib.hid hall
    have HX := Lib.hid hbox
    clear hall
    by_cases hlt : k < rn
    · obtain ⟨g, rfl, -, a0, a1, a2, a3⟩ := (HR.out.below hbw).at k hlt
      have HQ := Lib.hid (show cdOkAt rs k = cdOk (cd rs k).1 (cd rs k).2.1 (cd rs k).2.2.1 (cd rs k).2.2.2 from rfl)
      generalize (cd rs k).1 = x at *
      generalize (cd rs k).2.1 = y at *
      generalize (cd rs k).2.2.1 = z at *
      generalize (cd rs k).2.2.2 = u at *
      clear hbw hbox
      cases hc : cdOk x y z u
      · have HV := Lib.hid (prOk_b (ps := ps) (fs := fs) (show cdsOk rs = false by rw [show cdsOk rs = allFrom rn 0 (cdOkAt rs) by unfold cdsOk; rw [HLR.out]; rfl, ← HA.out]; exact allFrom_no hlt (by rw [HQ.out]; exact hc)))
        have HC := Lib.hid hc
        clear hc
        go_wp2_with fail
        refine (specRowOk _ _ _ _ _).mono ?_
        rintro e w2 ⟨rfl, hb2⟩
        rw [HC.out]
        have HB2 := Lib.hid (HB.out.trans (hb2.mono HB.out.size))
        clear hb2
        go_wp2_with fail
        go_ret
        exact ⟨ret_bool HV.out.symm, HB2.out⟩
      · have HY := Lib.hid (show allFrom rn (k + 1) (cdOkAt rs) = allFrom rn 0 (cdOkAt rs) by rw [← HA.out]; exact allFrom_yes hlt (by rw [HQ.out]; exact hc))
        have HC := Lib.hid hc
        clear hc
        go_wp2_with fail
        refine (specRowOk _ _ _ _ _).mono ?_
        rintro e w2 ⟨rfl, hb2⟩
        rw [HC.out]
        have HB2 := Lib.hid (HB.out.trans (hb2.mono HB.out.size))
        have HX2 := Lib.hid (HX.out.below hb2)
        clear hb2
        go_wp2_with fail
        go_roundw
        case rel => exact ⟨k + 1, by omega, by go_num, HY.out, HX2.out, HB2.out⟩
        case measure => simp [intOf]; omega
    · obtain rfl : k = rn := by omega
      have HOK := Lib.hid (show cdsOk rs = true by rw [show cdsOk rs = allFrom k 0 (cdOkAt rs) by unfold cdsOk; rw [HLR.out]; rfl, ← HA.out, allFrom_end])
      have HE := Lib.hid (show prOk rs ps fs = allFrom m 0 (prAt ps fs k) by rw [prOk_all_s (by have := HLR.out; omega) HOK.out (by rw [HLP.out]; exact H4.out) (by rw [HLF.out, HLP.out]), HLP.out, HLR.out]; rfl)
      clear hbw hbox
      go_wp2_with fail
      go_loopw [6] (fun t wq => ∃ j : Nat, j ≤ m ∧ t = .int .i64 j ∧ allFrom m j (prAt ps fs k) = allFrom m 0 (prAt ps fs k) ∧ PBox wq w.heap.size a m cap b m cap2 ∧ Below w.heap.size w wq)
        (fun t _ => m - (intOf t).toNat)
      case atStart => exact ⟨0, Nat.zero_le _, rfl, rfl, HX.out, HB.out⟩
      case round =>
        clear HX HB
        obtain ⟨j, hj, rfl, hall, hbox, hbw⟩ := hrel
        have HB := Lib.hid hbw
        have HA2 := Lib.hid hall
        have HX := Lib.hid hbox
        clear hall
        obtain ⟨k0, k1⟩ := hbox
        by_cases hlt : j < m
        · have hn1s := Since.nonempty wr
          obtain ⟨g, rfl, -, a0⟩ := (HP.out.below hbw).at j hlt
          obtain ⟨h, rfl, -, b0⟩ := (HF.out.below hbw).at j hlt
          have sk0 := fun (x : Since wr) => (x.cell w.heap.size 0 (cell_block_lt k0)).trans k0
          have sk1 := fun (x : Since wr) => (x.cell w.heap.size 1 (cell_block_lt k1)).trans k1
          have sa0 := fun (x : Since wr) => (x.cell g j (cell_block_lt a0)).trans a0
          have sb0 := fun (x : Since wr) => (x.cell h j (cell_block_lt b0)).trans b0
          have HN := Lib.hid (fun (hf : prAt ps fs k j = false) => (show prOk rs ps fs = false by rw [HE.out, ← HA2.out]; exact allFrom_no hlt hf))
          have HY := Lib.hid (fun (hf : prAt ps fs k j = true) => (show allFrom m (j + 1) (prAt ps fs k) = allFrom m 0 (prAt ps fs k) by rw [← HA2.out]; exact allFrom_yes hlt hf))
          have HQ := Lib.hid (show prAt ps fs k j = (inR (ps.getD j 0) 0 ((k : Int) - 1) && ((decide (j = 0) || decide (ps.getD (j - 1) 0 < ps.getD j 0)) && inR (fs.getD j 0) 1 1000000)) from rfl)
          have hw1 : IntKind.i64.wrap ((k : Int) - 1) = (k : Int) - 1 := IntWalk.i64_in _ (by omega)
          have HPREV := Lib.hid (fun (hj0 : 0 < j) => (HP.out.below hbw).at (j - 1) (by omega))
          clear hbw
          generalize ps.getD j 0 = x at *
          generalize fs.getD j 0 = y at *
          have H1 := Lib.hid (fun w => l01InR x 0 ((k : Int) - 1) w)
          have H3 := Lib.hid (fun w => l01InR y 1 1000000 w)
          cases h1c : inR x 0 ((k : Int) - 1)
          · have HV := Lib.hid (HN.out (by rw [HQ.out, h1c]; rfl))
            rw [h1c] at H1
            clear h1c
            go_wp2_with fail
            refine wp_region_fast (by kernel_rfl) (by kernel_rfl) ?_
            try dsimp only [List.append]
            repeat (go_big_quiet_step (first
                    | (go_at_call_of 29 (Value.int .i64 x); exact Since.call_same (H1.out _))))
            refine wpQuiet_nil ?_
            rintro w4 ⟨⟨w4, hb4⟩, rfl⟩
            have HB4 := Lib.hid (HB.out.trans (hb4.mono HB.out.size))
            have HX4 := Lib.hid (HX.out.below hb4)
            clear hb4 sk0 sk1 sa0 sb0
            go_wp2_with fail
            go_ret
            exact ⟨ret_bool HV.out.symm, HB4.out⟩
          rw [h1c] at H1
          by_cases hj0 : j = 0
          · subst hj0
            cases h3c : inR y 1 1000000
            · have HV := Lib.hid (HN.out (by rw [HQ.out, h1c, h3c]; rfl))
              rw [h3c] at H3
              clear h1c h3c
              go_wp2_with fail
              refine wp_region_fast (by kernel_rfl) (by kernel_rfl) ?_
              try dsimp only [List.append]
              repeat (go_big_quiet_step (first
                      | (go_at_call_of 29 (Value.int .i64 x); exact Since.call_same (H1.out _))
                      | (go_at_call_of 29 (Value.int .i64 y); exact Since.call_same (H3.out _))))
              refine wpQuiet_nil ?_
              rintro w4 ⟨⟨w4, hb4⟩, rfl⟩
              have HB4 := Lib.hid (HB.out.trans (hb4.mono HB.out.size))
              have HX4 := Lib.hid (HX.out.below hb4)
              clear hb4 sk0 sk1 sa0 sb0
              go_wp2_with fail
              go_ret
              exact ⟨ret_bool HV.out.symm, HB4.out⟩
            · have HV := Lib.hid (HY.out (by rw [HQ.out, h1c, h3c]; rfl))
              rw [h3c] at H3
              clear h1c h3c
              go_wp2_with fail
              refine wp_region_fast (by kernel_rfl) (by kernel_rfl) ?_
              try dsimp only [List.append]
              repeat (go_big_quiet_step (first
                      | (go_at_call_of 29 (Value.int .i64 x); exact Since.call_same (H1.out _))
                      | (go_at_call_of 29 (Value.int .i64 y); exact Since.call_same (H3.out _))))
              refine wpQuiet_nil ?_
              rintro w4 ⟨⟨w4, hb4⟩, rfl⟩
              have HB4 := Lib.hid (HB.out.trans (hb4.mono HB.out.size))
              have HX4 := Lib.hid (HX.out.below hb4)
              clear hb4 sk0 sk1 sa0 sb0
              go_wp2_with fail
              go_roundw
              case rel => exact ⟨0 + 1, by omega, by go_num, HV.out, HX4.out, HB4.out⟩
              case measure => simp [intOf]; omega
          obtain ⟨g', hg', -, p0⟩ := HPREV.out (by omega)
          simp only [Option.some.injEq, Addr.mk.injEq, and_true] at hg'
          subst hg'
          obtain ⟨i, hi⟩ : ∃ i, j - 1 = i := ⟨_, rfl⟩
          rw [hi] at p0 HQ
          have hi1 : (i : Int) = (j : Int) - 1 := by omega
          have hji : j = i + 1 := by omega
          have hw2 : IntKind.i64.wrap ((j : Int) - 1) = (i : Int) := by rw [IntWalk.i64_in _ (by omega)]; omega
          have hjp : (0 : Int) < (j : Int) := by omega
          have hjp' : decide ((0 : Int) < (j : Int)) = true := decide_eq_true hjp
          have hjn : 0 < j := by omega
          have hjn' : decide (0 < j) = true := decide_eq_true hjn
          have hin : (i : Int) < (m : Int) := by omega
          have hi0 : (0 : Int) ≤ (i : Int) := by omega
          have sp0 := fun (x : Since wr) => (x.cell g i (cell_block_lt p0)).trans p0
          generalize ps.getD i 0 = v at *
          have HJ0 := Lib.hid hj0
          have HJI := Lib.hid hji
          clear hi1 hi hji
          by_cases hle : x ≤ v
          · have HV := Lib.hid (HN.out (by rw [HQ.out, h1c, decide_eq_false HJ0.out, decide_eq_false (show ¬ v < x by omega)]; rfl))
            have hle' : decide (x ≤ v) = true := decide_eq_true hle
            clear h1c
            go_wp2_with fail
            refine wp_region_fast (by kernel_rfl) (by kernel_rfl) ?_
            try dsimp only [List.append]
            repeat (go_big_quiet_step (first
                    | (go_at_call_of 29 (Value.int .i64 x); exact Since.call_same (H1.out _))
                    | (go_at_call_of 29 (Value.int .i64 y); exact Since.call_same (H3.out _))))
            refine wpQuiet_nil ?_
            rintro w4 ⟨⟨w4, hb4⟩, rfl⟩
            have HB4 := Lib.hid (HB.out.trans (hb4.mono HB.out.size))
            have HX4 := Lib.hid (HX.out.below hb4)
            clear sp0 hb4 sk0 sk1 sa0 sb0
            go_wp2_with fail
            go_ret
            exact ⟨ret_bool HV.out.symm, HB4.out⟩
          have hle' : decide (x ≤ v) = false := decide_eq_false hle
          have hlt2 : decide (v < x) = true := decide_eq_true (by omega)
          have HLT2 := Lib.hid hlt2
          clear hlt2
          cases h3c : inR y 1 1000000
          · have HV := Lib.hid (HN.out (by rw [HQ.out, h1c, h3c, HLT2.out]; simp))
            rw [h3c] at H3
            clear h1c h3c
            go_wp2_with fail
            refine wp_region_fast (by kernel_rfl) (by kernel_rfl) ?_
            try dsimp only [List.append]
            repeat (go_big_quiet_step (first
                    | (go_at_call_of 29 (Value.int .i64 x); exact Since.call_same (H1.out _))
                    | (go_at_call_of 29 (Value.int .i64 y); exact Since.call_same (H3.out _))))
            refine wpQuiet_nil ?_
            rintro w4 ⟨⟨w4, hb4⟩, rfl⟩
            have HB4 := Lib.hid (HB.out.trans (hb4.mono HB.out.size))
            have HX4 := Lib.hid (HX.out.below hb4)
            clear sp0 hb4 sk0 sk1 sa0 sb0
            go_wp2_with fail
            go_ret
            exact ⟨ret_bool HV.out.symm, HB4.out⟩
          · have HV := Lib.hid (HY.out (by rw [HQ.out, h1c, h3c, HLT2.out]; simp))
            rw [h3c] at H3
            clear h1c h3c
            go_wp2_with fail
            refine wp_region_fast (by kernel_rfl) (by kernel_rfl) ?_
            try dsimp only [List.append]
            repeat (go_big_quiet_step (first
                    | (go_at_call_of 29 (Value.int .i64 x); exact Since.call_same (H1.out _))
                    | (go_at_call_of 29 (Value.int .i64 y); exact Since.call_same (H3.out _))))
            refine wpQuiet_nil ?_
            rintro w4 ⟨⟨w4, hb4⟩, rfl⟩
            have HB4 := Lib.hid (HB.out.trans (hb4.mono HB.out.size))
            have HX4 := Lib.hid (HX.out.below hb4)
            clear sp0 hb4 sk0 sk1 sa0 sb0
            go_wp2_with fail
            go_roundw
            case rel => exact ⟨j + 1, by omega, by go_num, HV.out, HX4.out, HB4.out⟩
            case measure => simp [intOf]; omega
        · obtain rfl : j = m := by omega
          clear hbw
          go_wp2_with fail
          go_ret
          exact ⟨ret_bool (by rw [HE.out, ← HA2.out, allFrom_end]), HB.out⟩

/-- What SumOfRows hands back. -/
def smTs (rs : List Cd) (ps fs : List Int) : Value := .tuple #[.int .i64 (smV rs ps fs 0), .int .i64 (smV rs ps fs 1), .int .i64 (smV rs ps fs 2), .int .i64 (smV rs ps fs 3)]
set_option maxHeartbeats 4000000 in
theorem specSumOfRows (w : World) (B B2 B3 : Nat) (a b ra : Option Addr) (n cap m cap2 rn rc : Nat) (rs : List Cd) (ps fs : List Int) (hp : Ins w B a n cap ps) (hf : Ins w B2 b m cap2 fs) (hr : Cds w B3 ra rn rc rs) :
    Calls Try.prog 8 #[.slice ra rn rc, .agg #[.slice a n cap, .slice b m cap2]] w fun e w' => e = .returned (smTs rs ps fs) ∧ Below w.heap.size w w' := by
  obtain ⟨hnc, hcm⟩ := hp.cap
  obtain ⟨hmc, hcm2⟩ := hf.cap
  obtain ⟨hrc, hcm3⟩ := hr.cap
  unfold maxLen at hcm hcm2 hcm3
  have HLP := Lib.hid hp.2
  have HLF := Lib.hid hf.2
  have HLR := Lib.hid hr.2
  have HP := Lib.hid hp
  have HF := Lib.hid hf
  have HR := Lib.hid hr
  have HB0 := Lib.hid ((Below.refl w.heap.size w).alloc (Nat.le_refl _) (.cells #[.slice a n cap, .slice b m cap2] 32))
  have HX0 := Lib.hid (pbox_alloc w a b n cap m cap2 32)
  clear hp hf hr
  cases hok : prOk rs ps fs
  · have HT := Lib.hid (show smTs rs ps fs = .tuple #[.int .i64 0, .int .i64 0, .int .i64 0, .int .i64 0] by unfold smTs; rw [smV_no hok, smV_no hok, smV_no hok, smV_no hok])
    have HOK := Lib.hid hok
    clear hok
    go_enter Try.func8, Try.ntmps8
    go_wp2_with fail
    refine wp_loop_rounds 1 ?_
    rw [rounds_succ]
    obtain ⟨k0, k1⟩ := id HX0.out
    by_cases hn : n = 0
    · subst hn
      go_wp2_with fail
      refine bodyPost_ret (v := .tuple #[.int .i64 0, .int .i64 0, .int .i64 0, .int .i64 0]) (by simp [results, Try.results8, go_sem]) rfl ⟨by rw [HT.out], HB0.out⟩
    · have hnp : (0 : Int) < (n : Int) := by omega
      have hnp' : decide ((0 : Int) < (n : Int)) = true := decide_eq_true hnp
      go_wp2_with fail
      refine (specProofOk _ _ _ _ _ _ _ _ _ _ _ _ _ rs ps fs (HP.out.below HB0.out) (HF.out.below HB0.out) (HR.out.below HB0.out)).mono ?_
      rintro e w2 ⟨rfl, hb2⟩
      rw [HOK.out]
      have HB2 := Lib.hid (HB0.out.trans (hb2.mono HB0.out.size))
      clear hb2
      go_wp2_with fail
      refine bodyPost_ret (v := .tuple #[.int .i64 0, .int .i64 0, .int .i64 0, .int .i64 0]) (by simp [results, Try.results8, go_sem]) rfl ⟨by rw [HT.out], HB2.out⟩
  have HPR := Lib.hid (prOk_iff.1 hok)
  have HOK := Lib.hid hok
  have hpl := HPR.out.p
  have hlp := HLP.out
  have hn4 : n ≤ 4 := by omega
  obtain rfl : m = n := by have := HLF.out; have := HPR.out.f; omega
  clear hok hpl hlp
  go_enter Try.func8, Try.ntmps8
  go_wp2_with fail
  go_loopw [8, 9, 10, 11, 12] (fun s0 s1 s2 s3 t wr => ∃ k : Nat, k ≤ m ∧ t = .int .i64 k ∧ s0 = .int .i64 (smTo rs ps fs 0 k) ∧ s1 = .int .i64 (smTo rs ps fs 1 k) ∧ s2 = .int .i64 (smTo rs ps fs 2 k) ∧ s3 = .int .i64 (smTo rs ps fs 3 k) ∧ PBox wr w.heap.size a m cap b m cap2 ∧ Below w.heap.size w wr)
    (fun _ _ _ _ t _ => m - (intOf t).toNat)
  case atStart => exact ⟨0, Nat.zero_le _, rfl, rfl, rfl, rfl, rfl, HX0.out, HB0.out⟩
  case round =>
    clear HX0 HB0
    obtain ⟨k, hk, rfl, rfl, rfl, rfl, rfl, hbox, hbw⟩ := hrel
    have HB := Lib.hid hbw
    have HX := Lib.hid hbox
    obtain ⟨k0, k1⟩ := hbox
    by_cases hlt : k < m
    · go_wp2_with fail
      refine (specProofOk _ _ _ _ _ _ _ _ _ _ _ _ _ rs ps fs (HP.out.below HB.out) (HF.out.below HB.out) (HR.out.below HB.out)).mono ?_
      rintro e w2 ⟨rfl, hb2⟩
      rw [HOK.out]
      have HB2 := Lib.hid (HB.out.trans (hb2.mono HB.out.size))
      have HX2 := Lib.hid (HX.out.below hb2)
      clear hb2 hbw k0 k1 HB HX
      obtain ⟨k0, k1⟩ := id HX2.out
      have hkp : k < ps.length := by have := HLP.out; omega
      have hge := asc_ge HPR.out.asc k hkp
      obtain ⟨g, rfl, -, a0⟩ := (HP.out.below HB2.out).at k hlt
      obtain ⟨h, rfl, -, b0⟩ := (HF.out.below HB2.out).at k hlt
      obtain ⟨q, hq⟩ : ∃ q : Nat, ps.getD k 0 = (q : Int) := ⟨(ps.getD k 0).toNat, by omega⟩
      have hqr : q < rn := by have := HLR.out; omega
      have hqi : (q : Int) < (rn : Int) := by omega
      have hq0 : (0 : Int) ≤ (q : Int) := by omega
      obtain ⟨r, rfl, -, c0, c1, c2, c3⟩ := (HR.out.below HB2.out).at q hqr
      rw [hq] at a0
      have hqt : (ps.getD k 0).toNat = q := by omega
      have hb0 := smTo_bd HPR.out 0 k (by omega)
      have hb1 := smTo_bd HPR.out 1 k (by omega)
      have hb2 := smTo_bd HPR.out 2 k (by omega)
      have hb3 := smTo_bd HPR.out 3 k (by omega)
      have hm0 := sm_mul_bd HPR.out 0 k hkp
      have hm1 := sm_mul_bd HPR.out 1 k hkp
      have hm2 := sm_mul_bd HPR.out 2 k hkp
      have hm3 := sm_mul_bd HPR.out 3 k hkp
      have HT0 := Lib.hid (smTo_step rs ps fs 0 k)
      have HT1 := Lib.hid (smTo_step rs ps fs 1 k)
      have HT2 := Lib.hid (smTo_step rs ps fs 2 k)
      have HT3 := Lib.hid (smTo_step rs ps fs 3 k)
      rw [hqt, show col 0 (cd rs q) = (cd rs q).1 from rfl] at hm0 HT0
      rw [hqt, show col 1 (cd rs q) = (cd rs q).2.1 from rfl] at hm1 HT1
      rw [hqt, show col 2 (cd rs q) = (cd rs q).2.2.1 from rfl] at hm2 HT2
      rw [hqt, show col 3 (cd rs q) = (cd rs q).2.2.2 from rfl] at hm3 HT3
      obtain ⟨⟨x, y, z, u⟩, hcq⟩ : ∃ p, cd rs q = p := ⟨_, rfl⟩
      rw [hcq] at c0 c1 c2 c3 hm0 hm1 hm2 hm3 HT0 HT1 HT2 HT3
      dsimp only at c0 c1 c2 c3 hm0 hm1 hm2 hm3 HT0 HT1 HT2 HT3
      generalize fs.getD k 0 = F at *
      generalize smTo rs ps fs 0 k = r0 at *
      generalize smTo rs ps fs 1 k = r1 at *
      generalize smTo rs ps fs 2 k = r2 at *
      generalize smTo rs ps fs 3 k = r3 at *
      have p0 : IntKind.i64.wrap (F * x) = F * x := IntWalk.i64_in _ (by omega)
      have p1 : IntKind.i64.wrap (F * y) = F * y := IntWalk.i64_in _ (by omega)
      have p2 : IntKind.i64.wrap (F * z) = F * z := IntWalk.i64_in _ (by omega)
      have p3 : IntKind.i64.wrap (F * u) = F * u := IntWalk.i64_in _ (by omega)
      have t0 : IntKind.i64.wrap (r0 + F * x) = r0 + F * x := IntWalk.i64_in _ (by omega)
      have t1 : IntKind.i64.wrap (r1 + F * y) = r1 + F * y := IntWalk.i64_in _ (by omega)
      have t2 : IntKind.i64.wrap (r2 + F * z) = r2 + F * z := IntWalk.i64_in _ (by omega)
      have t3 : IntKind.i64.wrap (r3 + F * u) = r3 + F * u := IntWalk.i64_in _ (by omega)
      have hal := cd_al w2 (.cells #[.int .i64 x, .int .i64 y, .int .i64 z, .int .i64 u] 45)
      have HB3 := Lib.hid (HB2.out.trans (hal.mono HB2.out.size))
      have HX3 := Lib.hid (HX2.out.below hal)
      have k1' := cell_kept k1 hal
      have b0' := cell_kept b0 hal
      clear hb0 hb1 hb2 hb3 hm0 hm1 hm2 hm3 hge hkp hq hqt hcq hal HB2 HX2 hqr
      go_wp2_with fail
      go_roundw
      case rel => exact ⟨k + 1, by omega, by go_num, by rw [HT0.out], by rw [HT1.out], by rw [HT2.out], by rw [HT3.out], HX3.out, HB3.out⟩
      case measure => simp [intOf]; omega
    · obtain rfl : k = m := by omega
      have HT := Lib.hid (show smTs rs ps fs = .tuple #[.int .i64 (smTo rs ps fs 0 k), .int .i64 (smTo rs ps fs 1 k), .int .i64 (smTo rs ps fs 2 k), .int .i64 (smTo rs ps fs 3 k)] by unfold smTs; rw [smV_yes HOK.out, smV_yes HOK.out, smV_yes HOK.out, smV_yes HOK.out, HLP.out])
      generalize smTo rs ps fs 0 k = r0 at *
      generalize smTo rs ps fs 1 k = r1 at *
      generalize smTo rs ps fs 2 k = r2 at *
      generalize smTo rs ps fs 3 k = r3 at *
      clear hbw
      go_wp2_with fail
      refine bodyPost_ret (v := .tuple #[.int .i64 r0, .int .i64 r1, .int .i64 r2, .int .i64 r3]) (by simp [results, Try.results8, go_sem]) rfl ⟨by rw [HT.out], HB.out⟩

set_option maxHeartbeats 2000000 in
theorem specIsProof (w : World) (B B2 B3 : Nat) (a b ra : Option Addr) (n cap m cap2 rn rc : Nat) (rs : List Cd) (ps fs : List Int) (hp : Ins w B a n cap ps) (hf : Ins w B2 b m cap2 fs) (hr : Cds w B3 ra rn rc rs) :
    Calls Try.prog 14 #[.slice ra rn rc, .agg #[.slice a n cap, .slice b m cap2]] w fun e w' => e = .returned (.bool (isPr rs ps fs)) ∧ Below w.heap.size w w' := by
  have HP := Lib.hid hp
  have HF := Lib.hid hf
  have HR := Lib.hid hr
  have HB0 := Lib.hid ((Below.refl w.heap.size w).alloc (Nat.le_refl _) (.cells #[.slice a n cap, .slice b m cap2] 32))
  have HX0 := Lib.hid (pbox_alloc w a b n cap m cap2 32)
  clear hp hf hr
  have HNO := Lib.hid (isPr_no (rs := rs) (ps := ps) (fs := fs))
  have HT := Lib.hid (show isPr rs ps fs = (decide (smV rs ps fs 0 = 0) && (decide (smV rs ps fs 1 = 0) && (decide (smV rs ps fs 2 = 0) && decide (smV rs ps fs 3 < 0)))) from rfl)
  have HSM := Lib.hid (fun w B B2 B3 a b ra n cap m cap2 rn rc hp hf hr => specSumOfRows w B B2 B3 a b ra n cap m cap2 rn rc rs ps fs hp hf hr)
  unfold smTs at HSM
  generalize smV rs ps fs 0 = t0 at *
  generalize smV rs ps fs 1 = t1 at *
  generalize smV rs ps fs 2 = t2 at *
  generalize smV rs ps fs 3 = t3 at *
  go_enter Try.func14, Try.ntmps14
  go_wp2_with fail
  refine (HSM.out _ _ _ _ _ _ _ _ _ _ _ _ _ (HP.out.below HB0.out) (HF.out.below HB0.out) (HR.out.below HB0.out)).mono ?_
  rintro e w1 ⟨rfl, hb1⟩
  have HB1 := Lib.hid (HB0.out.trans (hb1.mono HB0.out.size))
  have HX1 := Lib.hid (HX0.out.below hb1)
  clear hb1 HB0 HX0
  obtain ⟨k0, k1⟩ := id HX1.out
  go_wp2_with fail
  refine (specProofOk _ _ _ _ _ _ _ _ _ _ _ _ _ rs ps fs (HP.out.below HB1.out) (HF.out.below HB1.out) (HR.out.below HB1.out)).mono ?_
  rintro e w2 ⟨rfl, hb2⟩
  have HB2 := Lib.hid (HB1.out.trans (hb2.mono HB1.out.size))
  clear hb2 HB1 HX1 k0 k1
  cases hok : prOk rs ps fs
  · have HV := Lib.hid (HNO.out hok)
    clear hok
    go_wp2_with fail
    go_ret
    exact ⟨ret_bool HV.out.symm, HB2.out⟩
  clear hok
  by_cases h0 : t0 = 0
  · by_cases h1 : t1 = 0
    · by_cases h2 : t2 = 0
      · have HV := Lib.hid (show isPr rs ps fs = decide (t3 < 0) by rw [HT.out, decide_eq_true h0, decide_eq_true h1, decide_eq_true h2]; rfl)
        subst h0 h1 h2
        go_wp2_with fail
        go_ret
        exact ⟨ret_bool HV.out.symm, HB2.out⟩
      · have HV := Lib.hid (show isPr rs ps fs = false by rw [HT.out, decide_eq_false h2]; simp)
        have h2' : (t2 == 0) = false := by simpa using h2
        subst h0 h1
        go_wp2_with fail
        go_ret
        exact ⟨ret_bool HV.out.symm, HB2.out⟩
    · have HV := Lib.hid (show isPr rs ps fs = false by rw [HT.out, decide_eq_false h1]; simp)
      have h1' : (t1 == 0) = false := by simpa using h1
      subst h0
      go_wp2_with fail
      go_ret
      exact ⟨ret_bool HV.out.symm, HB2.out⟩
  · have HV := Lib.hid (show isPr rs ps fs = false by rw [HT.out, decide_eq_false h0]; rfl)
    have h0' : (t0 == 0) = false := by simpa using h0
    go_wp2_with fail
    go_ret
    exact ⟨ret_bool HV.out.symm, HB2.out⟩
end Go.Proofs.Ytidmhpeaehmmhab
