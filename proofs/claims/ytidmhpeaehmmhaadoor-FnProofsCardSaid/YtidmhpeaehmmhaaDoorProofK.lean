/- ProofOk, SumOfRows and IsProof of the program. -/
import Derived.Test.YtidmhpeaehmmhaaDoorProofJ
namespace Go.Proofs.YtidmhpeaehmmhaaDoor
set_option maxRecDepth 100000
open Go.ChangeShapes Go.WideShapes Go.ChangeAt Go.RowKit Go.Maps

/-- What SumOfRows hands back. -/
def smT (rs : List Cd) (ps fs : List Int) : Value := .tuple #[.int .i64 (smV rs ps fs 0), .int .i64 (smV rs ps fs 1), .int .i64 (smV rs ps fs 2), .int .i64 (smV rs ps fs 3)]
set_option maxHeartbeats 2000000 in
theorem implSumOfRows (w : World) (B B2 B3 : Nat) (a b ra : Option Addr) (n cap m cap2 rn rc : Nat) (rs : List Cd) (ps fs : List Int) (hp : Ins w B a n cap ps) (hf : Ins w B2 b m cap2 fs) (hr : Cds w B3 ra rn rc rs) :
    Calls Tryd.prog 7 #[.slice ra rn rc, .agg #[.slice a n cap, .slice b m cap2]] w fun e w' => e = .returned (smT rs ps fs) ∧ Below w.heap.size w w' := by
  have HP := Lib.hid hp
  have HF := Lib.hid hf
  have HR := Lib.hid hr
  have HB0 := Lib.hid ((Below.refl w.heap.size w).alloc (Nat.le_refl _) (.cells #[.slice a n cap, .slice b m cap2] 27))
  clear hp hf hr
  go_enter Tryd.func7, Tryd.ntmps7
  go_wp2_with fail
  refine (factorsFor _ _ _ _ _ _ _ _ _ _ _ _ _ rs ps fs (HP.out.below HB0.out) (HF.out.below HB0.out) (HR.out.below HB0.out)).mono ?_
  rintro e w1 ⟨⟨hno, rfl⟩ | ⟨hyes, M, -, rfl, hmap⟩, hb1⟩
  · have HB1 := Lib.hid (HB0.out.trans (hb1.mono HB0.out.size))
    have HT := Lib.hid (show smT rs ps fs = .tuple #[.int .i64 0, .int .i64 0, .int .i64 0, .int .i64 0] by unfold smT; rw [smV_no hno, smV_no hno, smV_no hno, smV_no hno])
    clear hno hb1
    go_wp2_with fail
    refine (sumsOf_nil _ _ _ _ _ rs (HR.out.below HB1.out)).mono ?_
    rintro e w2 ⟨rfl, hb2⟩
    have HB2 := Lib.hid (HB1.out.trans (hb2.mono HB1.out.size))
    clear hb2
    go_wp2_with fail
    go_region
    all_goals
      go_wp2_with fail
      refine bodyPost_ret (v := .tuple #[.int .i64 0, .int .i64 0, .int .i64 0, .int .i64 0]) (by simp [results, Tryd.results7, go_sem]) rfl ⟨by rw [HT.out], ?_⟩
      exact tbelowD (HB2.out.alloc HB2.out.size _)
  · have HB1 := Lib.hid (HB0.out.trans (hb1.mono HB0.out.size))
    have HOK := Lib.hid (prOk_iff.1 hyes)
    have HM := Lib.hid hmap
    clear hyes hb1 hmap
    go_wp2_with fail
    refine (sumsOf_map _ _ _ _ _ rs ps fs M (HR.out.below HB1.out) HM.out HOK.out).mono ?_
    rintro e w2 ⟨rfl, hb2⟩
    have HB2 := Lib.hid (HB1.out.trans (hb2.mono HB1.out.size))
    have HT := Lib.hid (show smT rs ps fs = .tuple #[.int .i64 (smV rs ps fs 0), .int .i64 (smV rs ps fs 1), .int .i64 (smV rs ps fs 2), .int .i64 (smV rs ps fs 3)] from rfl)
    generalize smV rs ps fs 0 = t0 at *
    generalize smV rs ps fs 1 = t1 at *
    generalize smV rs ps fs 2 = t2 at *
    generalize smV rs ps fs 3 = t3 at *
    clear hb2
    go_wp2_with fail
    go_region
    all_goals
      go_wp2_with fail
      refine bodyPost_ret (v := .tuple #[.int .i64 t0, .int .i64 t1, .int .i64 t2, .int .i64 t3]) (by simp [results, Tryd.results7, go_sem]) rfl ⟨by rw [HT.out], ?_⟩
      exact tbelowD (HB2.out.alloc HB2.out.size _)

set_option maxHeartbeats 1000000 in
theorem implIsProof (w : World) (B B2 B3 : Nat) (a b ra : Option Addr) (n cap m cap2 rn rc : Nat) (rs : List Cd) (ps fs : List Int) (hp : Ins w B a n cap ps) (hf : Ins w B2 b m cap2 fs) (hr : Cds w B3 ra rn rc rs) :
    Calls Tryd.prog 9 #[.slice ra rn rc, .agg #[.slice a n cap, .slice b m cap2]] w fun e w' => e = .returned (.bool (isPr rs ps fs)) ∧ Below w.heap.size w w' := by
  have HP := Lib.hid hp
  have HF := Lib.hid hf
  have HR := Lib.hid hr
  have HB0 := Lib.hid ((Below.refl w.heap.size w).alloc (Nat.le_refl _) (.cells #[.slice a n cap, .slice b m cap2] 27))
  clear hp hf hr
  go_enter Tryd.func9, Tryd.ntmps9
  go_wp2_with fail
  refine (implSumOfRows _ _ _ _ _ _ _ _ _ _ _ _ _ rs ps fs (HP.out.below HB0.out) (HF.out.below HB0.out) (HR.out.below HB0.out)).mono ?_
  rintro e w1 ⟨rfl, hb1⟩
  have HB1 := Lib.hid (HB0.out.trans (hb1.mono HB0.out.size))
  have HT := Lib.hid (show isPr rs ps fs = (decide (smV rs ps fs 0 = 0) && (decide (smV rs ps fs 1 = 0) && (decide (smV rs ps fs 2 = 0) && decide (smV rs ps fs 3 < 0)))) from rfl)
  unfold smT
  generalize smV rs ps fs 0 = t0 at *
  generalize smV rs ps fs 1 = t1 at *
  generalize smV rs ps fs 2 = t2 at *
  generalize smV rs ps fs 3 = t3 at *
  clear hb1
  by_cases h0 : t0 = 0
  · by_cases h1 : t1 = 0
    · by_cases h2 : t2 = 0
      · have HV := Lib.hid (show isPr rs ps fs = decide (t3 < 0) by rw [HT.out, decide_eq_true h0, decide_eq_true h1, decide_eq_true h2]; rfl)
        subst h0 h1 h2
        go_wp2_with fail
        go_ret
        exact ⟨ret_bool HV.out.symm, HB1.out⟩
      · have HV := Lib.hid (show isPr rs ps fs = false by rw [HT.out, decide_eq_false h2]; simp)
        have h2' : (t2 == 0) = false := by simpa using h2
        subst h0 h1
        go_wp2_with fail
        go_ret
        exact ⟨ret_bool HV.out.symm, HB1.out⟩
    · have HV := Lib.hid (show isPr rs ps fs = false by rw [HT.out, decide_eq_false h1]; simp)
      have h1' : (t1 == 0) = false := by simpa using h1
      subst h0
      go_wp2_with fail
      go_ret
      exact ⟨ret_bool HV.out.symm, HB1.out⟩
  · have HV := Lib.hid (show isPr rs ps fs = false by rw [HT.out, decide_eq_false h0]; rfl)
    have h0' : (t0 == 0) = false := by simpa using h0
    go_wp2_with fail
    go_ret
    exact ⟨ret_bool HV.out.symm, HB1.out⟩
end Go.Proofs.YtidmhpeaehmmhaaDoor
