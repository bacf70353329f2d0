/- Proofs of collapse in the program: ascending indices, the factors by their rows (a map), ProofOk. -/
import Derived.Test.YtidmhpeaehmmhaaDoorProofP
import Derived.Test.YtidmhpeaehmmhaaDoorPrL
import Derived.Maps.OwnSet
import Derived.Maps.OwnOps
namespace Go.Proofs.YtidmhpeaehmmhaaDoor
set_option maxRecDepth 100000
open Go.ChangeShapes Go.WideShapes Go.ChangeAt Go.RowKit Go.Maps

theorem areAscending (w : World) (B : Nat) (a : Option Addr) (n cap N : Nat) (ps : List Int) (hp : Ins w B a n cap ps) :
    Calls Tryd.prog 31 #[.slice a n cap, .int .i64 N] w fun e w' => e = .returned (.bool (ascV ps N)) ∧ Below w.heap.size w w' := by
  obtain ⟨hnc, hcm⟩ := hp.cap
  unfold maxLen at hcm
  have HV := Lib.hid (show ascV ps N = allFrom n 0 (ascAt ps N) by unfold ascV; rw [hp.2]; rfl)
  have HP := Lib.hid hp
  clear hp
  go_enter Tryd.func31, Tryd.ntmps31
  go_wp2_with fail
  go_loopw [5, 10] (fun l t wr => ∃ k : Nat, k ≤ n ∧ t = .int .i64 k ∧ l = .int .i64 (ahd ps k) ∧ allFrom n k (ascAt ps N) = allFrom n 0 (ascAt ps N) ∧ Below w.heap.size w wr)
    (fun _ t _ => n - (intOf t).toNat)
  case atStart => exact ⟨0, Nat.zero_le _, rfl, rfl, rfl, Below.refl _ _⟩
  case round =>
    obtain ⟨k, hk, rfl, rfl, hall, hbw⟩ := hrel
    have HB := Lib.hid hbw
    have HA := Lib.hid hall
    clear hall
    by_cases hlt : k < n
    · obtain ⟨g, rfl, -, a0⟩ := (HP.out.below hbw).at k hlt
      have HX := Lib.hid (ahd_succ ps k)
      have HQ := Lib.hid (show ascAt ps N k = (decide (ahd ps k < ps.getD k 0) && decide (ps.getD k 0 < N)) from rfl)
      generalize ps.getD k 0 = x at *
      generalize ahd ps k = y at *
      clear hbw
      by_cases h1 : x ≤ y
      · have HN := Lib.hid (show ascV ps N = false by rw [HV.out, ← HA.out]; exact allFrom_no hlt (by rw [HQ.out, decide_eq_false (show ¬ y < x by omega)]; rfl))
        have h1' : decide (x ≤ y) = true := decide_eq_true h1
        go_wp2_with fail
        go_ret
        exact ⟨ret_bool HN.out.symm, HB.out⟩
      · have h1' : decide (x ≤ y) = false := decide_eq_false h1
        by_cases h2 : (N : Int) ≤ x
        · have HN := Lib.hid (show ascV ps N = false by rw [HV.out, ← HA.out]; exact allFrom_no hlt (by rw [HQ.out, decide_eq_false (show ¬ x < N by omega), Bool.and_false]))
          have h2' : decide ((N : Int) ≤ x) = true := decide_eq_true h2
          go_wp2_with fail
          go_ret
          exact ⟨ret_bool HN.out.symm, HB.out⟩
        · have h2' : decide ((N : Int) ≤ x) = false := decide_eq_false h2
          have HY := Lib.hid (show allFrom n (k + 1) (ascAt ps N) = allFrom n 0 (ascAt ps N) by rw [← HA.out]; exact allFrom_yes hlt (by rw [HQ.out, decide_eq_true (show y < x by omega), decide_eq_true (show x < N by omega)]; rfl))
          go_wp2_with fail
          go_roundw
          case rel => exact ⟨k + 1, by omega, by go_num, by rw [HX.out], HY.out, HB.out⟩
          case measure => simp [intOf]; omega
    · obtain rfl : k = n := by omega
      clear hbw
      go_wp2_with fail
      go_ret
      exact ⟨ret_bool (by rw [HV.out, ← HA.out, allFrom_end]), HB.out⟩

/-- What the map that holds the first k factors reads as. -/
def mapD (ps fs : List Int) : Nat → DataW Unit
  | 0 => .map []
  | k + 1 => (mapD ps fs k).put (.int .i64 (ps.getD k 0)) (.lit (.int .i64 (fs.getD k 0)))
theorem mapD_is (ps fs : List Int) (k : Nat) : IsMap (mapD ps fs k) := by
  induction k with
  | zero => exact isMap_empty
  | succ k ih => exact ih.put _ _
theorem mapD_at (ps fs : List Int) (k : Nat) (i : Int) : (mapD ps fs k).atKey (.int .i64 i) (.lit (.int .i64 0)) = .lit (.int .i64 (lkTo ps fs k i)) := by
  induction k with
  | zero => rfl
  | succ k ih =>
    unfold mapD lkTo
    by_cases h : ps.getD k 0 = i
    · rw [if_pos h, h, atKey_put_same (mapD_is ps fs k) (show WideAt.IsKeyLit (.int .i64 i) from True.intro)]
    · rw [if_neg h, atKey_put_other (by intro he; simp at he; exact h he.symm), ih]
theorem lawMK : Keyed Tryd.prog 3 := int_keyed Tryd.underlying3
theorem zeroMK (w : World) : (zeroValue 3).run Tryd.prog w = .ok (.int .i64 0) w := by kernel_rfl
/-- A block that holds a proof's factors by their rows. -/
def FacMap (w : World) (M : Nat) (ps fs : List Int) (k : Nat) : Prop := w.ownsMap Tryd.prog 3 (plainElem (H := Unit) Tryd.prog 3) M k (mapD ps fs k)
/-- What factorsFor handed back. -/
def FacAns (rs : List Cd) (ps fs : List Int) (w : World) (e : Ending) (w' : World) : Prop :=
  ((prOk rs ps fs = false ∧ e = .returned (.tuple #[.map none, .bool false])) ∨ (prOk rs ps fs = true ∧ ∃ M, w.heap.size ≤ M ∧ e = .returned (.tuple #[.map (some M), .bool true]) ∧ FacMap w' M ps fs ps.length)) ∧ Below w.heap.size w w'
theorem prOk_a {rs : List Cd} {ps fs : List Int} (h : ¬ rs.length ≤ 40) : prOk rs ps fs = false := by unfold prOk prNum; rw [decide_eq_false h]; rfl
theorem prOk_b {rs : List Cd} {ps fs : List Int} (h : cdsOk rs = false) : prOk rs ps fs = false := by unfold prOk; rw [h]; simp
theorem prOk_c {rs : List Cd} {ps fs : List Int} (h : ascV ps rs.length = false) : prOk rs ps fs = false := by unfold prOk; rw [h]; simp
theorem prOk_d {rs : List Cd} {ps fs : List Int} (h : inR ps.length 1 4 = false) : prOk rs ps fs = false := by unfold prOk prNum; rw [h]; simp
theorem prOk_e {rs : List Cd} {ps fs : List Int} (h : ¬ fs.length = ps.length) : prOk rs ps fs = false := by unfold prOk prNum; rw [decide_eq_false h]; simp
theorem prOk_f {rs : List Cd} {ps fs : List Int} (h : allV ps.length (facAt fs) = false) : prOk rs ps fs = false := by unfold prOk; rw [h]; simp
theorem prOk_all {rs : List Cd} {ps fs : List Int} (h1 : rs.length ≤ 40) (h2 : cdsOk rs = true) (h3 : ascV ps rs.length = true) (h4 : inR ps.length 1 4 = true) (h5 : fs.length = ps.length) : prOk rs ps fs = allV ps.length (facAt fs) := by
  unfold prOk prNum; rw [decide_eq_true h1, h2, h3, h4, decide_eq_true h5]; rfl

set_option maxHeartbeats 4000000 in
theorem factorsFor (w : World) (B B2 B3 : Nat) (a b ra : Option Addr) (n cap m cap2 rn rc : Nat) (rs : List Cd) (ps fs : List Int) (hp : Ins w B a n cap ps) (hf : Ins w B2 b m cap2 fs) (hr : Cds w B3 ra rn rc rs) :
    Calls Tryd.prog 16 #[.agg #[.slice a n cap, .slice b m cap2], .slice ra rn rc] w (FacAns rs ps fs w) := by
  obtain ⟨hnc, hcm⟩ := hp.cap
  obtain ⟨hmc, hcm2⟩ := hf.cap
  obtain ⟨hrc, hcm3⟩ := hr.cap
  unfold maxLen at hcm hcm2 hcm3
  have HLP := Lib.hid hp.2
  have HLF := Lib.hid hf.2
  have HLR := Lib.hid hr.2
  have HP := Lib.hid hp
  have HF := Lib.hid hf
  have HR := Lib.hid hr
  have HB0 := Lib.hid ((Below.refl w.heap.size w).alloc (Nat.le_refl _) (.cells #[.slice a n cap, .slice b m cap2] 27))
  have HX0 := Lib.hid (pbox_alloc w a b n cap m cap2 27)
  clear hp hf hr
  by_cases h1 : 40 < rn
  · have HV := Lib.hid (prOk_a (ps := ps) (fs := fs) (show ¬ rs.length ≤ 40 by have := HLR.out; omega))
    have h1' : decide ((40 : Int) < rn) = true := decide_eq_true (by omega)
    have h1i : (40 : Int) < rn := by omega
    go_enter Tryd.func16, Tryd.ntmps16
    go_wp2_with fail
    refine bodyPost_ret (v := .tuple #[.map none, .bool false]) (by simp [results, Tryd.results16, go_sem]) rfl ⟨.inl ⟨HV.out, rfl⟩, HB0.out⟩
  have h1' : decide ((40 : Int) < rn) = false := decide_eq_false (by omega)
  have h1i : ¬ (40 : Int) < rn := by omega
  cases h2 : cdsOk rs
  · have HV := Lib.hid (prOk_b (ps := ps) (fs := fs) h2)
    have H2 := Lib.hid h2
    clear h2
    go_enter Tryd.func16, Tryd.ntmps16
    go_wp2_with fail
    refine (areValidRows _ _ _ _ _ rs (HR.out.below HB0.out)).mono ?_
    rintro e w1 ⟨rfl, hb1⟩
    rw [H2.out]
    have HB1 := Lib.hid (HB0.out.trans (hb1.mono HB0.out.size))
    clear hb1
    go_wp2_with fail
    refine bodyPost_ret (v := .tuple #[.map none, .bool false]) (by simp [results, Tryd.results16, go_sem]) rfl ⟨.inl ⟨HV.out, rfl⟩, HB1.out⟩
  have H2 := Lib.hid h2
  clear h2
  go_enter Tryd.func16, Tryd.ntmps16
  go_wp2_with fail
  refine (areValidRows _ _ _ _ _ rs (HR.out.below HB0.out)).mono ?_
  rintro e w1 ⟨rfl, hb1⟩
  rw [H2.out]
  have HB1 := Lib.hid (HB0.out.trans (hb1.mono HB0.out.size))
  have HX1 := Lib.hid (HX0.out.below hb1)
  clear hb1 HB0 HX0
  obtain ⟨k0, k1⟩ := id HX1.out
  go_wp2_with fail
  refine (areAscending _ _ _ _ _ rn ps (HP.out.below HB1.out)).mono ?_
  rintro e w2 ⟨rfl, hb2⟩
  clear k0 k1
  have HB2 := Lib.hid (HB1.out.trans (hb2.mono HB1.out.size))
  have HX2 := Lib.hid (HX1.out.below hb2)
  clear hb2 HB1 HX1
  obtain ⟨k0, k1⟩ := id HX2.out
  cases h3 : ascV ps rn
  · have HV := Lib.hid (prOk_c (rs := rs) (fs := fs) (show ascV ps rs.length = false by rw [HLR.out]; exact h3))
    clear h3
    go_wp2_with fail
    refine bodyPost_ret (v := .tuple #[.map none, .bool false]) (by simp [results, Tryd.results16, go_sem]) rfl ⟨.inl ⟨HV.out, rfl⟩, HB2.out⟩
  have H3 := Lib.hid h3
  clear h3
  go_wp2_with fail
  refine (isBetweenR (n : Int) 1 4 _ (by omega)).mono ?_
  rintro e w3 ⟨rfl, rfl⟩
  cases h4 : inR (n : Int) 1 4
  · have HV := Lib.hid (prOk_d (rs := rs) (fs := fs) (show inR ps.length 1 4 = false by rw [HLP.out]; exact h4))
    clear h4
    go_wp2_with fail
    refine bodyPost_ret (v := .tuple #[.map none, .bool false]) (by simp [results, Tryd.results16, go_sem]) rfl ⟨.inl ⟨HV.out, rfl⟩, HB2.out⟩
  have hn4 := inR_iff.1 h4
  have H4 := Lib.hid h4
  clear h4
  by_cases h5 : m = n
  · have HE := Lib.hid (prOk_all (rs := rs) (ps := ps) (fs := fs) (by have := HLR.out; omega) H2.out (by rw [HLR.out]; exact H3.out) (by rw [HLP.out]; exact H4.out) (by rw [HLF.out, HLP.out, h5]))
    subst h5
    obtain ⟨hn1, hn2⟩ := hn4
    have hmm := @run_makeMap Tryd.prog
    have h5' : ((m : Int) != m) = false := by simp
    have hlt0 : w.heap.size < w2.heap.size := cell_block_lt k0
    have hne0 := Nat.ne_of_lt hlt0
    go_wp2_with fail
    have HX3 := Lib.hid (HX2.out.below (cd_al w2 (.map #[] 0)))
    have HB3 := Lib.hid (HB2.out.alloc HB2.out.size (.map #[] 0))
    have HM0 := Lib.hid (show FacMap (w2.alloc (.map #[] 0)) w2.heap.size ps fs 0 from World.ownsMap_made _ _ _ _)
    have HSZ := Lib.hid (HB2.out.size)
    obtain ⟨M, hM⟩ : ∃ M, M = w2.heap.size := ⟨_, rfl⟩
    rw [← hM] at HM0 HSZ hlt0 hne0 ⊢
    generalize w2.alloc (.map #[] 0) = w3 at *
    clear hM HB2 HX2 k0 k1
    go_loopw [43] (fun t wr => ∃ k : Nat, k ≤ m ∧ t = .int .i64 k ∧ allFrom m k (facAt fs) = allFrom m 0 (facAt fs) ∧ FacMap wr M ps fs k ∧ PBox wr w.heap.size a m cap b m cap2 ∧ Below w.heap.size w wr)
      (fun t _ => m - (intOf t).toNat)
    case atStart => exact ⟨0, Nat.zero_le _, rfl, rfl, HM0.out, HX3.out, HB3.out⟩
    case round =>
      clear HM0 HX3 HB3
      obtain ⟨k, hk, rfl, hall, hmap, hbox, hbw⟩ := hrel
      have HB := Lib.hid hbw
      have HA := Lib.hid hall
      have HM := Lib.hid hmap
      have HX := Lib.hid hbox
      clear hall hmap
      obtain ⟨k0, k1⟩ := hbox
      by_cases hlt : k < m
      · obtain ⟨g, rfl, -, a0⟩ := (HP.out.below hbw).at k hlt
        obtain ⟨h, rfl, -, b0⟩ := (HF.out.below hbw).at k hlt
        have HQ := Lib.hid (show facAt fs k = inR (fs.getD k 0) 1 1000000 from rfl)
        obtain ⟨hx0, hx1⟩ := asc_ge H3.out k (by rw [HLP.out]; exact hlt)
        have HST := Lib.hid (show (mapD ps fs k).put (.int .i64 (ps.getD k 0)) (.lit (.int .i64 (fs.getD k 0))) = mapD ps fs (k + 1) from rfl)
        generalize ps.getD k 0 = x at *
        generalize fs.getD k 0 = y at *
        clear hbw
        cases hf : inR y 1 1000000
        · have HN := Lib.hid (show prOk rs ps fs = false by rw [HE.out, show allV ps.length (facAt fs) = allFrom m 0 (facAt fs) by rw [HLP.out]; rfl, ← HA.out]; exact allFrom_no hlt (by rw [HQ.out]; exact hf))
          have HFF := Lib.hid hf
          clear hf
          go_wp2_with fail
          refine (isBetweenR y 1 1000000 _ (by omega)).mono ?_
          rintro e w4 ⟨rfl, rfl⟩
          rw [HFF.out]
          go_wp2_with fail
          refine bodyPost_ret (v := .tuple #[.map none, .bool false]) (by simp [results, Tryd.results16, go_sem]) rfl ⟨.inl ⟨HN.out, rfl⟩, HB.out⟩
        · have hyr := inR_iff.1 hf
          have HY := Lib.hid (show allFrom m (k + 1) (facAt fs) = allFrom m 0 (facAt fs) by rw [← HA.out]; exact allFrom_yes hlt (by rw [HQ.out]; exact hf))
          have HFF := Lib.hid hf
          clear hf
          go_wp2_with fail
          refine (isBetweenR y 1 1000000 _ (by omega)).mono ?_
          rintro e w4 ⟨rfl, rfl⟩
          rw [HFF.out]
          go_wp2_with (first
            | (at_mapUpdate; refine wpList_mapUpdate_own _ rfl _ _ _ 48 rfl 3 3 lawMK Tryd.underlying48 _ M k _ rfl HM.out (by unfold maxLen; omega) _ _ _ rfl rfl (keyOf_int_mk Tryd.underlying3 (WalkArith.wf_i64 (by omega))) _ [] (plainElem_int Tryd.underlying3 (WalkArith.wf_i64 (by omega))) ?_; intro w5 hown5 hgrow5; have HO5 := Lib.hid hown5; have HG5 := Lib.hid hgrow5; clear hown5 hgrow5)
            | fail)
          have hneM : some w.heap.size ≠ some M := by simp; omega
          have HX5 := Lib.hid (HX.out.grown HG5.out hneM)
          have HB5 := Lib.hid (HB.out.grown HG5.out HB.out.size (fun j hj => by cases hj; exact HSZ.out))
          go_roundw
          case rel => exact ⟨k + 1, by omega, by go_num, HY.out, by rw [HST.out] at HO5; exact HO5.out, HX5.out, HB5.out⟩
          case measure => simp [intOf]; omega
      · obtain rfl : k = m := by omega
        have HN := Lib.hid (show prOk rs ps fs = true by rw [HE.out, show allV ps.length (facAt fs) = allFrom k 0 (facAt fs) by rw [HLP.out]; rfl, ← HA.out, allFrom_end])
        clear hbw
        go_wp2_with fail
        refine bodyPost_ret (v := .tuple #[.map (some M), .bool true]) (by simp [results, Tryd.results16, go_sem]) rfl ⟨.inr ⟨HN.out, M, HSZ.out, rfl, by rw [HLP.out]; exact HM.out⟩, HB.out⟩
  · have HV := Lib.hid (prOk_e (rs := rs) (show ¬ fs.length = ps.length by rw [HLF.out, HLP.out]; exact h5))
    have h5' : ((m : Int) != n) = true := by simp; omega
    have h5i : ¬ (m : Int) = n := by omega
    clear h5
    go_wp2_with fail
    refine bodyPost_ret (v := .tuple #[.map none, .bool false]) (by simp [results, Tryd.results16, go_sem]) rfl ⟨.inl ⟨HV.out, rfl⟩, HB2.out⟩

set_option maxHeartbeats 1000000 in
theorem implProofOk (w : World) (B B2 B3 : Nat) (a b ra : Option Addr) (n cap m cap2 rn rc : Nat) (rs : List Cd) (ps fs : List Int) (hp : Ins w B a n cap ps) (hf : Ins w B2 b m cap2 fs) (hr : Cds w B3 ra rn rc rs) :
    Calls Tryd.prog 10 #[.slice ra rn rc, .agg #[.slice a n cap, .slice b m cap2]] w fun e w' => e = .returned (.bool (prOk rs ps fs)) ∧ Below w.heap.size w w' := by
  have HP := Lib.hid hp
  have HF := Lib.hid hf
  have HR := Lib.hid hr
  have HB0 := Lib.hid ((Below.refl w.heap.size w).alloc (Nat.le_refl _) (.cells #[.slice a n cap, .slice b m cap2] 27))
  clear hp hf hr
  go_enter Tryd.func10, Tryd.ntmps10
  go_wp2_with fail
  refine (factorsFor _ _ _ _ _ _ _ _ _ _ _ _ _ rs ps fs (HP.out.below HB0.out) (HF.out.below HB0.out) (HR.out.below HB0.out)).mono ?_
  rintro e w1 ⟨⟨hno, rfl⟩ | ⟨hyes, M, -, rfl, -⟩, hb1⟩
  · have HV := Lib.hid hno
    have HB1 := Lib.hid (HB0.out.trans (hb1.mono HB0.out.size))
    clear hno hb1
    go_wp2_with fail
    go_ret
    exact ⟨ret_bool HV.out.symm, HB1.out⟩
  · have HV := Lib.hid hyes
    have HB1 := Lib.hid (HB0.out.trans (hb1.mono HB0.out.size))
    clear hyes hb1
    go_wp2_with fail
    go_ret
    exact ⟨ret_bool HV.out.symm, HB1.out⟩
end Go.Proofs.YtidmhpeaehmmhaaDoor
