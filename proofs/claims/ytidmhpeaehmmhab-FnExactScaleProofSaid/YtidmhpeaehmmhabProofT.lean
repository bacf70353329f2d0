/- ScaleProof of the model. -/
import Derived.Test.YtidmhpeaehmmhabProofM
import Derived.Test.YtidmhpeaehmmhabProofS
import Derived.Maps.AppendAt
import Derived.Deep.RegionLaw
namespace Go.Proofs.Ytidmhpeaehmmhab
set_option maxRecDepth 100000
open Go.ChangeShapes Go.WideShapes Go.ChangeAt Go.RowKit
set_option linter.unusedSimpArgs false

theorem tms_take (t : Int) (fs : List Int) (k : Nat) (h : k < fs.length) : tms t (fs.take (k + 1)) = tms t (fs.take k) ++ [fs.getD k 0 * t] := by
  unfold tms
  rw [List.take_succ_eq_append_getElem h, List.map_append, List.getD_eq_getElem?_getD, List.getElem?_eq_getElem h]
  rfl

theorem grown_undrew {a b : World} {r : Option Nat} (h : a.drew.grownBy b r) : a.grownBy b r := ⟨h.os, h.tape, h.output, h.size, h.block⟩
theorem heapP_new (w : World) (o : Obj) : (w.alloc o).heap[w.heap.size]? = some o := Array.getElem?_push_size
theorem scale_form {w : World} {B n : Nat} {v : Value} {ps : List Int} (h : w.ownsRow B 3 1 v (0 + n) (ints [] ++ ints ps)) (hn : ps.length = n) : ∃ va vc, v = .slice va n vc ∧ n ≤ vc ∧ vc ≤ maxLen ∧ InRow w B (.slice va n vc) ps := by
  subst hn
  have h2 : InRow w B v ps := by unfold InRow; simpa [ints] using h
  obtain ⟨a, c, rfl, h3, h4⟩ := inrow_slice h2
  exact ⟨a, c, rfl, h3, h4, h2⟩
theorem InRow.setCell {w : World} {B b : Nat} {v : Value} {l : List Int} (h : InRow w B v l) (hb : ∀ k, v.ownBlock = some k → b ≠ k) (o : Nat) (u : Value) : InRow (w.setCell ⟨b, o, none⟩ u) B v l := by
  refine World.ownsRow.kept h (grownP_setCell w b o u) ?_
  cases hv : v.ownBlock with
  | none => exact .inl rfl
  | some k => exact .inr (by have := hb k hv; simp; omega)

set_option maxHeartbeats 8000000 in
theorem specScaleProof (w : World) (B B2 B3 : Nat) (a b ra : Option Addr) (n cap m cap2 rn rc : Nat) (rs : List Cd) (ps fs : List Int) (t : Int) (hp : Ins w B a n cap ps) (hf : Ins w B2 b m cap2 fs) (hr : Cds w B3 ra rn rc rs) (hn : n ≤ 1048576)
    (hsome : ∃ ga, a = some ⟨ga, 0, none⟩) :
    Calls Try.prog 16 #[.slice ra rn rc, .agg #[.slice a n cap, .slice b m cap2], .int .i64 t] w (PScAns rs ps fs t w) := by
  obtain ⟨i0, hi0, hz0, hz1, hz2⟩ := info_parts Try.infoI
  obtain ⟨ga, rfl⟩ := hsome
  have HP := Lib.hid hp
  have HF := Lib.hid hf
  have HR := Lib.hid hr
  have HN := Lib.hid hp.2
  obtain ⟨hnc, hcm⟩ := hp.cap
  unfold maxLen at hcm
  have HB0 := Lib.hid ((((Below.refl w.heap.size w).alloc (Nat.le_refl _) (.cells #[.slice (some ⟨ga, 0, none⟩) n cap, .slice b m cap2] 32)).alloc (by simp <;> omega) (.cells #[.slice none 0 0, .slice none 0 0] 32)).alloc (by simp <;> omega) (.cells #[] 3))
  have HX0 : RowKit.Hid (PBox (((w.alloc (.cells #[.slice (some ⟨ga, 0, none⟩) n cap, .slice b m cap2] 32)).alloc (.cells #[.slice none 0 0, .slice none 0 0] 32)).alloc (.cells #[] 3)) w.heap.size (some ⟨ga, 0, none⟩) n cap b m cap2) := Lib.hid (by refine ⟨?_, ?_⟩ <;> go_simp)
  have HR0 : RowKit.Hid (FreshP (w.heap.size + 1) (((w.alloc (.cells #[.slice (some ⟨ga, 0, none⟩) n cap, .slice b m cap2] 32)).alloc (.cells #[.slice none 0 0, .slice none 0 0] 32)).alloc (.cells #[] 3))) := Lib.hid (by refine ⟨?_, ?_, ?_, ?_, ?_⟩ <;> first | (go_simp; done) | simp)
  have hE0 := in_empty ((w.alloc (.cells #[.slice (some ⟨ga, 0, none⟩) n cap, .slice b m cap2] 32)).alloc (.cells #[.slice none 0 0, .slice none 0 0] 32)) (w.heap.size + 2) (by simp)
  rw [show ((w.alloc (.cells #[.slice (some ⟨ga, 0, none⟩) n cap, .slice b m cap2] 32)).alloc (.cells #[.slice none 0 0, .slice none 0 0] 32)).heap.size = w.heap.size + 1 + 1 by simp] at hE0
  have HE0 := Lib.hid hE0
  clear hE0
  have HC0 := Lib.hid (show ∀ j u, (ints ps)[j]? = some u → (((w.alloc (.cells #[.slice (some ⟨ga, 0, none⟩) n cap, .slice b m cap2] 32)).alloc (.cells #[.slice none 0 0, .slice none 0 0] 32)).alloc (.cells #[] 3)).cell? ((⟨ga, 0, none⟩ : Addr).add j) = some u from fun j u hj => by
    have hjl : j < ps.length := by have := (List.getElem?_eq_some_iff.1 hj).1; rwa [ints_length] at this
    obtain ⟨g', hg', -, hc⟩ := (hp.below HB0.out).at j (by rw [← hp.2]; exact hjl)
    simp only [Option.some.injEq, Addr.mk.injEq, and_true] at hg'
    subst hg'
    have hadd : (⟨ga, 0, none⟩ : Addr).add j = ⟨ga, j, none⟩ := by unfold Addr.add; split <;> simp_all
    rw [hadd, hc]
    rw [ints_at ps j hjl] at hj
    exact hj)
  clear hp hf hr
  go_enter Try.func16, Try.ntmps16
  go_wp2_with (at_builtin; refine wpList_append_own_at _ rfl _ _ _ rfl (w.heap.size + 2) 3 i0 _ 1 8 Try.underlying23 hi0 hz0 hz1 hz2 rfl (by omega) (.slice (some ⟨w.heap.size + 1 + 1, 0, none⟩) 0 0) 0 (ints []) (by rfl) HE0.out.1 ⟨ga, 0, none⟩ n cap (ints ps) (by rfl) (by rw [ints_length, HN.out, Nat.mul_one]) HC0.out (by unfold ints; simp [Value.oneCell']) (by unfold maxLen; omega) (by omega) (by simp) ?_; intro v9 w9 hown9 hgrow9 hnil9 hloc9; obtain ⟨va, vc, hv9, hvc9, hvm9, hO9⟩ := scale_form hown9 HN.out; subst hv9; have HO9 := Lib.hid hO9; have HG9 := Lib.hid hgrow9; clear hO9 hown9 hgrow9 hnil9 hloc9)
  have HB9 := Lib.hid (HB0.out.grown HG9.out HB0.out.size (fun j hj => by simp [Value.ownBlock] at hj; omega))
  have HX9 := Lib.hid (HX0.out.grown HG9.out (by simp [Value.ownBlock]; omega))
  have HR9 := Lib.hid (fp_grown HR0.out HG9.out (by simp [Value.ownBlock] <;> omega))
  clear HB0 HX0 HR0 HE0 HC0 HG9
  have hal := cd_al w9 (.cells #[.slice va n vc, .slice none 0 0] 32)
  have HB := Lib.hid (HB9.out.trans (hal.mono HB9.out.size))
  have HX := Lib.hid (HX9.out.below hal)
  have HRR := Lib.hid (fp_keep HR9 hal)
  have HO := Lib.hid (HO9.out.below hal)
  have HI := Lib.hid (pbox_alloc w9 va none n vc 0 0 32)
  have HIF := Lib.hid (show (w9.alloc (.cells #[.slice va n vc, .slice none 0 0] 32)).frozen? ⟨w9.heap.size, 1, none⟩ = false by go_simp)
  have hbo := fun k hk => (World.ownsRow.lt HO9.out k hk).2
  obtain ⟨bi, hbi⟩ : ∃ bi, w9.heap.size = bi := ⟨_, rfl⟩
  rw [hbi] at HI HIF hbo ⊢
  have HBO := Lib.hid hbo
  have hbw : w.heap.size + 2 < bi + 1 := by have : w.heap.size + 1 < w9.heap.size := HR9.out.2.2.2.2; omega
  have hal2 := hal.size
  generalize w9.alloc (.cells #[.slice va n vc, .slice none 0 0] 32) = W at *
  clear hal hbi HB9 HX9 HR9 HO9 hbo
  unfold maxLen at hvm9
  obtain ⟨k0, k1⟩ := id HX.out
  obtain ⟨z0, z1, z2, z3, z4⟩ := id HRR.out
  cases h1 : inR t 1 1000
  · have HV := Lib.hid (scOk_t (rs := rs) (ps := ps) (fs := fs) h1)
    have H1 := Lib.hid h1
    clear h1
    go_wp2_with fail
    refine (l01InR t 1 1000 _).mono ?_
    rintro e w1 ⟨rfl, rfl⟩
    rw [H1.out]
    go_wp2_with fail
    refine bodyPost_ret (v := .tuple #[.agg #[.slice none 0 0, .slice none 0 0], .bool false]) (by simp [results, Try.results16, go_sem, z0, z1]) rfl (psc_no HV.out ?_)
    exact (HB.out.setCell (p := ⟨w.heap.size + 1, 0, none⟩) (by simp) _).setCell (p := ⟨w.heap.size + 1, 1, none⟩) (by simp) _
  have htr := inR_iff.1 h1
  have H1 := Lib.hid h1
  clear h1
  go_wp2_with fail
  refine (l01InR t 1 1000 _).mono ?_
  rintro e w1 ⟨rfl, rfl⟩
  rw [H1.out]
  go_wp2_with fail
  refine (specProofOk _ _ _ _ _ _ _ _ _ _ _ _ _ rs ps fs (HP.out.below HB.out) (HF.out.below HB.out) (HR.out.below HB.out)).mono ?_
  rintro e w2 ⟨rfl, hb2⟩
  have HB2 := Lib.hid (HB.out.trans (hb2.mono HB.out.size))
  have HX2 := Lib.hid (HX.out.below hb2)
  have HR2 := Lib.hid (fp_keep HRR hb2)
  have HO2 := Lib.hid (HO.out.below hb2)
  have HI2 := Lib.hid (HI.out.below hb2)
  have HIF2 := Lib.hid ((hb2.frozen (p := ⟨bi, 1, none⟩) (cell_block_lt HI.out.2)).trans HIF.out)
  clear hb2 HX HRR HO HI HIF HB k0 k1 z0 z1 z2 z3 z4
  obtain ⟨z0, z1, z2, z3, z4⟩ := id HR2.out
  obtain ⟨k0, k1⟩ := id HX2.out
  cases h2 : prOk rs ps fs
  · have HV := Lib.hid (scOk_p (t := t) h2)
    clear h2
    go_wp2_with fail
    refine bodyPost_ret (v := .tuple #[.agg #[.slice none 0 0, .slice none 0 0], .bool false]) (by simp [results, Try.results16, go_sem, z0, z1]) rfl (psc_no HV.out ?_)
    exact (HB2.out.setCell (p := ⟨w.heap.size + 1, 0, none⟩) (by simp) _).setCell (p := ⟨w.heap.size + 1, 1, none⟩) (by simp) _
  have hok := prOk_iff.1 h2
  have H2 := Lib.hid h2
  obtain ⟨hl1, hl2⟩ := hok.p
  have hlp := HP.out.2
  have hlf := HF.out.2
  have hlfp := hok.f
  have HLF := Lib.hid hlf
  have HFAC := Lib.hid (show ∀ i, i < m → 0 ≤ fs.getD i 0 ∧ fs.getD i 0 ≤ 1000000 from fun i hi => by have := hok.fac i (by omega); omega)
  have hm4 : m ≤ 4 := by omega
  have hm1 : 0 < m := by omega
  have hn1 : 0 < n := by omega
  clear h2 hok hl1 hl2 hlp hlf hlfp z0 z1 z2 z3 z4
  go_wp2_with fail
  go_loopw [9] (fun q wr => ∃ (k : Nat) (fa : Option Addr) (fc : Nat), k ≤ m ∧ q = .int .i64 k ∧ Ins wr (w.heap.size + 2) fa k fc (tms t (fs.take k)) ∧ (∀ j, (Value.slice fa k fc).ownBlock = some j → bi < j) ∧ PBox wr bi va n vc fa k fc ∧ wr.frozen? ⟨bi, 1, none⟩ = false ∧ InRow wr (w.heap.size + 2) (.slice va n vc) ps ∧ PBox wr w.heap.size (some ⟨ga, 0, none⟩) n cap b m cap2 ∧ FreshP (w.heap.size + 1) wr ∧ Below w.heap.size w wr)
    (fun q _ => m - (intOf q).toNat)
  case atStart => exact ⟨0, none, 0, Nat.zero_le _, rfl, ⟨InRow.nil _ _, rfl⟩, fun j hj => by simp [Value.ownBlock] at hj, HI2.out, HIF2.out, HO2.out, HX2.out, HR2.out, HB2.out⟩
  case round =>
    clear HB2 HX2 HR2 HO2 HI2 HIF2 k0 k1
    obtain ⟨k, fa, fc, hk, rfl, hrow, hnb, hbi2, hbf, hor, hbox, hfr, hbw2⟩ := hrel
    have HRW := Lib.hid hrow
    have HNB := Lib.hid hnb
    have HI := Lib.hid hbi2
    have HIF := Lib.hid hbf
    have HO := Lib.hid hor
    have HX := Lib.hid hbox
    have HFR := Lib.hid hfr
    have HBW := Lib.hid hbw2
    by_cases hlt : k < m
    · obtain ⟨gb, rfl, -, b0⟩ := (HF.out.below hbw2).at k hlt
      have hfk := HFAC.out k hlt
      have HST := Lib.hid (tms_take t fs k (by have := HLF.out; omega))
      have hlr := hrow.2
      have hO : wr.ownsRow (w.heap.size + 2) 3 1 (.slice fa k fc) k (ints (tms t (fs.take k))) := by
        have := hrow.1
        unfold InRow at this
        rw [hrow.2] at this
        exact this
      have hmul := mulP_bd (x := fs.getD k 0) (y := t) 1000000 1000 (by omega) (by omega)
      have hw1 : IntKind.i64.wrap (fs.getD k 0 * t) = fs.getD k 0 * t := IntWalk.i64_in _ (by omega)
      generalize fs.getD k 0 = y at *
      have HOO := Lib.hid hO
      have hfcm := hrow.cap
      unfold maxLen at hfcm
      obtain ⟨hfc1, hfc2⟩ := hfcm
      have hwb : bi < wr.heap.size := cell_block_lt hbi2.1
      obtain ⟨k0, k1⟩ := hbox
      obtain ⟨i1, i2⟩ := hbi2
      have hkm : (k : Int) < (m : Int) := by omega
      clear hrow hnb hor hfr hbw2 hO hmul hlr
      have hne6 : some bi ≠ (Value.slice fa k fc).ownBlock := fun he => by have := HNB.out bi he.symm; omega
      have HIFA := Lib.hid (show (wr.alloc (.cells #[.int .i64 (y * t)] 3)).frozen? ⟨bi, 1, none⟩ = false from ((pr_al wr _).frozen (p := ⟨bi, 1, none⟩) hwb).trans HIF.out)
      go_wp2_with fail
      go_region_law
        (first
          | (refine step_append_lies _ (by rfl) _ _ _ (by rfl) (w.heap.size + 2) 3 i0 _ 1 8 Try.underlying23 hi0 hz0 hz1 hz2 rfl (by omega) (.slice fa k fc) k (ints (tms t (fs.take k))) (by rfl) (by first | exact World.ownsRow.alloc HOO.out _ | exact (World.ownsRow.alloc HOO.out _).drew | exact World.ownsRow.alloc (w := wr.drew) HOO.out _)
              ⟨wr.heap.size, 0, none⟩ 1 1 [.int .i64 (y * t)] (by rfl) (by rfl) (World.news_of_block (cs := #[.int .i64 (y * t)]) (t := 3) (fr := (0, 0)) (heapP_new wr _)) (by simp [Value.oneCell'])
              (by omega) (by unfold maxLen; omega) (by omega) (by simp; omega) (wr.heap.size + 1) (by simp) ?_; intro gg cp w6 hown6 hgrow6 hat hgl; (try (have hgrow6 := grown_undrew hgrow6)); have z1 : w6.cell? ⟨bi, 0, none⟩ = some (.slice va n vc) := hgrow6.cell (cell_kept i1 (pr_al wr (.cells #[.int .i64 (y * t)] 3))) hne6; have z2 : w6.cell? ⟨bi, 1, none⟩ = some (.slice fa k fc) := hgrow6.cell (cell_kept i2 (pr_al wr (.cells #[.int .i64 (y * t)] 3))) hne6; have z3 : w6.frozen? ⟨bi, 1, none⟩ = false := (World.grownBy.frozen_far hgrow6 ⟨bi, 1, none⟩ (by simp; omega) hne6).trans HIFA.out))
      all_goals
        have hgb : bi < gg := by
          rcases hat with h | h
          · exact HNB.out gg h
          · omega
        have hfo : ∀ j, (Value.slice va n vc).ownBlock = some j → some j ≠ (Value.slice fa k fc).ownBlock := fun j hj he => by
          have h1 := HBO.out j hj
          have h2 := HNB.out j he.symm
          omega
        have hor6 : InRow w6 (w.heap.size + 2) (.slice va n vc) ps := World.ownsRow.kept (HO.out.below (pr_al wr (.cells #[.int .i64 (y * t)] 3))) hgrow6 (by
          cases hv : (Value.slice va n vc).ownBlock with
          | none => exact .inl rfl
          | some j => exact .inr (hfo j hv))
        have hlow : ∀ j, j < bi → some j ≠ (Value.slice fa k fc).ownBlock := fun j hj he => by have := HNB.out j he.symm; omega
        have hx6 : PBox w6 w.heap.size (some ⟨ga, 0, none⟩) n cap (some ⟨gb, 0, none⟩) m cap2 := PBox.grown (HX.out.below (pr_al wr (.cells #[.int .i64 (y * t)] 3))) hgrow6 (hlow _ (by omega))
        have hr6 : FreshP (w.heap.size + 1) w6 := fp_grown (fp_keep HFR (pr_al wr (.cells #[.int .i64 (y * t)] 3))) hgrow6 (hlow _ (by omega))
        have hb6 : Below w.heap.size w w6 := (HBW.out.alloc HBW.out.size _).grown hgrow6 (by have := HBW.out.size; simp; omega) (fun j hj => by have := HNB.out j hj; omega)
        have hins6 : Ins w6 (w.heap.size + 2) (some ⟨gg, 0, none⟩) (k + 1) cp (tms t (fs.take (k + 1))) := by
          have hl : (tms t (fs.take k)).length = k := by rw [tms_length, List.length_take]; have := HLF.out; omega
          refine ⟨?_, by rw [HST.out, List.length_append, hl]; rfl⟩
          rw [HST.out]
          unfold InRow
          rw [List.length_append, hl, ints_append]
          exact hown6
        have Q1 := Lib.hid (hins6.setOther (show bi ≠ gg by omega) 1 (.slice (some ⟨gg, 0, none⟩) (k + 1) cp))
        have Q2 : RowKit.Hid (PBox (w6.setCell ⟨bi, 1, none⟩ (.slice (some ⟨gg, 0, none⟩) (k + 1) cp)) bi va n vc (some ⟨gg, 0, none⟩) (k + 1) cp) := Lib.hid (by refine ⟨?_, ?_⟩ <;> go_simp)
        have Q3 : RowKit.Hid ((w6.setCell ⟨bi, 1, none⟩ (.slice (some ⟨gg, 0, none⟩) (k + 1) cp)).frozen? ⟨bi, 1, none⟩ = false) := Lib.hid (by rw [World.frozen?_setCell]; exact z3)
        have Q4 := Lib.hid (hor6.setCell (b := bi) (fun j hj => by have := HBO.out j hj; omega) 1 (.slice (some ⟨gg, 0, none⟩) (k + 1) cp))
        have Q5 := Lib.hid (hx6.grown (grownP_setCell w6 bi 1 (.slice (some ⟨gg, 0, none⟩) (k + 1) cp)) (by simp; omega))
        have Q6 := Lib.hid (fp_grown hr6 (grownP_setCell w6 bi 1 (.slice (some ⟨gg, 0, none⟩) (k + 1) cp)) (by simp; omega))
        have Q7 := Lib.hid (hb6.setCell (p := ⟨bi, 1, none⟩) (by simp; omega) (.slice (some ⟨gg, 0, none⟩) (k + 1) cp))
        clear hown6 hgrow6 hat hgl z1 z2 z3 hor6 hx6 hr6 hb6 hins6 hfo hlow
        go_wp2_with fail
        go_roundw
        case rel => exact ⟨k + 1, some ⟨gg, 0, none⟩, cp, by omega, by go_num, Q1.out, (fun j hj => by simp [Value.ownBlock] at hj; omega), Q2.out, Q3.out, Q4.out, Q5.out, Q6.out, Q7.out⟩
        case measure => simp [intOf]; omega
    · have hke : k = m := by omega
      subst hke
      have HTE := Lib.hid (show tms t (fs.take k) = tms t fs by rw [← HLF.out, List.take_length])
      rw [HTE.out] at HRW
      obtain ⟨k0, k1⟩ := hbox
      obtain ⟨i1, i2⟩ := hbi2
      obtain ⟨ha0, hb0⟩ : (∃ h1, va = some ⟨h1, 0, none⟩) ∧ ∃ h2, fa = some ⟨h2, 0, none⟩ := by
        refine ⟨?_, ?_⟩
        · obtain ⟨g, hg, -⟩ := (show Ins wr _ va n vc ps from ⟨hor, HN.out⟩).at 0 hn1
          exact ⟨g, hg⟩
        · obtain ⟨g, hg, -⟩ := HRW.out.at 0 hm1
          exact ⟨g, hg⟩
      obtain ⟨h1, rfl⟩ := ha0
      obtain ⟨h2, rfl⟩ := hb0
      have hh1 := HBO.out h1 rfl
      have hh2 := HNB.out h2 rfl
      have HOI : RowKit.Hid (Ins wr (w.heap.size + 2) (some ⟨h1, 0, none⟩) n vc ps) := Lib.hid ⟨hor, HN.out⟩
      have hg1 := (World.ownsRow.lt hor h1 rfl).1
      have hg2 := (World.ownsRow.lt HRW.out.1 h2 rfl).1
      clear hrow hnb hbf hor hbw2
      go_wp2_with fail
      refine (specProofOk _ _ _ _ _ _ _ _ _ _ _ _ _ rs ps (tms t fs) HOI.out HRW.out (HR.out.below HBW.out)).mono ?_
      rintro e w5 ⟨rfl, hb5⟩
      have RG5 := Lib.hid (HOI.out.below hb5)
      have RH5 := Lib.hid (HRW.out.below hb5)
      have HB5 := Lib.hid (HBW.out.trans (hb5.mono HBW.out.size))
      have HR5 := Lib.hid (fp_keep HFR hb5)
      have HI5 := Lib.hid (HI.out.below hb5)
      clear hb5 i1 i2 k0 k1 hfr
      obtain ⟨z0, z1, z2, z3, z4⟩ := id HR5.out
      obtain ⟨i1, i2⟩ := id HI5.out
      cases h5 : prOk rs ps (tms t fs)
      · have HV := Lib.hid (scOk_q h5)
        clear h5
        go_wp2_with fail
        refine bodyPost_ret (v := .tuple #[.agg #[.slice none 0 0, .slice none 0 0], .bool false]) (by simp [results, Try.results16, go_sem, z0, z1]) rfl (psc_no HV.out ?_)
        exact (HB5.out.setCell (p := ⟨w.heap.size + 1, 0, none⟩) (by simp) _).setCell (p := ⟨w.heap.size + 1, 1, none⟩) (by simp) _
      · have HV := Lib.hid (scOk_yes H1.out H2.out h5)
        clear h5
        go_wp2_with fail
        refine bodyPost_ret (v := .tuple #[.agg #[.slice (some ⟨h1, 0, none⟩) n vc, .slice (some ⟨h2, 0, none⟩) k fc], .bool true]) (by simp [results, Try.results16, go_sem, z0, z1, i1, i2]) rfl ⟨.slice (some ⟨h1, 0, none⟩) n vc, .slice (some ⟨h2, 0, none⟩) k fc, by rw [HV.out], ?_, ?_, ?_, ?_⟩
        · rw [show scRows rs ps fs t = ps by unfold scRows; rw [HV.out]; rfl]
          exact (((RG5.out.setOther (by omega) _ _).setOther (by omega) _ _).base (by omega)).1
        · rw [show scFacs rs ps fs t = tms t fs by unfold scFacs; rw [HV.out]; rfl]
          exact (((RH5.out.setOther (by omega) _ _).setOther (by omega) _ _).base (by omega)).1
        · intro j hj
          simp [Value.ownBlock] at hj ⊢
          omega
        · exact (HB5.out.setCell (p := ⟨w.heap.size + 1, 0, none⟩) (by simp) _).setCell (p := ⟨w.heap.size + 1, 1, none⟩) (by simp) _
end Go.Proofs.Ytidmhpeaehmmhab
