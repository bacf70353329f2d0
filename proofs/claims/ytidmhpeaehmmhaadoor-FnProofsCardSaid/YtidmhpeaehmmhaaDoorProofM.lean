/- ScaleProof of the program. -/
import Derived.Test.YtidmhpeaehmmhaaDoorProofL
namespace Go.Proofs.YtidmhpeaehmmhaaDoor
set_option maxRecDepth 100000
open Go.ChangeShapes Go.WideShapes Go.ChangeAt Go.RowKit
set_option linter.unusedSimpArgs false

/-- What ScaleProof handed back: a multiple, or nothing. -/
def PScAns (rs : List Cd) (ps fs : List Int) (t : Int) (w : World) (e : Ending) (w' : World) : Prop :=
  ∃ va vb, e = .returned (.tuple #[.agg #[va, vb], .bool (scOk rs ps fs t)]) ∧ InRow w' w.heap.size va (scRows rs ps fs t) ∧ InRow w' w.heap.size vb (scFacs rs ps fs t) ∧ (∀ k, va.ownBlock = some k → some k ≠ vb.ownBlock) ∧ Below w.heap.size w w'
theorem psc_no {rs : List Cd} {ps fs : List Int} {t : Int} {w w' : World} (h : scOk rs ps fs t = false) (hb : Below w.heap.size w w') :
    PScAns rs ps fs t w (.returned (.tuple #[.agg #[.slice none 0 0, .slice none 0 0], .bool false])) w' :=
  ⟨_, _, by rw [h], by unfold scRows; rw [h]; exact InRow.nil _ _, by unfold scFacs; rw [h]; exact InRow.nil _ _, fun k hk => by simp [Value.ownBlock] at hk, hb⟩
theorem scOk_t {rs : List Cd} {ps fs : List Int} {t : Int} (h : inR t 1 1000 = false) : scOk rs ps fs t = false := by unfold scOk; rw [h]; rfl
theorem scOk_p {rs : List Cd} {ps fs : List Int} {t : Int} (h : prOk rs ps fs = false) : scOk rs ps fs t = false := by unfold scOk; rw [h]; simp
theorem scOk_q {rs : List Cd} {ps fs : List Int} {t : Int} (h : prOk rs ps (tms t fs) = false) : scOk rs ps fs t = false := by unfold scOk; rw [h]; simp
theorem scOk_yes {rs : List Cd} {ps fs : List Int} {t : Int} (h1 : inR t 1 1000 = true) (h2 : prOk rs ps fs = true) (h3 : prOk rs ps (tms t fs) = true) : scOk rs ps fs t = true := by unfold scOk; rw [h1, h2, h3]; rfl

set_option maxHeartbeats 4000000 in
theorem implScaleProof (w : World) (B B2 B3 : Nat) (a b ra : Option Addr) (n cap m cap2 rn rc : Nat) (rs : List Cd) (ps fs : List Int) (t : Int) (hp : Ins w B a n cap ps) (hf : Ins w B2 b m cap2 fs) (hr : Cds w B3 ra rn rc rs) :
    Calls Tryd.prog 8 #[.slice ra rn rc, .agg #[.slice a n cap, .slice b m cap2], .int .i64 t] w (PScAns rs ps fs t w) := by
  have HP := Lib.hid hp
  have HF := Lib.hid hf
  have HR := Lib.hid hr
  have HB0 := Lib.hid (((Below.refl w.heap.size w).alloc (Nat.le_refl _) (.cells #[.slice a n cap, .slice b m cap2] 27)).alloc (by simp <;> omega) (.cells #[.slice none 0 0, .slice none 0 0] 27))
  have HX0 : RowKit.Hid (PBox ((w.alloc (.cells #[.slice a n cap, .slice b m cap2] 27)).alloc (.cells #[.slice none 0 0, .slice none 0 0] 27)) w.heap.size a n cap b m cap2) := Lib.hid (by refine ⟨?_, ?_⟩ <;> go_simp)
  have HR0 : RowKit.Hid (FreshP (w.heap.size + 1) ((w.alloc (.cells #[.slice a n cap, .slice b m cap2] 27)).alloc (.cells #[.slice none 0 0, .slice none 0 0] 27))) := Lib.hid (by refine ⟨?_, ?_, ?_, ?_, ?_⟩ <;> first | (go_simp; done) | simp)
  clear hp hf hr
  cases h1 : inR t 1 1000
  · have HV := Lib.hid (scOk_t (rs := rs) (ps := ps) (fs := fs) h1)
    have H1 := Lib.hid h1
    clear h1
    go_enter Tryd.func8, Tryd.ntmps8
    go_wp2_with fail
    refine (isBetweenR t 1 1000 _ (by omega)).mono ?_
    rintro e w1 ⟨rfl, rfl⟩
    rw [H1.out]
    go_wp2_with fail
    refine bodyPost_ret (v := .tuple #[.agg #[.slice none 0 0, .slice none 0 0], .bool false]) (by simp [results, Tryd.results8, go_sem]) rfl (psc_no HV.out ?_)
    exact HB0.out
  have htr := inR_iff.1 h1
  have H1 := Lib.hid h1
  clear h1
  go_enter Tryd.func8, Tryd.ntmps8
  go_wp2_with fail
  refine (isBetweenR t 1 1000 _ (by omega)).mono ?_
  rintro e w1 ⟨rfl, rfl⟩
  rw [H1.out]
  go_wp2_with fail
  refine (implProofOk _ _ _ _ _ _ _ _ _ _ _ _ _ rs ps fs (HP.out.below HB0.out) (HF.out.below HB0.out) (HR.out.below HB0.out)).mono ?_
  rintro e w2 ⟨rfl, hb2⟩
  have HB2 := Lib.hid (HB0.out.trans (hb2.mono HB0.out.size))
  have HX2 := Lib.hid (HX0.out.below hb2)
  have HR2 := Lib.hid (fp_keep HR0 hb2)
  clear hb2 HX0 HR0 HB0
  obtain ⟨z0, z1, z2, z3, z4⟩ := id HR2.out
  obtain ⟨k0, k1⟩ := id HX2.out
  cases h2 : prOk rs ps fs
  · have HV := Lib.hid (scOk_p (t := t) h2)
    clear h2
    go_wp2_with fail
    refine bodyPost_ret (v := .tuple #[.agg #[.slice none 0 0, .slice none 0 0], .bool false]) (by simp [results, Tryd.results8, go_sem, z0, z1]) rfl (psc_no HV.out ?_)
    exact (HB2.out.setCell (p := ⟨w.heap.size + 1, 0, none⟩) (by simp) _).setCell (p := ⟨w.heap.size + 1, 1, none⟩) (by simp) _
  have hok := prOk_iff.1 h2
  have H2 := Lib.hid h2
  obtain ⟨hl1, hl2⟩ := hok.p
  have hlp := HP.out.2
  have hlf := HF.out.2
  have hlfp := hok.f
  obtain ⟨ga, rfl, -⟩ := HP.out.at 0 (by omega)
  obtain ⟨gb, rfl, -⟩ := HF.out.at 0 (by omega)
  have HFAC := Lib.hid (show ∀ i, i < m → 0 ≤ fs.getD i 0 ∧ fs.getD i 0 ≤ 1000000 from fun i hi => by have := hok.fac i (by omega); omega)
  have hn1 : 0 < n ∧ n ≤ 1048576 := by omega
  have hm1 : 0 < m ∧ m ≤ 1048576 := by omega
  clear h2 hok hl1 hl2 hlp hlf hlfp
  go_wp2_with fail
  refine (implMultiple _ _ _ ga gb n m cap cap2 t ps fs (HP.out.below HB2.out) (HF.out.below HB2.out) hn1 hm1 (by omega) HFAC.out).mono ?_
  rintro e w3 ⟨g, c, h, d, hg, hgh, rfl, rg, rh, hb3⟩
  have HB3 := Lib.hid (HB2.out.trans (hb3.mono HB2.out.size))
  have HR3 := Lib.hid (fp_keep HR2 hb3)
  have hs3 := hb3.size
  have hgw : w.heap.size + 2 ≤ g := by have : w.heap.size + 2 ≤ w2.heap.size := z4; omega
  have RG := Lib.hid (rg.base (B' := w.heap.size + 2) z4)
  have RH := Lib.hid (rh.base (B' := w.heap.size + 2) z4)
  clear hb3 rg rh HX2 HR2 z0 z1 z2 z3 k0 k1 HFAC hn1 hm1 hg
  have hal := cd_al w3 (.cells #[.slice (some ⟨g, 0, none⟩) n c, .slice (some ⟨h, 0, none⟩) m d] 27)
  have RG4 := Lib.hid (RG.out.below hal)
  have RH4 := Lib.hid (RH.out.below hal)
  have HB4 := Lib.hid (HB3.out.trans (hal.mono HB3.out.size))
  have HR4 := Lib.hid (fp_keep HR3 hal)
  have HX4 := Lib.hid (pbox_alloc w3 (some ⟨g, 0, none⟩) (some ⟨h, 0, none⟩) n c m d 27)
  go_wp2_with fail
  refine (implProofOk _ _ _ _ _ _ _ _ _ _ _ _ _ rs ps (tms t fs) RG4.out RH4.out (HR.out.below HB4.out)).mono ?_
  rintro e w5 ⟨rfl, hb5⟩
  have RG5 := Lib.hid (RG4.out.below hb5)
  have RH5 := Lib.hid (RH4.out.below hb5)
  have HB5 := Lib.hid (HB4.out.trans (hb5.mono HB4.out.size))
  have HR5 := Lib.hid (fp_keep HR4 hb5)
  have HX5 := Lib.hid (HX4.out.below hb5)
  clear hb5 hal RG RH RG4 RH4 HB4 HB3 HR4 HR3 HX4 hs3 HB2 z4
  obtain ⟨z0, z1, z2, z3, z4⟩ := id HR5.out
  obtain ⟨k0, k1⟩ := id HX5.out
  cases h5 : prOk rs ps (tms t fs)
  · have HV := Lib.hid (scOk_q h5)
    clear h5
    go_wp2_with fail
    refine bodyPost_ret (v := .tuple #[.agg #[.slice none 0 0, .slice none 0 0], .bool false]) (by simp [results, Tryd.results8, go_sem, z0, z1]) rfl (psc_no HV.out ?_)
    exact (HB5.out.setCell (p := ⟨w.heap.size + 1, 0, none⟩) (by simp) _).setCell (p := ⟨w.heap.size + 1, 1, none⟩) (by simp) _
  · have HV := Lib.hid (scOk_yes H1.out H2.out h5)
    clear h5
    go_wp2_with fail
    refine bodyPost_ret (v := .tuple #[.agg #[.slice (some ⟨g, 0, none⟩) n c, .slice (some ⟨h, 0, none⟩) m d], .bool true]) (by simp [results, Tryd.results8, go_sem, z0, z1, k0, k1]) rfl ⟨.slice (some ⟨g, 0, none⟩) n c, .slice (some ⟨h, 0, none⟩) m d, by rw [HV.out], ?_, ?_, ?_, ?_⟩
    · rw [show scRows rs ps fs t = ps by unfold scRows; rw [HV.out]; rfl]
      exact (((RG5.out.setCell (by omega) _ _).setCell (by omega) _ _).base (by omega)).1
    · rw [show scFacs rs ps fs t = tms t fs by unfold scFacs; rw [HV.out]; rfl]
      exact (((RH5.out.setCell (by omega) _ _).setCell (by omega) _ _).base (by omega)).1
    · intro k hk
      simp [Value.ownBlock] at hk ⊢
      omega
    · exact (HB5.out.setCell (p := ⟨w.heap.size + 1, 0, none⟩) (by simp) _).setCell (p := ⟨w.heap.size + 1, 1, none⟩) (by simp) _
end Go.Proofs.YtidmhpeaehmmhaaDoor
