/- A proof's multiple and ScaleProof, of the program. -/
import Derived.Test.YtidmhpeaehmmhaaDoorProofK
import Derived.Test.YtidmhpeaehmmhaaDoorThrustX
import Derived.Test.YtidmhpeaehmmhaaDoorStepC
import Derived.Deep.AppendLies
namespace Go.Proofs.YtidmhpeaehmmhaaDoor
set_option maxRecDepth 100000
open Go.ChangeShapes Go.WideShapes Go.ChangeAt Go.RowKit
set_option linter.unusedSimpArgs false

set_option maxHeartbeats 2000000 in
/-- A copy of some numbers. -/
theorem cloneI (w : World) (B g n cap : Nat) (l : List Int) (hp : Ins w B (some ⟨g, 0, none⟩) n cap l) (hn : 0 < n) (hm : n ≤ 1048576) :
    Calls Tryd.prog 33 #[.slice (some ⟨g, 0, none⟩) n cap] w fun e w' => ∃ h c, w.heap.size ≤ h ∧ e = .returned (.slice (some ⟨h, 0, none⟩) n c) ∧ Ins w' w.heap.size (some ⟨h, 0, none⟩) n c l ∧ Below w.heap.size w w' := by
  obtain ⟨i0, hi0, hz0, hz1, hz2⟩ := info_parts Tryd.infoI
  obtain ⟨hnc, hcm⟩ := hp.cap
  unfold maxLen at hcm
  have hlen := hp.2
  have hne : ∀ w, (binOp .eql 25 (.slice (some ⟨g, 0, none⟩) n cap) (.slice none 0 0)).run Tryd.prog w = .ok (.bool false) w := fun _ => by kernel_rfl
  have HE := in_empty w w.heap.size (Nat.le_refl _)
  have HB0 := (Below.refl w.heap.size w).alloc (Nat.le_refl _) (.cells #[] 3)
  have hcells : ∀ j u, (ints l)[j]? = some u → (w.alloc (.cells #[] 3)).cell? ((⟨g, 0, none⟩ : Addr).add j) = some u := by
    intro j u hj
    have hjl : j < l.length := by have := (List.getElem?_eq_some_iff.1 hj).1; rwa [ints_length] at this
    obtain ⟨g', hg', -, hc⟩ := (hp.below HB0).at j (by omega)
    simp only [Option.some.injEq, Addr.mk.injEq, and_true] at hg'
    subst hg'
    have hadd : (⟨g, 0, none⟩ : Addr).add j = ⟨g, j, none⟩ := by unfold Addr.add; split <;> simp_all
    rw [hadd, hc]
    rw [ints_at l j hjl] at hj
    exact hj
  have HC := Lib.hid hcells
  have HIE := Lib.hid HE
  have HBB := Lib.hid HB0
  have HL := Lib.hid hlen
  clear hp hcells HE HB0 hlen
  go_enter Tryd.func33, Tryd.ntmps33
  go_wp2_with (at_builtin; refine wpList_append_lies _ rfl _ _ _ rfl w.heap.size 3 i0 _ 1 8 Tryd.underlying25 hi0 hz0 hz1 hz2 rfl (by omega) (.slice (some ⟨w.heap.size, 0, none⟩) 0 0) 0 (ints []) (by rfl) HIE.out.1 ⟨g, 0, none⟩ n cap (ints l) (by rfl) (by rw [ints_length, HL.out, Nat.mul_one]) HC.out (by unfold ints; simp [Value.oneCell']) (by omega) (by unfold maxLen; omega) (by omega) (by simp) (w.heap.size + 1) (by simp) ?_; intro gg cp w9 hown9 hgrow9 hat9 hgl9; have HO9 := Lib.hid hown9; have HG9 := Lib.hid hgrow9; clear hown9 hgrow9 hat9 hgl9)
  have hO : w9.ownsRow w.heap.size 3 1 (.slice (some ⟨gg, 0, none⟩) n cp) n (ints l) := by
    have := HO9.out
    simpa [ints] using this
  have hB : Below w.heap.size w w9 := HBB.out.grown HG9.out (by simp) (fun y hy => (World.ownsRow.lt HIE.out.1 y hy).1)
  go_ret
  have hge := (World.ownsRow.lt hO gg rfl).1
  exact ⟨gg, cp, hge, rfl, ⟨by unfold InRow; rw [HL.out]; exact hO, HL.out⟩, hB⟩

/-- A box of two empty slices, just made. -/
def FreshP (b : Nat) (w : World) : Prop := w.cell? ⟨b, 0, none⟩ = some (.slice none 0 0) ∧ w.cell? ⟨b, 1, none⟩ = some (.slice none 0 0) ∧ w.frozen? ⟨b, 0, none⟩ = false ∧ w.frozen? ⟨b, 1, none⟩ = false ∧ b < w.heap.size
theorem fp_al {w w' : World} {t : TypeId} (h : Below (w.alloc (.cells #[.slice none 0 0, .slice none 0 0] t)).heap.size (w.alloc (.cells #[.slice none 0 0, .slice none 0 0] t)) w') : FreshP w.heap.size w' :=
  ⟨cell_kept (by go_simp) h, cell_kept (by go_simp) h, (h.frozen (p := ⟨w.heap.size, 0, none⟩) (by simp)).trans (by go_simp), (h.frozen (p := ⟨w.heap.size, 1, none⟩) (by simp)).trans (by go_simp), by have := h.size; simp at this; omega⟩
theorem fp_dal {w w' : World} {n : Nat} {t : TypeId} (h : Below ((w.drewN n).alloc (.cells #[.slice none 0 0, .slice none 0 0] t)).heap.size ((w.drewN n).alloc (.cells #[.slice none 0 0, .slice none 0 0] t)) w') : FreshP w.heap.size w' := fp_al (w := w.drewN n) h
theorem fp_keep {b : Nat} {w w' : World} (h : RowKit.Hid (FreshP b w)) (k : Below w.heap.size w w') : FreshP b w' :=
  ⟨cell_kept h.out.1 k, cell_kept h.out.2.1 k, (k.frozen (p := ⟨b, 0, none⟩) h.out.2.2.2.2).trans h.out.2.2.1, (k.frozen (p := ⟨b, 1, none⟩) h.out.2.2.2.2).trans h.out.2.2.2.1, Nat.lt_of_lt_of_le h.out.2.2.2.2 k.size⟩

theorem fp_grown {b : Nat} {w w' : World} {row : Option Nat} (h : FreshP b w) (hg : w.grownBy w' row) (hne : some b ≠ row) : FreshP b w' :=
  ⟨hg.cell h.1 hne, hg.cell h.2.1 hne, (World.grownBy.frozen_far hg ⟨b, 0, none⟩ h.2.2.2.2 hne).trans h.2.2.1, (World.grownBy.frozen_far hg ⟨b, 1, none⟩ h.2.2.2.2 hne).trans h.2.2.2.1, Nat.lt_of_lt_of_le h.2.2.2.2 hg.size⟩
theorem Ins.setOther {w : World} {B m c b g : Nat} {l : List Int} (h : Ins w B (some ⟨g, 0, none⟩) m c l) (hb : b ≠ g) (o : Nat) (v : Value) : Ins (w.setCell ⟨b, o, none⟩ v) B (some ⟨g, 0, none⟩) m c l :=
  ⟨World.ownsRow.kept h.1 (grownP_setCell w b o v) (.inr (by simp [Value.ownBlock]; omega)), h.2⟩
/-- The first k numbers times t. -/
def tmTo (t : Int) (fs : List Int) (k : Nat) : List Int := tms t (fs.take k) ++ fs.drop k
theorem tmTo_zero (t : Int) (fs : List Int) : tmTo t fs 0 = fs := by simp [tmTo, tms]
theorem tmTo_end (t : Int) (fs : List Int) : tmTo t fs fs.length = tms t fs := by simp [tmTo]
theorem tmTo_length (t : Int) (fs : List Int) (k : Nat) : (tmTo t fs k).length = fs.length := by simp [tmTo, tms]; omega
theorem tmTo_here (t : Int) (fs : List Int) (k : Nat) : (tmTo t fs k).getD k 0 = fs.getD k 0 := by
  unfold tmTo tms
  rw [List.getD_eq_getElem?_getD, List.getD_eq_getElem?_getD]
  by_cases h : k < fs.length
  · rw [List.getElem?_append_right (by simp; omega), List.getElem?_drop]
    congr 2
    simp
    omega
  · rw [List.getElem?_eq_none (by simp; omega), List.getElem?_eq_none (by omega)]
theorem tmTo_set (t : Int) (fs : List Int) (k : Nat) (h : k < fs.length) : (tmTo t fs k).set k (fs.getD k 0 * t) = tmTo t fs (k + 1) := by
  unfold tmTo tms
  rw [List.set_append_right _ _ (by simp; omega), show k - ((fs.take k).map (· * t)).length = 0 by simp; omega, List.drop_eq_getElem_cons h, List.set_cons_zero, List.take_succ_eq_append_getElem h, List.map_append, List.append_assoc, List.getD_eq_getElem?_getD, List.getElem?_eq_getElem h]
  rfl

set_option maxHeartbeats 8000000 in
set_option maxRecDepth 100000 in
/-- A proof's factors times n, in new memory. -/
theorem implMultiple (w : World) (B B2 ga gb n m cap cap2 : Nat) (t : Int) (ps fs : List Int) (hp : Ins w B (some ⟨ga, 0, none⟩) n cap ps) (hf : Ins w B2 (some ⟨gb, 0, none⟩) m cap2 fs) (hn : 0 < n ∧ n ≤ 1048576) (hm : 0 < m ∧ m ≤ 1048576)
    (ht : 0 ≤ t ∧ t ≤ 1000) (hfs : ∀ i, i < m → 0 ≤ fs.getD i 0 ∧ fs.getD i 0 ≤ 1000000) :
    Calls Tryd.prog 19 #[.agg #[.slice (some ⟨ga, 0, none⟩) n cap, .slice (some ⟨gb, 0, none⟩) m cap2], .int .i64 t] w fun e w' => ∃ g c h d, w.heap.size ≤ g ∧ g < h ∧ e = .returned (.agg #[.slice (some ⟨g, 0, none⟩) n c, .slice (some ⟨h, 0, none⟩) m d]) ∧ Ins w' w.heap.size (some ⟨g, 0, none⟩) n c ps ∧ Ins w' w.heap.size (some ⟨h, 0, none⟩) m d (tms t fs) ∧ Below w.heap.size w w' := by
  have HP := Lib.hid hp
  have HF := Lib.hid hf
  have HFS := Lib.hid hfs
  clear hfs
  obtain ⟨hn0, hn1⟩ := hn
  obtain ⟨hm0, hm1⟩ := hm
  have HB0 := Lib.hid (((Below.refl w.heap.size w).alloc (Nat.le_refl _) (.cells #[.slice (some ⟨ga, 0, none⟩) n cap, .slice (some ⟨gb, 0, none⟩) m cap2] 27)).alloc (by simp <;> omega) (.cells #[.slice none 0 0, .slice none 0 0] 27))
  have HX0 : RowKit.Hid (PBox ((w.alloc (.cells #[.slice (some ⟨ga, 0, none⟩) n cap, .slice (some ⟨gb, 0, none⟩) m cap2] 27)).alloc (.cells #[.slice none 0 0, .slice none 0 0] 27)) w.heap.size (some ⟨ga, 0, none⟩) n cap (some ⟨gb, 0, none⟩) m cap2) := Lib.hid (by refine ⟨?_, ?_⟩ <;> go_simp)
  have HR0 : RowKit.Hid (FreshP (w.heap.size + 1) ((w.alloc (.cells #[.slice (some ⟨ga, 0, none⟩) n cap, .slice (some ⟨gb, 0, none⟩) m cap2] 27)).alloc (.cells #[.slice none 0 0, .slice none 0 0] 27))) := Lib.hid (by refine ⟨?_, ?_, ?_, ?_, ?_⟩ <;> first | (go_simp; done) | simp)
  clear hp hf
  go_enter Tryd.func19, Tryd.ntmps19
  go_upto_region 1 with fail
  generalize hW : (w.alloc (.cells #[.slice (some ⟨ga, 0, none⟩) n cap, .slice (some ⟨gb, 0, none⟩) m cap2] 27)).alloc (.cells #[.slice none 0 0, .slice none 0 0] 27) = W at *
  have HPW := Lib.hid (HP.out.below HB0.out)
  have HFW := Lib.hid (HF.out.below HB0.out)
  obtain ⟨bx, hbx⟩ : ∃ bx, w.heap.size = bx := ⟨_, rfl⟩
  have hwW : bx + 2 ≤ W.heap.size := by rw [← hbx, ← hW]; simp
  have HBX := Lib.hid hbx
  rw [hbx] at HX0 HR0 ⊢
  clear hW hbx HP HF
  obtain ⟨k0, k1⟩ := id HX0.out
  have F0 := Lib.hid (fun (U : World) (hU : Below W.heap.size W U) => HX0.out.below hU)
  have ZZ := Lib.hid (Below.refl W.heap.size W)
  have c1 := Nat.ne_of_lt (cell_block_lt k0)
  dsimp only at c1
  have c2 := Ne.symm c1
  go_cut [5] from 7 to 13 (fun p wx => ∃ b h1 d1 h2 d2 : Nat, p = .pointer (some ⟨b, 0, none⟩) ∧ W.heap.size ≤ b ∧ PBox wx b (some ⟨h1, 0, none⟩) n d1 (some ⟨h2, 0, none⟩) m d2 ∧ b ≠ h1 ∧ b ≠ h2 ∧ h1 < h2 ∧ Ins wx W.heap.size (some ⟨h1, 0, none⟩) n d1 ps ∧ Ins wx W.heap.size (some ⟨h2, 0, none⟩) m d2 fs ∧ Below W.heap.size W wx)
  case first =>
    go_region_held3 (fun w' => w'.cell? ⟨bx, 0, none⟩ = some (.slice (some ⟨ga, 0, none⟩) n cap) ∧ w'.cell? ⟨bx, 1, none⟩ = some (.slice (some ⟨gb, 0, none⟩) m cap2))
      (first | (exact F0.out _ ZZ.out) | (exact F0.out _ (tbelowD ZZ.out)) | (exact F0.out _ (below_drewN ZZ.out _)) | (exact F0.out _ (cal ZZ.out _)) | (exact F0.out _ (cal (tbelowD ZZ.out) _)) | (exact F0.out _ (cal (below_drewN ZZ.out _) _)) | (exact F0.out _ (tbelowD (cal ZZ.out _))) | (refine ⟨?_, ?_⟩ <;> exact tcell_sf (by assumption) (by assumption)) | go_keep | trivial)
      (first
        | (go_at_call_of 33 (Value.slice (some ⟨ga, 0, none⟩) n cap); refine (cloneI _ _ ga n cap ps (by first | exact HPW.out.below ZZ.out | exact HPW.out.below (cal ZZ.out _) | exact HPW.out.below (below_drewN ZZ.out _) | exact HPW.out.below (cal (below_drewN ZZ.out _) _)) hn0 hn1).mono ?_; rintro e y1 ⟨h1, d1, hh1, rfl, rr1, hy1⟩; (first | (have z := fp_al hy1) | (have z := fp_dal hy1) | (have z := fp_keep HZ (by first | exact hy1 | exact ts_drew hy1 | exact ts_al hy1 | exact ts_dal hy1)) | skip); have ZZ : RowKit.Hid (Below W.heap.size W y1) := Lib.hid (by first | exact cstep ZZ hy1 | exact cstepD ZZ hy1 | exact cstepA ZZ hy1 | exact cstepDA ZZ hy1); have RR1 := Lib.hid (rr1.base (B' := W.heap.size) (by first | exact Nat.le_refl _ | simp)); have HL1 : RowKit.Hid (h1 < y1.heap.size) := Lib.hid (World.ownsRow.lt RR1.out.1 h1 rfl).2; have HH1 := Lib.hid hh1; clear hy1 rr1 hh1; have sz := ZZ.out.size; obtain ⟨k0, k1⟩ := F0.out _ ZZ.out; have c1 := Nat.ne_of_lt (cell_block_lt k0); dsimp only at c1; have c2 := Ne.symm c1; (try (have HZ := Lib.hid z; obtain ⟨zc, zd, ze, zf, zl⟩ := z)))
        | (go_at_call_of 33 (Value.slice (some ⟨gb, 0, none⟩) m cap2); refine (cloneI _ _ gb m cap2 fs (by first | exact HFW.out.below ZZ.out | exact HFW.out.below (cal ZZ.out _) | exact HFW.out.below (below_drewN ZZ.out _) | exact HFW.out.below (cal (below_drewN ZZ.out _) _)) hm0 hm1).mono ?_; rintro e y2 ⟨h2, d2, hh2, rfl, rr2, hy2⟩; (first | (have z := fp_al hy2) | (have z := fp_dal hy2) | (have z := fp_keep HZ (by first | exact hy2 | exact ts_drew hy2 | exact ts_al hy2 | exact ts_dal hy2)) | skip); have ZQ := ZZ; have RR1 := Lib.hid (RR1.out.below (by first | exact hy2 | exact ts_drew hy2 | exact ts_al hy2 | exact ts_dal hy2)); have ZZ : RowKit.Hid (Below W.heap.size W y2) := Lib.hid (by first | exact cstep ZZ hy2 | exact cstepD ZZ hy2 | exact cstepA ZZ hy2 | exact cstepDA ZZ hy2); have RR2 := Lib.hid (rr2.base (B' := W.heap.size) (by have q := ZQ.out.size; first | exact q | (simp; omega))); have HH2 := Lib.hid hh2; clear hy2 rr2 hh2; have sz := ZZ.out.size; obtain ⟨k0, k1⟩ := F0.out _ ZZ.out; have c1 := Nat.ne_of_lt (cell_block_lt k0); dsimp only at c1; have c2 := Ne.symm c1; (try (have HZ := Lib.hid z; obtain ⟨zc, zd, ze, zf, zl⟩ := z))))
    all_goals
      go_wp2_with fail
      go_meet
      have q1 := HH1.out
      have q2 := HH2.out
      have q3 := HL1.out
      have q4 := (World.ownsRow.lt RR2.out.1 h2 rfl).2
      have q5 := (World.ownsRow.lt RR1.out.1 h1 rfl).2
      have q6 := ZZ.out.size
      have q7 := ZQ.out.size
      simp at q1 q2
    · refine ⟨_, h1, d1, h2, d2, rfl, q6, pbox_alloc _ _ _ _ _ _ _ _, by omega, by omega, by omega, RR1.out.alloc _, RR2.out.alloc _, cal ZZ.out _⟩
    · refine ⟨_, h1, d1, h2, d2, rfl, q7, by refine ⟨?_, ?_⟩ <;> go_simp, by omega, by omega, by omega, (RR1.out.setOther (by omega) _ _).setOther (by omega) _ _, (RR2.out.setOther (by omega) _ _).setOther (by omega) _ _, (ZZ.out.setCell (p := ⟨_, 0, none⟩) q7 _).setCell (p := ⟨_, 1, none⟩) q7 _⟩
    · refine ⟨_, h1, d1, h2, d2, rfl, Nat.le_refl _, by refine ⟨?_, ?_⟩ <;> go_simp, by omega, by omega, by omega, (RR1.out.setOther (by omega) _ _).setOther (by omega) _ _, (RR2.out.setOther (by omega) _ _).setOther (by omega) _ _, (ZZ.out.setCell (p := ⟨_, 0, none⟩) (Nat.le_refl _) _).setCell (p := ⟨_, 1, none⟩) (Nat.le_refl _) _⟩
  case rest =>
    obtain ⟨b, h1, d1, h2, d2, rfl, hbW, hbox, hne1, hne2, hlt, hi1, hi2, hbw⟩ := hcut
    have HBXS := Lib.hid hbox
    have HI1 := Lib.hid hi1
    have HI2 : RowKit.Hid (Ins _ W.heap.size (some ⟨h2, 0, none⟩) m d2 (tmTo t fs 0)) := Lib.hid (by rw [tmTo_zero]; exact hi2)
    have HFR := Lib.hid (fp_keep HR0 hbw)
    have HBW := Lib.hid (HB0.out.trans (hbw.mono HB0.out.size))
    have HLF := Lib.hid hi2.2
    clear hi1 hi2 hbw F0 ZZ k0 k1 c1 c2 HX0 HR0 HPW HFW HB0
    obtain ⟨k0, k1⟩ := hbox
    go_wp2_with fail
    go_loopw [17] (fun q wr => ∃ k : Nat, k ≤ m ∧ q = .int .i64 k ∧ PBox wr b (some ⟨h1, 0, none⟩) n d1 (some ⟨h2, 0, none⟩) m d2 ∧ FreshP (bx + 1) wr ∧ Ins wr W.heap.size (some ⟨h1, 0, none⟩) n d1 ps ∧ Ins wr W.heap.size (some ⟨h2, 0, none⟩) m d2 (tmTo t fs k) ∧ Below w.heap.size w wr)
      (fun q _ => m - (intOf q).toNat)
    case atStart => exact ⟨0, Nat.zero_le _, rfl, HBXS.out, HFR.out, HI1.out, HI2.out, HBW.out⟩
    case round =>
      clear HBXS HFR HI1 HI2 HBW k0 k1
      obtain ⟨k, hk, rfl, hbox, hfr, hi1, hi2, hbw⟩ := hrel
      have HBXS := Lib.hid hbox
      have HFR := Lib.hid hfr
      have HI1 := Lib.hid hi1
      have HI2 := Lib.hid hi2
      have HBW := Lib.hid hbw
      obtain ⟨k0, k1⟩ := hbox
      by_cases hltk : k < m
      · have hlf := HLF.out
        have hfk := HFS.out k hltk
        obtain ⟨g', hg', -, a0⟩ := hi2.at k hltk
        simp only [Option.some.injEq, Addr.mk.injEq, and_true] at hg'
        subst hg'
        rw [tmTo_here] at a0
        have hO : wr.ownsRow W.heap.size 3 1 (.slice (some ⟨h2, 0, none⟩) m d2) m (ints (tmTo t fs k)) := by
          have := hi2.1
          unfold InRow at this
          rw [hi2.2] at this
          exact this
        have f0 := World.ownsRow.frozenAt hO k
        have hs1 := World.ownsRow.stored hO k (.int .i64 (fs.getD k 0 * t))
        have hrow : Ins (wr.setCell ⟨h2, k, none⟩ (.int .i64 (fs.getD k 0 * t))) W.heap.size (some ⟨h2, 0, none⟩) m d2 (tmTo t fs (k + 1)) := by
          refine ⟨?_, by rw [tmTo_length]; exact hlf⟩
          have := hs1.1
          rw [ints_set, tmTo_set t fs k (by omega)] at this
          unfold InRow
          rw [tmTo_length, hlf]
          exact this
        have HI2' := Lib.hid hrow
        have HI1' := Lib.hid (hi1.setOther (show h2 ≠ h1 by omega) k (.int .i64 (fs.getD k 0 * t)))
        have HBW' := Lib.hid (hbw.grown hs1.2 hbw.size (fun j hj => by cases hj; have := (World.ownsRow.lt hi2.1 h2 rfl).1; have := HBX.out; omega))
        have hbox' : PBox (wr.setCell ⟨h2, k, none⟩ (.int .i64 (fs.getD k 0 * t))) b (some ⟨h1, 0, none⟩) n d1 (some ⟨h2, 0, none⟩) m d2 := PBox.grown HBXS.out hs1.2 (by simp [Value.ownBlock]; omega)
        have hfr' : FreshP (bx + 1) (wr.setCell ⟨h2, k, none⟩ (.int .i64 (fs.getD k 0 * t))) := fp_grown hfr hs1.2 (by have := (World.ownsRow.lt hi2.1 h2 rfl).1; simp [Value.ownBlock]; omega)
        have HBXS' := Lib.hid hbox'
        have HFR' := Lib.hid hfr'
        have hmul := mulP_bd (x := fs.getD k 0) (y := t) 1000000 1000 (by omega) (by omega)
        have hw1 : IntKind.i64.wrap (fs.getD k 0 * t) = fs.getD k 0 * t := IntWalk.i64_in _ (by omega)
        generalize fs.getD k 0 = x at *
        clear hO hs1 hrow hbox' hfr' hi1 hi2 hbw hfr hmul hlf HBXS HFR HI1 HI2 HBW
        go_wp2_with fail
        go_roundw
        case rel => exact ⟨k + 1, by omega, by go_num, HBXS'.out, HFR'.out, HI1'.out, HI2'.out, HBW'.out⟩
        case measure => simp [intOf]; omega
      · obtain rfl : k = m := by omega
        obtain ⟨z0, z1, z2, z3, z4⟩ := hfr
        have HE := Lib.hid (show tmTo t fs k = tms t fs by rw [← HLF.out]; exact tmTo_end t fs)
        have hge1 := (World.ownsRow.lt hi1.1 h1 rfl).1
        have hge2 := (World.ownsRow.lt hi2.1 h2 rfl).1
        clear hi1 hi2 hbw
        go_wp2_with fail
        have hbxx := HBX.out
        refine bodyPost_ret (v := .agg #[.slice (some ⟨h1, 0, none⟩) n d1, .slice (some ⟨h2, 0, none⟩) k d2]) (by simp [results, Tryd.results19, go_sem, z0, z1]) rfl ⟨h1, d1, h2, d2, by omega, hlt, rfl, ?_, ?_, ?_⟩
        · exact ((HI1.out.setOther (by omega) _ _).setOther (by omega) _ _).base (by omega)
        · have := HI2.out
          rw [HE.out] at this
          exact ((this.setOther (by omega) _ _).setOther (by omega) _ _).base (by omega)
        · exact (HBW.out.setCell (p := ⟨bx + 1, 0, none⟩) (by simp; omega) _).setCell (p := ⟨bx + 1, 1, none⟩) (by simp; omega) _
end Go.Proofs.YtidmhpeaehmmhaaDoor
