/- For every code, FnProofs answers true: where there is a proof, every drawn thrust breaks a row, and the tripled proof is one as well. No condition. -/
import Derived.Test.YtidmhpeaehmmhaaDoorPairQ
import Derived.Test.YtidmhpeaehmmhaaDoorThrustD
import Derived.Test.YtidmhpeaehmmhaaDoorProofM
import Derived.Test.YtidmhpeaehmmhaaDoorProofV
import Derived.Test.YtidmhpeaehmmhaaDoorCondA
import Derived.Test.YtidmhpeaehmmhaaDoorAtC
import Derived.Test.YtidmhpeaehmmhaaDoorLaidC
import Derived.Test.YtidmhpeaehmmhaaDoorRows
import Derived.Test.YtidmhpeaehmmhaaDoorCards
import Derived.Test.YtidmhpeaehmmhaaDoorTie
import Derived.LaidMore
import Derived.Stop.Joined
import Derived.SevenTiedAt
import Derived.WalkKit
import Derived.ProofKit
import Derived.OpenShut
import Derived.ShutString
import Derived.ChangeOld
import Derived.Below
namespace Go.Proofs.YtidmhpeaehmmhaaDoor.fnProofs
set_option maxRecDepth 100000
open Go.ChangeShapes Go.WideShapes Go.ChangeAt Go.RowKit
open Go.ChangeMaps (open_string shut_string)
set_option linter.unusedVariables false

theorem own : ownKnob Tryd.prog.godebug = none := by kernel_rfl
theorem laidOut : laidOutB Tryd.prog = true := by kernel_rfl

/-- WHAT THE WALK IS TOLD OF A SLICE OF INTEGERS THAT CAME IN: it is nil; or it leads to a row of 'cap' cells, the numbers 'zs' (the first 'len' are its elements, the rest its spare room), each fitting its kind. -/
def IsRow (k : IntKind) (w : World) (a : Option Addr) (len cap : Nat) (zs : List Int) : Prop :=
  (a = none ∧ len = 0 ∧ cap = 0 ∧ zs = []) ∨
  ∃ x, a = some x ∧ len ≤ cap ∧ cap ≤ maxLen ∧ zs.length = cap ∧ (∀ i, i < zs.length → w.cell? (x.add i) = some (.int k (zs.getD i 0))) ∧ ∀ n ∈ zs, (Lit.int k n).wf = true

theorem wrapEq (x : Int) : IntKind.i64.wrap x = wrap64 x := IntWalk.i64_left x
theorem smV_bd (rs : List Cd) (ps fs : List Int) (c : Nat) : -4000000000000000 ≤ smV rs ps fs c ∧ smV rs ps fs c ≤ 4000000000000000 := by
  cases h : prOk rs ps fs with
  | false => rw [smV_no h]; omega
  | true =>
    rw [smV_yes h]
    have hp := prOk_iff.1 h
    have := smTo_bd hp c ps.length (Nat.le_refl _)
    have hl : ps.length ≤ 4 := hp.p.2
    omega
/-- The tripled proof's sums. -/
theorem sm_three {rs : List Cd} {ps fs : List Int} (h : scOk rs ps fs 3 = true) (c : Nat) : smV rs ps (tms 3 fs) c = 3 * smV rs ps fs c := by
  unfold scOk at h
  rw [Bool.and_eq_true, Bool.and_eq_true] at h
  rw [smV_yes h.2.2, smV_yes h.2.1, smTo_tms]
theorem is_three {rs : List Cd} {ps fs : List Int} (h : scOk rs ps fs 3 = true) : isPr rs ps (tms 3 fs) = isPr rs ps fs := by
  have k : ∀ c, smV rs ps (tms 3 fs) c = 3 * smV rs ps fs c := sm_three h
  unfold isPr
  rw [k, k, k, k]
  congr 1
  · exact decide_eq_decide.2 (by omega)
  · congr 1
    · exact decide_eq_decide.2 (by omega)
    · congr 1
      · exact decide_eq_decide.2 (by omega)
      · exact decide_eq_decide.2 (by omega)
theorem ins_of {w : World} {B : Nat} {v : Value} {l : List Int} (h : InRow w B v l) : ∃ a n c, v = .slice a n c ∧ Ins w B a n c l := by
  rcases inrow_slice h with ⟨a, c, rfl, -, -⟩
  exact ⟨a, l.length, c, rfl, h, rfl⟩
theorem cds_lit2 (w : World) (B : Nat) (hB : B ≤ w.heap.size) (a b c d e f g h : Int) : Cds (w.alloc (.cells #[.int .i64 a, .int .i64 b, .int .i64 c, .int .i64 d, .int .i64 e, .int .i64 f, .int .i64 g, .int .i64 h] 41)) B (some ⟨w.heap.size, 0, none⟩) 2 2 [(a, b, c, d), (e, f, g, h)] :=
  ⟨World.ownsRow_lit (base := B) (e := 41) (size := 4) w #[.int .i64 a, .int .i64 b, .int .i64 c, .int .i64 d, .int .i64 e, .int .i64 f, .int .i64 g, .int .i64 h] 2 hB (by unfold maxLen; omega) rfl, rfl⟩
theorem text_is : ((prText [0, 1] [2, 1]).toList == [50, 120, 48, 32, 49, 120, 49]) = true := by kernel_rfl
theorem i64_two (a b : Int) (ha : I64 a) (hb : I64 b) : ∀ i, i < 2 → I64 ([a, b].getD i 0) := by
  intro i hi
  match i, hi with
  | 0, _ => exact ha
  | 1, _ => exact hb
theorem one_is : isPr [(1, 0, 0, -1), (-1, 0, 0, 0)] [0, 1] [1, 1] = true := by decide +kernel

/-! ### THE WALK: the Go text returns true, and writes nothing that was there. -/
set_option maxRecDepth 100000 in
set_option maxHeartbeats 8000000 in
theorem walk (a0 : Option Addr) (len0 cap0 : Nat) (z0 : List Int) (w : World) (g0 : IsRow .u8 w a0 len0 cap0 z0) (hT : Tens w) :
    Calls Tryd.prog 3 #[.slice a0 len0 cap0] w fun e w' => e = .returned (.bool true) ∧ Below w.heap.size w w' := by
  have hr : IsCode w a0 len0 cap0 z0 := g0
  clear g0
  have HT0 := Lib.hid hT
  clear hT
  have hm := (code_cells hr).1
  unfold maxLen at hm
  by_cases hbig : 1048576 < len0
  · clear hr
    go_enter Tryd.func3, Tryd.ntmps3
    go_wp2_with (go_at_call 4; refine (big_yes _ _ _ _ (by omega) (by omega)).mono ?_; rintro e w' ⟨rfl, rfl⟩)
    go_ret
    exact ⟨rfl, Below.refl _ _⟩
  go_enter Tryd.func3, Tryd.ntmps3
  go_wp2_with fail
  refine (big_no _ _ _ _ (by omega) (by omega)).mono ?_
  rintro e w' ⟨rfl, rfl⟩
  go_wp2_with fail
  refine (drawProofs _ _ _ _ _ hr).mono ?_
  rintro e w1 ⟨gr, gp, gf, m, fc, rs, ps, fs, rfl, hrs, hps, hfs, hb1⟩
  have HC := Lib.hid (hr.below hb1)
  have hba := alloc_b w1 (.cells #[.slice (some ⟨gp, 0, none⟩) 2 2, .slice (some ⟨gf, 0, none⟩) m fc] 27)
  have HX := Lib.hid (pbox_alloc w1 (some ⟨gp, 0, none⟩) (some ⟨gf, 0, none⟩) 2 2 m fc 27)
  have HR := Lib.hid (hrs.below hba)
  have HP := Lib.hid (hps.below hba)
  have HF := Lib.hid (hfs.below hba)
  have HB := Lib.hid (hb1.trans (hba.mono hb1.size))
  replace HC := Lib.hid (HC.out.below hba)
  clear hrs hps hfs hb1 hr
  go_wp2_with fail
  refine World.any (p := fun W => Calls _ _ _ W _) (fun w2 hW => ?_)
  rw [← hW] at HX HR HP HF HB HC
  clear hW hba
  generalize w1.heap.size = bp at *
  refine (drawThrusts _ _ _ _ _ HC.out).mono ?_
  rintro e w3 ⟨h, v, mm, d, -, -, -, -, hs, -, rfl, hb⟩
  have HS := Lib.hid hs
  replace HB := Lib.hid (HB.out.trans (hb.mono HB.out.size))
  replace HX := Lib.hid (HX.out.below hb)
  replace HR := Lib.hid (HR.out.below hb)
  replace HP := Lib.hid (HP.out.below hb)
  replace HF := Lib.hid (HF.out.below hb)
  clear hb
  clear HC hs
  have hl4 : bp < w3.heap.size := cell_block_lt HX.out.1
  have hl5 : bp < w3.heap.size + 1 := by omega
  obtain ⟨p0, p1⟩ := id HX.out
  go_wp2_with fail
  refine World.any (p := fun W => Calls _ _ _ W _) (fun W hW => ?_)
  have hb : Below w3.heap.size w3 W := by
    subst hW
    exact ((Below.refl _ _).alloc (Nat.le_refl _) _).alloc (by simp <;> omega) _
  have hTB : TBox W w3.heap.size h v mm d := by
    subst hW
    refine ⟨?_, ?_, ?_, ?_⟩ <;> go_simp
  clear hW
  have HT := Lib.hid hTB
  replace HB := Lib.hid (HB.out.trans (hb.mono HB.out.size))
  replace HX := Lib.hid (HX.out.below hb)
  replace HR := Lib.hid (HR.out.below hb)
  replace HP := Lib.hid (HP.out.below hb)
  replace HF := Lib.hid (HF.out.below hb)
  clear hb
  clear hl4 hl5 p0 p1 hTB
  generalize w3.heap.size = tb at *
  refine (implSumOfRows _ _ _ _ _ _ _ _ _ _ _ _ _ rs ps fs HP.out HF.out HR.out).mono ?_
  rintro e w5 ⟨rfl, hb⟩
  replace HB := Lib.hid (HB.out.trans (hb.mono HB.out.size))
  replace HX := Lib.hid (HX.out.below hb)
  replace HT := Lib.hid (HT.out.below hb)
  replace HR := Lib.hid (HR.out.below hb)
  replace HP := Lib.hid (HP.out.below hb)
  replace HF := Lib.hid (HF.out.below hb)
  clear hb
  obtain ⟨p0, p1⟩ := id HX.out
  obtain ⟨t0, t1, t2, t3⟩ := id HT.out
  obtain ⟨A, hA⟩ : ∃ A, A = smV rs ps fs 0 := ⟨_, rfl⟩
  obtain ⟨B, hB⟩ : ∃ B, B = smV rs ps fs 1 := ⟨_, rfl⟩
  obtain ⟨C, hC⟩ : ∃ C, C = smV rs ps fs 2 := ⟨_, rfl⟩
  obtain ⟨D, hD⟩ : ∃ D, D = smV rs ps fs 3 := ⟨_, rfl⟩
  have hst : smT rs ps fs = .tuple #[.int .i64 A, .int .i64 B, .int .i64 C, .int .i64 D] := by rw [hA, hB, hC, hD]; rfl
  rw [hst]
  have HA := Lib.hid hA
  have HBB := Lib.hid hB
  have HCC := Lib.hid hC
  have HD := Lib.hid hD
  clear hst hA hB hC hD
  go_wp2_with fail
  refine (implScaleProof _ _ _ _ _ _ _ _ _ _ _ _ _ rs ps fs 3 HP.out HF.out HR.out).mono ?_
  rintro e w6 ⟨va, vb, rfl, hva, hvb, hdis, hb⟩
  obtain ⟨qa, qn, qc, rfl, hqa⟩ := ins_of hva
  obtain ⟨qb, qm, qk, rfl, hqb⟩ := ins_of hvb
  replace HB := Lib.hid (HB.out.trans (hb.mono HB.out.size))
  replace HX := Lib.hid (HX.out.below hb)
  replace HT := Lib.hid (HT.out.below hb)
  replace HR := Lib.hid (HR.out.below hb)
  replace HP := Lib.hid (HP.out.below hb)
  replace HF := Lib.hid (HF.out.below hb)
  clear hb
  have hbp6 : bp < w6.heap.size := cell_block_lt HX.out.1
  have htb6 : tb < w6.heap.size := cell_block_lt HT.out.1
  have HQ := Lib.hid hqa
  have HK := Lib.hid hqb
  clear hva hvb hdis hqa hqb p0 p1 t0 t1 t2 t3
  obtain ⟨p0, p1⟩ := id HX.out
  obtain ⟨t0, t1, t2, t3⟩ := id HT.out
  obtain ⟨ok, hok⟩ : ∃ ok, ok = scOk rs ps fs 3 := ⟨_, rfl⟩
  rw [← hok]
  have HOK := Lib.hid hok
  clear hok
  go_wp2_with fail
  have hb := alloc_b w6 (.cells #[.slice qa qn qc, .slice qb qm qk] 27)
  have HY := Lib.hid (pbox_alloc w6 qa qb qn qc qm qk 27)
  refine World.any (p := fun W => Calls _ _ _ W _) (fun w7 hW => ?_)
  rw [← hW] at HY hb
  replace HB := Lib.hid (HB.out.trans (hb.mono HB.out.size))
  replace HX := Lib.hid (HX.out.below hb)
  replace HT := Lib.hid (HT.out.below hb)
  replace HR := Lib.hid (HR.out.below hb)
  replace HP := Lib.hid (HP.out.below hb)
  replace HF := Lib.hid (HF.out.below hb)
  replace HQ := Lib.hid (HQ.out.below hb)
  replace HK := Lib.hid (HK.out.below hb)
  clear hb
  clear hW hbp6 htb6 p0 p1 t0 t1 t2 t3
  generalize w6.heap.size = qp at *
  refine (implIsProof _ _ _ _ _ _ _ _ _ _ _ _ _ rs ps fs HP.out HF.out HR.out).mono ?_
  rintro e w8 ⟨rfl, hb⟩
  replace HB := Lib.hid (HB.out.trans (hb.mono HB.out.size))
  replace HX := Lib.hid (HX.out.below hb)
  replace HT := Lib.hid (HT.out.below hb)
  replace HR := Lib.hid (HR.out.below hb)
  replace HP := Lib.hid (HP.out.below hb)
  replace HF := Lib.hid (HF.out.below hb)
  replace HQ := Lib.hid (HQ.out.below hb)
  replace HK := Lib.hid (HK.out.below hb)
  replace HY := Lib.hid (HY.out.below hb)
  clear hb
  obtain ⟨p0, p1⟩ := id HX.out
  obtain ⟨t0, t1, t2, t3⟩ := id HT.out
  obtain ⟨q0, q1⟩ := id HY.out
  obtain ⟨yes, hyes⟩ : ∃ yes, yes = isPr rs ps fs := ⟨_, rfl⟩
  rw [← hyes]
  have HYES := Lib.hid hyes
  clear hyes
  cases yes with
  | true =>
    have hyes := HYES.out.symm
    have hz := isPr_iff.1 hyes
    have n0 : (A != 0) = false := by rw [HA.out, hz.1]; rfl
    have n1 : (B != 0) = false := by rw [HBB.out, hz.2.1]; rfl
    have n2 : (C != 0) = false := by rw [HCC.out, hz.2.2.1]; rfl
    have hd : D < 0 := by rw [HD.out]; exact hz.2.2.2
    have n3 : ¬ 0 ≤ D := by omega
    have n4 : decide (0 ≤ D) = false := decide_eq_false n3
    have HPO := Lib.hid (isPr_ok hyes)
    obtain ⟨bk, hbk⟩ : ∃ bk, bk = brkV h v mm d rs := ⟨_, rfl⟩
    have hbr : 1 ≤ bk := by rw [hbk]; exact proof_breaks hyes HS.out.1
    have n5 : ¬ bk < 1 := by omega
    have n6 : decide (bk < 1) = false := decide_eq_false n5
    have HBK := Lib.hid hbk
    clear hyes hz hd hbk hbr
    go_wp2_with fail
    refine (implProofOk _ _ _ _ _ _ _ _ _ _ _ _ _ rs ps fs HP.out HF.out HR.out).mono ?_
    rintro e w9 ⟨rfl, hb⟩
    replace HB := Lib.hid (HB.out.trans (hb.mono HB.out.size))
    replace HX := Lib.hid (HX.out.below hb)
    replace HT := Lib.hid (HT.out.below hb)
    replace HR := Lib.hid (HR.out.below hb)
    replace HP := Lib.hid (HP.out.below hb)
    replace HF := Lib.hid (HF.out.below hb)
    replace HQ := Lib.hid (HQ.out.below hb)
    replace HK := Lib.hid (HK.out.below hb)
    replace HY := Lib.hid (HY.out.below hb)
    clear p0 p1 t0 t1 t2 t3 q0 q1
    clear hb
    obtain ⟨p0, p1⟩ := id HX.out
    obtain ⟨t0, t1, t2, t3⟩ := id HT.out
    obtain ⟨q0, q1⟩ := id HY.out
    rw [HPO.out]
    go_wp2_with fail
    refine (specCountBroken _ _ _ _ _ h v mm d rs HR.out).mono ?_
    rintro e w10 ⟨rfl, hb⟩
    replace HB := Lib.hid (HB.out.trans (hb.mono HB.out.size))
    replace HX := Lib.hid (HX.out.below hb)
    replace HT := Lib.hid (HT.out.below hb)
    replace HR := Lib.hid (HR.out.below hb)
    replace HP := Lib.hid (HP.out.below hb)
    replace HF := Lib.hid (HF.out.below hb)
    replace HQ := Lib.hid (HQ.out.below hb)
    replace HK := Lib.hid (HK.out.below hb)
    replace HY := Lib.hid (HY.out.below hb)
    clear p0 p1 t0 t1 t2 t3 q0 q1
    clear hb
    obtain ⟨p0, p1⟩ := id HX.out
    obtain ⟨t0, t1, t2, t3⟩ := id HT.out
    obtain ⟨q0, q1⟩ := id HY.out
    rw [← HBK.out]
    clear n5
    skip
    cases ok with
    | true =>
      have hsc : scOk rs ps fs 3 = true := HOK.out.symm
      have hsr : scRows rs ps fs 3 = ps := by unfold scRows; rw [if_pos hsc]
      have hsf : scFacs rs ps fs 3 = tms 3 fs := by unfold scFacs; rw [if_pos hsc]
      rw [hsr] at HQ
      rw [hsf] at HK
      have HI := Lib.hid (is_three hsc)
      have bA := smV_bd rs ps fs 0
      have bB := smV_bd rs ps fs 1
      have bC := smV_bd rs ps fs 2
      have bD := smV_bd rs ps fs 3
      rw [← HA.out] at bA
      rw [← HBB.out] at bB
      rw [← HCC.out] at bC
      rw [← HD.out] at bD
      have uA : wrap64 (3 * A) = 3 * A := by rw [← wrapEq]; exact IntWalk.i64_in _ (by omega)
      have uB : wrap64 (3 * B) = 3 * B := by rw [← wrapEq]; exact IntWalk.i64_in _ (by omega)
      have uC : wrap64 (3 * C) = 3 * C := by rw [← wrapEq]; exact IntWalk.i64_in _ (by omega)
      have uD : wrap64 (3 * D) = 3 * D := by rw [← wrapEq]; exact IntWalk.i64_in _ (by omega)
      have HST : RowKit.Hid (smT rs ps (tms 3 fs) = .tuple #[.int .i64 (3 * A), .int .i64 (3 * B), .int .i64 (3 * C), .int .i64 (3 * D)]) := Lib.hid (by rw [HA.out, HBB.out, HCC.out, HD.out]; unfold smT; rw [sm_three hsc, sm_three hsc, sm_three hsc, sm_three hsc])
      clear hsc hsr hsf bA bB bC bD
      go_wp2_with fail
      refine (implSumOfRows _ _ _ _ _ _ _ _ _ _ _ _ _ rs ps (tms 3 fs) HQ.out HK.out HR.out).mono ?_
      rintro e w11 ⟨rfl, hb⟩
      replace HB := Lib.hid (HB.out.trans (hb.mono HB.out.size))
      replace HX := Lib.hid (HX.out.below hb)
      replace HT := Lib.hid (HT.out.below hb)
      replace HR := Lib.hid (HR.out.below hb)
      replace HP := Lib.hid (HP.out.below hb)
      replace HF := Lib.hid (HF.out.below hb)
      replace HQ := Lib.hid (HQ.out.below hb)
      replace HK := Lib.hid (HK.out.below hb)
      replace HY := Lib.hid (HY.out.below hb)
      clear p0 p1 t0 t1 t2 t3 q0 q1
      clear hb
      obtain ⟨p0, p1⟩ := id HX.out
      obtain ⟨t0, t1, t2, t3⟩ := id HT.out
      obtain ⟨q0, q1⟩ := id HY.out
      rw [HST.out]
      go_wp2_with fail
      refine (implIsProof _ _ _ _ _ _ _ _ _ _ _ _ _ rs ps (tms 3 fs) HQ.out HK.out HR.out).mono ?_
      rintro e w12 ⟨rfl, hb⟩
      replace HB := Lib.hid (HB.out.trans (hb.mono HB.out.size))
      replace HX := Lib.hid (HX.out.below hb)
      replace HT := Lib.hid (HT.out.below hb)
      replace HR := Lib.hid (HR.out.below hb)
      replace HP := Lib.hid (HP.out.below hb)
      replace HF := Lib.hid (HF.out.below hb)
      replace HQ := Lib.hid (HQ.out.below hb)
      replace HK := Lib.hid (HK.out.below hb)
      replace HY := Lib.hid (HY.out.below hb)
      clear p0 p1 t0 t1 t2 t3 q0 q1
      clear hb
      obtain ⟨p0, p1⟩ := id HX.out
      obtain ⟨t0, t1, t2, t3⟩ := id HT.out
      obtain ⟨q0, q1⟩ := id HY.out
      rw [HI.out, ← HYES.out]
      go_wp2_with fail
      clear p0 p1 t0 t1 t2 t3 q0 q1 HX HT HR HP HF HQ HK HY
      have b0 := alloc_b w12 (.cells #[.int .i64 1, .int .i64 0, .int .i64 0, .int .i64 (-1), .int .i64 (-1), .int .i64 0, .int .i64 0, .int .i64 0] 41)
      have b1 := alloc_b (w12.alloc (.cells #[.int .i64 1, .int .i64 0, .int .i64 0, .int .i64 (-1), .int .i64 (-1), .int .i64 0, .int .i64 0, .int .i64 0] 41)) (.cells #[.int .i64 0, .int .i64 1] 3)
      have b2 := alloc_b ((w12.alloc (.cells #[.int .i64 1, .int .i64 0, .int .i64 0, .int .i64 (-1), .int .i64 (-1), .int .i64 0, .int .i64 0, .int .i64 0] 41)).alloc (.cells #[.int .i64 0, .int .i64 1] 3)) (.cells #[.int .i64 1, .int .i64 1] 3)
      have c1 := ((cds_lit2 w12 0 (Nat.zero_le _) 1 0 0 (-1) (-1) 0 0 0).below b1).below b2
      have i1 := (ins_lit2 (w12.alloc (.cells #[.int .i64 1, .int .i64 0, .int .i64 0, .int .i64 (-1), .int .i64 (-1), .int .i64 0, .int .i64 0, .int .i64 0] 41)) 0 (Nat.zero_le _) 0 1).below b2
      have i2 := ins_lit2 ((w12.alloc (.cells #[.int .i64 1, .int .i64 0, .int .i64 0, .int .i64 (-1), .int .i64 (-1), .int .i64 0, .int .i64 0, .int .i64 0] 41)).alloc (.cells #[.int .i64 0, .int .i64 1] 3)) 0 (Nat.zero_le _) 1 1
      simp only [World.size_alloc] at i1 i2
      have HB2 := Lib.hid (((HB.out.trans (b0.mono HB.out.size)).trans (b1.mono (HB.out.trans (b0.mono HB.out.size)).size)).trans (b2.mono ((HB.out.trans (b0.mono HB.out.size)).trans (b1.mono (HB.out.trans (b0.mono HB.out.size)).size)).size))
      clear b0 b1 b2
      refine (implIsProof _ _ _ _ _ _ _ _ _ _ _ _ _ [(1, 0, 0, -1), (-1, 0, 0, 0)] [0, 1] [1, 1] i1 i2 c1).mono ?_
      rintro e w13 ⟨rfl, hb⟩
      have HB3 := Lib.hid (HB2.out.trans (hb.mono HB2.out.size))
      rw [one_is]
      clear hb HB2 c1 i1 i2 HB
      go_wp2_with fail
      have b1 := alloc_b w13 (.cells #[.int .i64 0, .int .i64 1] 3)
      have b2 := alloc_b (w13.alloc (.cells #[.int .i64 0, .int .i64 1] 3)) (.cells #[.int .i64 2, .int .i64 1] 3)
      have i1 := (ins_lit2 w13 0 (Nat.zero_le _) 0 1).below b2
      have i2 := ins_lit2 (w13.alloc (.cells #[.int .i64 0, .int .i64 1] 3)) 0 (Nat.zero_le _) 2 1
      simp only [World.size_alloc] at i2
      have HB4 := Lib.hid ((HB3.out.trans (b1.mono HB3.out.size)).trans (b2.mono (HB3.out.trans (b1.mono HB3.out.size)).size))
      clear b1 b2 HB3
      refine (implProofText _ _ _ _ _ _ _ _ _ [0, 1] [2, 1] i1 i2 (i64_two _ _ (by unfold I64; omega) (by unfold I64; omega)) (i64_two _ _ (by unfold I64; omega) (by unfold I64; omega)) (by omega) (HT0.out.below HB4.out)).mono ?_
      rintro e w14 ⟨rfl, hb⟩
      have HB5 := Lib.hid (HB4.out.trans (hb.mono HB4.out.size))
      clear hb HB4 i1 i2
      go_wp2_with fail
      rw [text_is]
      go_ret
      exact ⟨rfl, HB5.out⟩
    | false =>
      go_wp2_with fail
      clear p0 p1 t0 t1 t2 t3 q0 q1 HX HT HR HP HF HQ HK HY
      have b0 := alloc_b w10 (.cells #[.int .i64 1, .int .i64 0, .int .i64 0, .int .i64 (-1), .int .i64 (-1), .int .i64 0, .int .i64 0, .int .i64 0] 41)
      have b1 := alloc_b (w10.alloc (.cells #[.int .i64 1, .int .i64 0, .int .i64 0, .int .i64 (-1), .int .i64 (-1), .int .i64 0, .int .i64 0, .int .i64 0] 41)) (.cells #[.int .i64 0, .int .i64 1] 3)
      have b2 := alloc_b ((w10.alloc (.cells #[.int .i64 1, .int .i64 0, .int .i64 0, .int .i64 (-1), .int .i64 (-1), .int .i64 0, .int .i64 0, .int .i64 0] 41)).alloc (.cells #[.int .i64 0, .int .i64 1] 3)) (.cells #[.int .i64 1, .int .i64 1] 3)
      have c1 := ((cds_lit2 w10 0 (Nat.zero_le _) 1 0 0 (-1) (-1) 0 0 0).below b1).below b2
      have i1 := (ins_lit2 (w10.alloc (.cells #[.int .i64 1, .int .i64 0, .int .i64 0, .int .i64 (-1), .int .i64 (-1), .int .i64 0, .int .i64 0, .int .i64 0] 41)) 0 (Nat.zero_le _) 0 1).below b2
      have i2 := ins_lit2 ((w10.alloc (.cells #[.int .i64 1, .int .i64 0, .int .i64 0, .int .i64 (-1), .int .i64 (-1), .int .i64 0, .int .i64 0, .int .i64 0] 41)).alloc (.cells #[.int .i64 0, .int .i64 1] 3)) 0 (Nat.zero_le _) 1 1
      simp only [World.size_alloc] at i1 i2
      have HB2 := Lib.hid (((HB.out.trans (b0.mono HB.out.size)).trans (b1.mono (HB.out.trans (b0.mono HB.out.size)).size)).trans (b2.mono ((HB.out.trans (b0.mono HB.out.size)).trans (b1.mono (HB.out.trans (b0.mono HB.out.size)).size)).size))
      clear b0 b1 b2
      refine (implIsProof _ _ _ _ _ _ _ _ _ _ _ _ _ [(1, 0, 0, -1), (-1, 0, 0, 0)] [0, 1] [1, 1] i1 i2 c1).mono ?_
      rintro e w13 ⟨rfl, hb⟩
      have HB3 := Lib.hid (HB2.out.trans (hb.mono HB2.out.size))
      rw [one_is]
      clear hb HB2 c1 i1 i2 HB
      go_wp2_with fail
      have b1 := alloc_b w13 (.cells #[.int .i64 0, .int .i64 1] 3)
      have b2 := alloc_b (w13.alloc (.cells #[.int .i64 0, .int .i64 1] 3)) (.cells #[.int .i64 2, .int .i64 1] 3)
      have i1 := (ins_lit2 w13 0 (Nat.zero_le _) 0 1).below b2
      have i2 := ins_lit2 (w13.alloc (.cells #[.int .i64 0, .int .i64 1] 3)) 0 (Nat.zero_le _) 2 1
      simp only [World.size_alloc] at i2
      have HB4 := Lib.hid ((HB3.out.trans (b1.mono HB3.out.size)).trans (b2.mono (HB3.out.trans (b1.mono HB3.out.size)).size))
      clear b1 b2 HB3
      refine (implProofText _ _ _ _ _ _ _ _ _ [0, 1] [2, 1] i1 i2 (i64_two _ _ (by unfold I64; omega) (by unfold I64; omega)) (i64_two _ _ (by unfold I64; omega) (by unfold I64; omega)) (by omega) (HT0.out.below HB4.out)).mono ?_
      rintro e w14 ⟨rfl, hb⟩
      have HB5 := Lib.hid (HB4.out.trans (hb.mono HB4.out.size))
      clear hb HB4 i1 i2
      go_wp2_with fail
      rw [text_is]
      go_ret
      exact ⟨rfl, HB5.out⟩
  | false =>
    cases ok with
    | true =>
      have hsc : scOk rs ps fs 3 = true := HOK.out.symm
      have hsr : scRows rs ps fs 3 = ps := by unfold scRows; rw [if_pos hsc]
      have hsf : scFacs rs ps fs 3 = tms 3 fs := by unfold scFacs; rw [if_pos hsc]
      rw [hsr] at HQ
      rw [hsf] at HK
      have HI := Lib.hid (is_three hsc)
      have bA := smV_bd rs ps fs 0
      have bB := smV_bd rs ps fs 1
      have bC := smV_bd rs ps fs 2
      have bD := smV_bd rs ps fs 3
      rw [← HA.out] at bA
      rw [← HBB.out] at bB
      rw [← HCC.out] at bC
      rw [← HD.out] at bD
      have uA : wrap64 (3 * A) = 3 * A := by rw [← wrapEq]; exact IntWalk.i64_in _ (by omega)
      have uB : wrap64 (3 * B) = 3 * B := by rw [← wrapEq]; exact IntWalk.i64_in _ (by omega)
      have uC : wrap64 (3 * C) = 3 * C := by rw [← wrapEq]; exact IntWalk.i64_in _ (by omega)
      have uD : wrap64 (3 * D) = 3 * D := by rw [← wrapEq]; exact IntWalk.i64_in _ (by omega)
      have HST : RowKit.Hid (smT rs ps (tms 3 fs) = .tuple #[.int .i64 (3 * A), .int .i64 (3 * B), .int .i64 (3 * C), .int .i64 (3 * D)]) := Lib.hid (by rw [HA.out, HBB.out, HCC.out, HD.out]; unfold smT; rw [sm_three hsc, sm_three hsc, sm_three hsc, sm_three hsc])
      clear hsc hsr hsf bA bB bC bD
      go_wp2_with fail
      refine (implSumOfRows _ _ _ _ _ _ _ _ _ _ _ _ _ rs ps (tms 3 fs) HQ.out HK.out HR.out).mono ?_
      rintro e w11 ⟨rfl, hb⟩
      replace HB := Lib.hid (HB.out.trans (hb.mono HB.out.size))
      replace HX := Lib.hid (HX.out.below hb)
      replace HT := Lib.hid (HT.out.below hb)
      replace HR := Lib.hid (HR.out.below hb)
      replace HP := Lib.hid (HP.out.below hb)
      replace HF := Lib.hid (HF.out.below hb)
      replace HQ := Lib.hid (HQ.out.below hb)
      replace HK := Lib.hid (HK.out.below hb)
      replace HY := Lib.hid (HY.out.below hb)
      clear p0 p1 t0 t1 t2 t3 q0 q1
      clear hb
      obtain ⟨p0, p1⟩ := id HX.out
      obtain ⟨t0, t1, t2, t3⟩ := id HT.out
      obtain ⟨q0, q1⟩ := id HY.out
      rw [HST.out]
      go_wp2_with fail
      refine (implIsProof _ _ _ _ _ _ _ _ _ _ _ _ _ rs ps (tms 3 fs) HQ.out HK.out HR.out).mono ?_
      rintro e w12 ⟨rfl, hb⟩
      replace HB := Lib.hid (HB.out.trans (hb.mono HB.out.size))
      replace HX := Lib.hid (HX.out.below hb)
      replace HT := Lib.hid (HT.out.below hb)
      replace HR := Lib.hid (HR.out.below hb)
      replace HP := Lib.hid (HP.out.below hb)
      replace HF := Lib.hid (HF.out.below hb)
      replace HQ := Lib.hid (HQ.out.below hb)
      replace HK := Lib.hid (HK.out.below hb)
      replace HY := Lib.hid (HY.out.below hb)
      clear p0 p1 t0 t1 t2 t3 q0 q1
      clear hb
      obtain ⟨p0, p1⟩ := id HX.out
      obtain ⟨t0, t1, t2, t3⟩ := id HT.out
      obtain ⟨q0, q1⟩ := id HY.out
      rw [HI.out, ← HYES.out]
      go_wp2_with fail
      clear p0 p1 t0 t1 t2 t3 q0 q1 HX HT HR HP HF HQ HK HY
      have b0 := alloc_b w12 (.cells #[.int .i64 1, .int .i64 0, .int .i64 0, .int .i64 (-1), .int .i64 (-1), .int .i64 0, .int .i64 0, .int .i64 0] 41)
      have b1 := alloc_b (w12.alloc (.cells #[.int .i64 1, .int .i64 0, .int .i64 0, .int .i64 (-1), .int .i64 (-1), .int .i64 0, .int .i64 0, .int .i64 0] 41)) (.cells #[.int .i64 0, .int .i64 1] 3)
      have b2 := alloc_b ((w12.alloc (.cells #[.int .i64 1, .int .i64 0, .int .i64 0, .int .i64 (-1), .int .i64 (-1), .int .i64 0, .int .i64 0, .int .i64 0] 41)).alloc (.cells #[.int .i64 0, .int .i64 1] 3)) (.cells #[.int .i64 1, .int .i64 1] 3)
      have c1 := ((cds_lit2 w12 0 (Nat.zero_le _) 1 0 0 (-1) (-1) 0 0 0).below b1).below b2
      have i1 := (ins_lit2 (w12.alloc (.cells #[.int .i64 1, .int .i64 0, .int .i64 0, .int .i64 (-1), .int .i64 (-1), .int .i64 0, .int .i64 0, .int .i64 0] 41)) 0 (Nat.zero_le _) 0 1).below b2
      have i2 := ins_lit2 ((w12.alloc (.cells #[.int .i64 1, .int .i64 0, .int .i64 0, .int .i64 (-1), .int .i64 (-1), .int .i64 0, .int .i64 0, .int .i64 0] 41)).alloc (.cells #[.int .i64 0, .int .i64 1] 3)) 0 (Nat.zero_le _) 1 1
      simp only [World.size_alloc] at i1 i2
      have HB2 := Lib.hid (((HB.out.trans (b0.mono HB.out.size)).trans (b1.mono (HB.out.trans (b0.mono HB.out.size)).size)).trans (b2.mono ((HB.out.trans (b0.mono HB.out.size)).trans (b1.mono (HB.out.trans (b0.mono HB.out.size)).size)).size))
      clear b0 b1 b2
      refine (implIsProof _ _ _ _ _ _ _ _ _ _ _ _ _ [(1, 0, 0, -1), (-1, 0, 0, 0)] [0, 1] [1, 1] i1 i2 c1).mono ?_
      rintro e w13 ⟨rfl, hb⟩
      have HB3 := Lib.hid (HB2.out.trans (hb.mono HB2.out.size))
      rw [one_is]
      clear hb HB2 c1 i1 i2 HB
      go_wp2_with fail
      have b1 := alloc_b w13 (.cells #[.int .i64 0, .int .i64 1] 3)
      have b2 := alloc_b (w13.alloc (.cells #[.int .i64 0, .int .i64 1] 3)) (.cells #[.int .i64 2, .int .i64 1] 3)
      have i1 := (ins_lit2 w13 0 (Nat.zero_le _) 0 1).below b2
      have i2 := ins_lit2 (w13.alloc (.cells #[.int .i64 0, .int .i64 1] 3)) 0 (Nat.zero_le _) 2 1
      simp only [World.size_alloc] at i2
      have HB4 := Lib.hid ((HB3.out.trans (b1.mono HB3.out.size)).trans (b2.mono (HB3.out.trans (b1.mono HB3.out.size)).size))
      clear b1 b2 HB3
      refine (implProofText _ _ _ _ _ _ _ _ _ [0, 1] [2, 1] i1 i2 (i64_two _ _ (by unfold I64; omega) (by unfold I64; omega)) (i64_two _ _ (by unfold I64; omega) (by unfold I64; omega)) (by omega) (HT0.out.below HB4.out)).mono ?_
      rintro e w14 ⟨rfl, hb⟩
      have HB5 := Lib.hid (HB4.out.trans (hb.mono HB4.out.size))
      clear hb HB4 i1 i2
      go_wp2_with fail
      rw [text_is]
      go_ret
      exact ⟨rfl, HB5.out⟩
    | false =>
      go_wp2_with fail
      clear p0 p1 t0 t1 t2 t3 q0 q1 HX HT HR HP HF HQ HK HY
      have b0 := alloc_b w8 (.cells #[.int .i64 1, .int .i64 0, .int .i64 0, .int .i64 (-1), .int .i64 (-1), .int .i64 0, .int .i64 0, .int .i64 0] 41)
      have b1 := alloc_b (w8.alloc (.cells #[.int .i64 1, .int .i64 0, .int .i64 0, .int .i64 (-1), .int .i64 (-1), .int .i64 0, .int .i64 0, .int .i64 0] 41)) (.cells #[.int .i64 0, .int .i64 1] 3)
      have b2 := alloc_b ((w8.alloc (.cells #[.int .i64 1, .int .i64 0, .int .i64 0, .int .i64 (-1), .int .i64 (-1), .int .i64 0, .int .i64 0, .int .i64 0] 41)).alloc (.cells #[.int .i64 0, .int .i64 1] 3)) (.cells #[.int .i64 1, .int .i64 1] 3)
      have c1 := ((cds_lit2 w8 0 (Nat.zero_le _) 1 0 0 (-1) (-1) 0 0 0).below b1).below b2
      have i1 := (ins_lit2 (w8.alloc (.cells #[.int .i64 1, .int .i64 0, .int .i64 0, .int .i64 (-1), .int .i64 (-1), .int .i64 0, .int .i64 0, .int .i64 0] 41)) 0 (Nat.zero_le _) 0 1).below b2
      have i2 := ins_lit2 ((w8.alloc (.cells #[.int .i64 1, .int .i64 0, .int .i64 0, .int .i64 (-1), .int .i64 (-1), .int .i64 0, .int .i64 0, .int .i64 0] 41)).alloc (.cells #[.int .i64 0, .int .i64 1] 3)) 0 (Nat.zero_le _) 1 1
      simp only [World.size_alloc] at i1 i2
      have HB2 := Lib.hid (((HB.out.trans (b0.mono HB.out.size)).trans (b1.mono (HB.out.trans (b0.mono HB.out.size)).size)).trans (b2.mono ((HB.out.trans (b0.mono HB.out.size)).trans (b1.mono (HB.out.trans (b0.mono HB.out.size)).size)).size))
      clear b0 b1 b2
      refine (implIsProof _ _ _ _ _ _ _ _ _ _ _ _ _ [(1, 0, 0, -1), (-1, 0, 0, 0)] [0, 1] [1, 1] i1 i2 c1).mono ?_
      rintro e w13 ⟨rfl, hb⟩
      have HB3 := Lib.hid (HB2.out.trans (hb.mono HB2.out.size))
      rw [one_is]
      clear hb HB2 c1 i1 i2 HB
      go_wp2_with fail
      have b1 := alloc_b w13 (.cells #[.int .i64 0, .int .i64 1] 3)
      have b2 := alloc_b (w13.alloc (.cells #[.int .i64 0, .int .i64 1] 3)) (.cells #[.int .i64 2, .int .i64 1] 3)
      have i1 := (ins_lit2 w13 0 (Nat.zero_le _) 0 1).below b2
      have i2 := ins_lit2 (w13.alloc (.cells #[.int .i64 0, .int .i64 1] 3)) 0 (Nat.zero_le _) 2 1
      simp only [World.size_alloc] at i2
      have HB4 := Lib.hid ((HB3.out.trans (b1.mono HB3.out.size)).trans (b2.mono (HB3.out.trans (b1.mono HB3.out.size)).size))
      clear b1 b2 HB3
      refine (implProofText _ _ _ _ _ _ _ _ _ [0, 1] [2, 1] i1 i2 (i64_two _ _ (by unfold I64; omega) (by unfold I64; omega)) (i64_two _ _ (by unfold I64; omega) (by unfold I64; omega)) (by omega) (HT0.out.below HB4.out)).mono ?_
      rintro e w14 ⟨rfl, hb⟩
      have HB5 := Lib.hid (HB4.out.trans (hb.mono HB4.out.size))
      clear hb HB4 i1 i2
      go_wp2_with fail
      rw [text_is]
      go_ret
      exact ⟨rfl, HB5.out⟩

/-- The door's own heap meets the condition. -/
theorem door_met (os : Os) (args : Array Value) : laidMetH Tryd.prog Rows.fnProofsRow.laid ((World.doorLaid Tryd.prog 400 os).forCall (fun _ _ => 0) ⟨#[], args, []⟩).memory :=
  laidMetH_of_parts3 (fuel := 8) (laidMet_of_run' 8 (by kernel_rfl) (by kernel_rfl)) (by kernel_rfl) (by kernel_rfl)

/-! ### THE ROW's STEP -/
set_option maxRecDepth 100000 in
theorem lifted (os : Os) (started : os.Started) (H : Type) (enc : TypeId × Value → H) :
    ReturnsInHanded {} Tryd.checked os 3 .any (fun w args => (Rows.fnProofsSpec.pre enc Tryd.prog Tryd.f3 [] false w args ∧ laidMetH Tryd.prog Rows.fnProofsRow.laid w) ∧ sizedMet enc Tryd.prog Tryd.f3 (OpenSpec.ofChange Rows.fnProofsSpec) false w args) (Rows.fnProofsSpec.post enc Tryd.prog Tryd.f3 false true false false) := by
  refine returnsInHanded_of_change_and (C := Tryd.checked) (X := fun w _ => laidMetH Tryd.prog Rows.fnProofsRow.laid w) (fun _ _ _ hh h => h.of_heap hh) own started (by kernel_rfl) Tryd.func3
    (ChangeSpec.witness_shaped (enc := enc) (C := Tryd.checked) (os := os) (X := fun w _ => laidMetH Tryd.prog Rows.fnProofsRow.laid w) false (World.doorLaid Tryd.prog 400 os) #[.slice none 0 0] 8 rfl (World.shaped_of_RefB (by kernel_rfl) (by kernel_rfl)) (by kernel_rfl) (by kernel_rfl) (by kernel_rfl) (door_met os _)) ?_
  intro W base args ds gs before hval0 hW _ _ hL _
  have hval : ∀ (j : Nat) t v, Tryd.f3.params[j]? = some t → args[j]? = some v → Value.okWide Tryd.prog W .any base t v := hval0
  have hW' := hW
  obtain ⟨p, q, hA0, hV, rfl, hfz, hnd⟩ := hW
  have hA : DataW.TrodAll enc Tryd.prog W 0 (fun _ => true) true Tryd.f3.params.toList args.toList ds p := hA0
  rw [Tryd.params3] at hA hval
  obtain ⟨v0, vs0, d0, ds0, p0, q0, hargs, rfl, rfl, h0, r0⟩ := trodAll_cons hA
  obtain ⟨rfl, rfl, rfl⟩ := trodAll_nil r0
  obtain rfl : args = #[v0] := by cases args; simp_all
  obtain ⟨rfl, rfl⟩ := trodVars_none hV
  have k0 := h0
  have lt0 : ∀ x ∈ p0, x.block < W.heap.size := by obtain ⟨m, hm⟩ := k0; exact DataW.trod_lt m _ _ _ hm
  obtain ⟨a0, len0, cap0, rfl⟩ := okWide_slice Tryd.underlying22 (hval 0 22 v0 rfl rfl)
  obtain ⟨z0, g0⟩ : ∃ zs, IsRow .u8 W a0 len0 cap0 zs := by
    obtain ⟨fuel, hf⟩ := h0
    rcases open_ints Tryd.underlying22 Tryd.underlying5 (by kernel_rfl) hf with ⟨hcs, _⟩ | ⟨x, l, c, zs, hcs, _, hl, hm, hz, _, hcell, hwz⟩
    · simp [Value.cells] at hcs
      obtain ⟨rfl, rfl, rfl⟩ := hcs
      exact ⟨[], .inl ⟨rfl, rfl, rfl, rfl⟩⟩
    · simp [Value.cells] at hcs
      obtain ⟨rfl, rfl, rfl⟩ := hcs
      exact ⟨zs, .inr ⟨_, rfl, hl, hm, by simpa using hz, hcell, hwz⟩⟩
  clear hA0 hval0
  have hT := tens_of_laid (by kernel_rfl) hL
  refine (walk a0 len0 cap0 z0 W g0 hT).mono fun e W' ⟨he, bel⟩ => ?_
  subst he
  exact ⟨_, rfl, _, _, _, [], _, [], hW', trodAll_mk1 (shut_bool Tryd.underlying4 _), (trodAll_cons_mk (Below.trod laidOut (by kernel_rfl) (of_decide_eq_true (by kernel_rfl)) k0 bel lt0) trodAll_mk0), rfl, bel.frame _, fun h => by cases h⟩

theorem over : Rows.fnProofsRow.holds Tryd.pinned (OpenSpec.ofChange Rows.fnProofsSpec) :=
  OpenClaim.holds_of_wide 3 Tryd.f3 rfl rfl rfl rfl rfl rfl rfl ⟨rfl, rfl, rfl, rfl, rfl⟩ rfl rfl rfl rfl rfl (by kernel_rfl) Tryd.func3 (by kernel_rfl)
    (of_decide_eq_true (by kernel_rfl)) (by unfold Func.isWrapper; first | (rw [if_pos (by decide +kernel)]; kernel_rfl) | (rw [if_neg (by decide +kernel)]; exact ⟨rfl, rfl⟩))
    (fun os started H enc _ => lifted os started H enc)

/-- THE STATEMENT: the card, tied to the program's text. -/
theorem proved : Rows.FnProofsCardSaid :=
  Claim7.holds_tied_plain_at .later [] [.data, .data, .data] true (true, "e0a3e7ead429fa59ddc690d2b6cfe1d8e5c08be69188835231ed82581993a933") false
    over (fun _ h => by cases h) (by kernel_rfl) (fun _ h => by cases h) fnProofs_row_tie rfl ⟨rfl, rfl⟩ (by kernel_rfl) rfl
    (fun f fn hf hfn => by
      obtain rfl : f = 3 := Option.some.inj ((show Tryd.prog.funcNamed Rows.fnProofsRow.func = some 3 by kernel_rfl).symm.trans hf) |>.symm
      obtain rfl : fn = Tryd.f3 := (Option.some.inj (Tryd.func3.symm.trans hfn)).symm
      exact ⟨by kernel_rfl, fun j t ht => by
        rw [Tryd.params3] at ht
        have hm : t ∈ [22] := by simpa using Array.mem_of_getElem? ht
        have hall : ([22].all fun u => !Tryd.prog.wantsStandIn u) = true := by kernel_rfl
        exact (show Tryd.prog.wantsStandIn t = false by simpa using List.all_eq_true.1 hall t hm)⟩)
    (by kernel_rfl)
#print axioms proved
end Go.Proofs.YtidmhpeaehmmhaaDoor.fnProofs
