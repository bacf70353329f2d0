/- Corners: the contract of the program's CornersOf. -/
import Derived.Test.YtibcalpkmjjilaaThreeU
import Derived.Test.YtibcalpkmjjilaaThreeV
import Derived.StillTailTactics
import Derived.Deep.CutRange
namespace Go.Proofs.Ytibcalpkmjjilaa
set_option maxRecDepth 100000
open Go.ChangeShapes Go.WideShapes Go.ChangeAt Go.RowKit

set_option maxRecDepth 100000 in
set_option maxHeartbeats 8000000 in
theorem implCornersOf (w : World) (B : Nat) (ra : Option Addr) (m rc : Nat) (rs : List Cd) (hr : Cds w B ra m rc rs) :
    Calls Try.prog 16 #[.slice ra m rc] w fun e w' => ∃ v, e = .returned v ∧ ThRow w' w.heap.size v (coV rs) ∧ Below w.heap.size w w' := by
  obtain ⟨hnc, hcm⟩ := hr.cap
  unfold maxLen at hcm
  have HN := Lib.hid hr.2
  have HR := Lib.hid hr
  have HC := Lib.hid (fun w => isBetweenR (m : Int) 3 20 w (by omega))
  cases hn : inR (m : Int) 3 20
  · have HV := Lib.hid (coV_no (coOk_n hr.2 hn))
    clear hr
    go_enter Try.func16, Try.ntmps16
    go_wp2_with fail
    refine (HC.out _).mono ?_
    rintro e w1 ⟨rfl, rfl⟩
    rw [hn]
    go_wp2_with fail
    go_ret
    exact ⟨_, rfl, by rw [HV.out]; exact ThRow.nil _ _, Below.refl _ _⟩
  cases hc : cdsOk rs
  · have HV := Lib.hid (coV_no (coOk_c hc))
    clear hr
    go_enter Try.func16, Try.ntmps16
    go_wp2_with fail
    refine (HC.out _).mono ?_
    rintro e w1 ⟨rfl, rfl⟩
    rw [hn]
    go_wp2_with fail
    refine (areValidRows _ _ _ _ _ rs HR.out).mono ?_
    rintro e w1 ⟨rfl, hb1⟩
    rw [hc]
    go_wp2_with fail
    go_ret
    exact ⟨_, rfl, by rw [HV.out]; exact ThRow.nil _ _, hb1⟩
  have hok := coOk_of hr.2 hn hc
  have HOK := Lib.hid hok
  have HV := Lib.hid (show coV rs = coI rs m by rw [coV_yes hok, hr.2])
  have HVL := Lib.hid (fun k => coI_len rs k)
  have h3 := inR_iff.1 hn
  have HCC := Lib.hid hc
  clear hr hok hc
  go_enter Try.func16, Try.ntmps16
  go_wp2_with fail
  refine (HC.out _).mono ?_
  rintro e w1 ⟨rfl, rfl⟩
  rw [hn]
  go_wp2_with fail
  refine (areValidRows _ _ _ _ _ rs HR.out).mono ?_
  rintro e w1 ⟨rfl, hb1⟩
  rw [HCC.out]
  have HB1 := Lib.hid hb1
  clear hb1 HCC HC hn
  go_wp2_with fail
  go_loopw [3, 16] (fun q t wr => ∃ (i : Nat) (a : Option Addr) (n cap : Nat), i ≤ m ∧ t = .int .i64 i ∧ q = .slice a n cap ∧ Ths wr w.heap.size a n cap (coI rs i) ∧ Below w.heap.size w wr)
    (fun _ t _ => m - (intOf t).toNat)
  case atStart => exact ⟨0, none, 0, 0, Nat.zero_le _, rfl, rfl, ⟨ThRow.nil _ _, rfl⟩, HB1.out⟩
  case round =>
    clear HB1
    obtain ⟨i, a, n, cap, hi, rfl, rfl, hth, hbw⟩ := hrel
    have HB := Lib.hid hbw
    have HT := Lib.hid hth
    by_cases hlt : i < m
    · have HNI := Lib.hid (cf_I HOK.out i)
      have HRR := Lib.hid (HR.out.below hbw)
      have HLI := Lib.hid (show n ≤ 8000 by
        have h1 := HVL.out i
        rw [HN.out] at h1
        have h2 := hth.2
        have h4 : m * m ≤ 20 * 20 := Nat.mul_le_mul (by omega) (by omega)
        have h5 : i * (m * m) ≤ 19 * (20 * 20) := Nat.mul_le_mul (by omega) h4
        omega)
      have HLV := Lib.hid (cfV_len rs i)
      clear hth hbw
      go_wp2_with fail
      refine (cornersFrom _ _ _ _ _ _ rs HRR.out hlt (by omega)).mono ?_
      rintro e w4 ⟨v, rfl, hrow, hb4⟩
      obtain ⟨oa, on, oc, rfl, ho⟩ := thsOf hrow
      have HO4 := Lib.hid ho
      have HT4 := Lib.hid (HT.out.below hb4)
      have HB4 := Lib.hid (HB.out.trans (hb4.mono HB.out.size))
      have HNE := Lib.hid (show ∀ g : Nat, oa = some ⟨g, 0, none⟩ → (Value.slice a n cap).ownBlock ≠ some g from fun g hg he => by
        have h1 := (own_lt HT.out he).2
        have h2 := (own_lt ho (show (Value.slice oa on oc).ownBlock = some g by rw [hg]; rfl)).1
        omega)
      have HLN := Lib.hid (show n + on ≤ 1000000 by
        have h1 := HLV.out
        rw [HN.out] at h1
        have h2 := ho.2
        have h3 := HLI.out
        have h4 : m * m ≤ 20 * 20 := Nat.mul_le_mul (by omega) (by omega)
        omega)
      clear hrow hb4 ho HRR
      go_wp2_with fail
      refine (appendNew _ w.heap.size _ _ _ _ _ _ _ (coI rs i) (cfV rs i) HT4.out HB4.out.size HLN.out HO4.out HNE.out).mono ?_
      rintro e w5 ⟨v', rfl, hrow, hg, hown⟩
      rw [← HNI.out] at hrow
      obtain ⟨a4, n4, cap4, rfl, hth4⟩ := thsOf hrow
      have HT5 := Lib.hid hth4
      have HB5 := Lib.hid (below_rowed HB4.out hg HB4.out.size (fun x hx => (World.ownsRow.lt HT4.out.1 x hx).1))
      clear hrow hg hown hth4
      go_wp2_with fail
      go_roundw
      case rel => exact ⟨i + 1, a4, n4, cap4, hlt, by go_num, rfl, HT5.out, HB5.out⟩
      case measure => simp [intOf]; omega
    · have him : i = m := by omega
      have HE := Lib.hid (show coV rs = coI rs i by rw [HV.out, him])
      clear hbw hth him
      go_wp2_with fail
      go_ret
      exact ⟨_, rfl, by rw [HE.out]; exact HT.out.2 ▸ HT.out.1, HB.out⟩
end Go.Proofs.Ytibcalpkmjjilaa
