/- Corners: the contract of the program's CornersOf. -/
import Derived.Test.YtdaiffaedejnbaaThreeL
import Derived.StillTailTactics
import Derived.Deep.CutRange
namespace Go.Proofs.Ytdaiffaedejnbaa
set_option maxRecDepth 100000
open Go.ChangeShapes Go.WideShapes Go.ChangeAt Go.RowKit

theorem coOk_of {rs : List Cd} {n : Nat} (h : rs.length = n) (hn : inR (n : Int) 3 20 = true) (hc : cdsOk rs = true) : coOk rs = true := by
  unfold coOk; rw [h, hn, Bool.and_true, ← h]; exact hc
theorem coOk_n {rs : List Cd} {n : Nat} (h : rs.length = n) (hn : inR (n : Int) 3 20 = false) : coOk rs = false := by
  unfold coOk; rw [h, hn, Bool.and_false]
theorem coOk_c {rs : List Cd} (hc : cdsOk rs = false) : coOk rs = false := by
  unfold coOk; rw [show allV rs.length (fun x => okR (cd rs x)) = false from hc]; rfl
theorem thsOf {w : World} {B : Nat} {v : Value} {l : List Cd} (h : ThRow w B v l) : ∃ a n cap, v = .slice a n cap ∧ Ths w B a n cap l := by
  obtain ⟨a, cap, rfl, -, -⟩ := throw_slice h
  exact ⟨a, l.length, cap, rfl, h, rfl⟩
theorem ths_ne {w : World} {B n cap : Nat} {a : Option Addr} {l : List Cd} (h : Ths w B a n cap l) : some w.heap.size ≠ (Value.slice a n cap).ownBlock := fun he => by
  have := (World.ownsRow.lt h.1 _ he.symm).2
  omega
theorem rbox_alloc (w : World) (h v m d : Int) : TBox (w.alloc (.cells #[.int .i64 h, .int .i64 v, .int .i64 m, .int .i64 d] 25)) w.heap.size h v m d := by
  refine ⟨?_, ?_, ?_, ?_⟩ <;> go_simp
/-- What is kept behind a step: below the base all, and a box that is not the list's. -/
theorem below_grown {w x y : World} {B : Nat} {row : Option Nat} (h : Below B w x) (hg : x.grownBy y row) (hB : B ≤ x.heap.size) (hr : ∀ j, row = some j → B ≤ j) : Below B w y :=
  h.grown hg hB (fun j hj => hr j hj)

set_option maxRecDepth 100000 in
set_option maxHeartbeats 8000000 in
theorem implCornersOf (w : World) (B : Nat) (ra : Option Addr) (m rc : Nat) (rs : List Cd) (hr : Cds w B ra m rc rs) :
    Calls Try.prog 19 #[.slice ra m rc] w fun e w' => ∃ v, e = .returned v ∧ ThRow w' w.heap.size v (coV rs) ∧ Below w.heap.size w w' := by
  obtain ⟨hnc, hcm⟩ := hr.cap
  unfold maxLen at hcm
  have HN := Lib.hid hr.2
  have HR := Lib.hid hr
  have HC := Lib.hid (fun w => isBetweenR (m : Int) 3 20 w (by omega))
  cases hn : inR (m : Int) 3 20
  · have HV := Lib.hid (coV_no (coOk_n hr.2 hn))
    clear hr
    go_enter Try.func19, Try.ntmps19
    go_wp2_with fail
    refine (HC.out _).mono ?_
    rintro e w1 ⟨rfl, rfl⟩
    rw [hn]
    go_wp2_with fail
    go_ret
    exact ⟨_, rfl, by rw [HV.out]; exact ThRow.nil _ _, Below.refl _ _⟩
  cases hc : cdsOk rs
  · have HV := Lib.hid (coV_no (coOk_c hc))
    clear hr
    go_enter Try.func19, Try.ntmps19
    go_wp2_with fail
    refine (HC.out _).mono ?_
    rintro e w1 ⟨rfl, rfl⟩
    rw [hn]
    go_wp2_with fail
    refine (areValidRows _ _ _ _ _ rs HR.out).mono ?_
    rintro e w1 ⟨rfl, hb1⟩
    rw [hc]
    go_wp2_with fail
    go_ret
    exact ⟨_, rfl, by rw [HV.out]; exact ThRow.nil _ _, hb1⟩
  have hok := coOk_of hr.2 hn hc
  have HOK := Lib.hid hok
  have HV := Lib.hid (show coV rs = coI rs m by rw [coV_yes hok, hr.2])
  have HVL := Lib.hid (fun k (hk : k ≤ m) => coI_len rs k)
  have h3 := inR_iff.1 hn
  obtain ⟨g, rfl, -⟩ := hr.at 0 (by omega)
  have HCC := Lib.hid hc
  clear hr hok hc
  go_enter Try.func19, Try.ntmps19
  go_wp2_with fail
  refine (HC.out _).mono ?_
  rintro e w1 ⟨rfl, rfl⟩
  rw [hn]
  go_wp2_with fail
  refine (areValidRows _ _ _ _ _ rs HR.out).mono ?_
  rintro e w1 ⟨rfl, hb1⟩
  rw [HCC.out]
  have HB1 := Lib.hid hb1
  clear hb1 HCC HC hn
  go_wp2_with fail
  go_loopw [3, 4, 20] (fun q _ t wr => ∃ (i : Nat) (a : Option Addr) (n cap : Nat), i ≤ m ∧ t = .int .i64 i ∧ q = .slice a n cap ∧ Ths wr w.heap.size a n cap (coI rs i) ∧ Below w.heap.size w wr)
    (fun _ _ t _ => m - (intOf t).toNat)
  case atStart => exact ⟨0, none, 0, 0, Nat.zero_le _, rfl, rfl, ⟨ThRow.nil _ _, rfl⟩, HB1.out⟩
  case round =>
    clear HB1
    obtain ⟨i, a, n, cap, hi, rfl, rfl, hth, hbw⟩ := hrel
    have HB := Lib.hid hbw
    have HT := Lib.hid hth
    by_cases hlt : i < m
    · obtain ⟨g', hg', -, a0, a1, a2, a3⟩ := (HR.out.below hbw).at i hlt
      simp only [Option.some.injEq, Addr.mk.injEq, and_true] at hg'
      subst hg'
      obtain ⟨⟨px, py, pz, pu⟩, hp⟩ : ∃ q, cd rs i = q := ⟨_, rfl⟩
      rw [hp] at a0 a1 a2 a3
      dsimp only at a0 a1 a2 a3
      have HP := Lib.hid hp
      have hal := cd_al wr (.cells #[.int .i64 px, .int .i64 py, .int .i64 pz, .int .i64 pu] 25)
      have HBZ := Lib.hid (hbw.trans (hal.mono hbw.size))
      have HTZ := Lib.hid (hth.below hal)
      have HPZ := Lib.hid (rbox_alloc wr px py pz pu)
      have HNE := Lib.hid (ths_ne hth)
      have HBW := Lib.hid hbw.size
      have HNI := Lib.hid (coI_next rs i)
      clear hp hal hbw hth
      go_wp2_with fail
      rename World => wo
      go_loopw [3, 6] (fun q t w2 => ∃ (k : Nat) (a : Option Addr) (n cap : Nat), i < k ∧ k ≤ m ∧ t = .int .i64 k ∧ q = .slice a n cap ∧ Ths w2 w.heap.size a n cap (coK rs i (coI rs i) k) ∧ Below w.heap.size w w2 ∧ TBox w2 wo.heap.size px py pz pu ∧ some wo.heap.size ≠ (Value.slice a n cap).ownBlock)
        (fun _ t _ => m - (intOf t).toNat)
      case atStart => exact ⟨i + 1, a, n, cap, Nat.lt_succ_self _, hlt, by go_num, rfl, by rw [coK_low _ _ _ _ (Nat.le_refl _)]; exact HTZ.out, HBZ.out, HPZ.out, HNE.out⟩
      case round =>
        clear HTZ HBZ HPZ HNE a0 a1 a2 a3
        obtain ⟨k, a2, n2, cap2, hik, hkm, rfl, rfl, hth, hbw, htb, hne⟩ := hrel
        have HB2 := Lib.hid hbw
        have HT2 := Lib.hid hth
        have HTB := Lib.hid htb
        have HNE := Lib.hid hne
        clear hne htb hth
        by_cases hlt2 : k < m
        · have HK2 := Lib.hid (coK_next rs i (coI rs i) k hik)
          by_cases hmk : m = k + 1
          · have HM := Lib.hid (show coM rs i k (coK rs i (coI rs i) k) rs.length = coK rs i (coI rs i) k from coM_low _ _ _ _ _ (by rw [HN.out, hmk]; exact Nat.le_refl _))
            have hz : m - (k + 1) = 0 := by omega
            have hkm2 : k + 1 ≤ m := hlt2
            clear hbw hmk
            by_cases hrc : rc = k + 1
            · subst hrc
              go_wp2_with fail
              refine wp_loop_rounds 1 ?_
              rw [rounds_succ]
              go_wp2_with fail
              go_roundw
              case rel => exact ⟨k + 1, a2, n2, cap2, Nat.lt_succ_of_lt hik, hlt2, by go_num, rfl, by rw [HK2.out, HM.out]; exact HT2.out, HB2.out, HTB.out, HNE.out⟩
              case measure => simp [intOf]; omega
            · go_wp2_with fail
              refine wp_loop_rounds 1 ?_
              rw [rounds_succ]
              go_wp2_with fail
              go_roundw
              case rel => exact ⟨k + 1, a2, n2, cap2, Nat.lt_succ_of_lt hik, hlt2, by go_num, rfl, by rw [HK2.out, HM.out]; exact HT2.out, HB2.out, HTB.out, HNE.out⟩
              case measure => simp [intOf]; omega
          · have hrc : ¬ rc = k + 1 := by omega
            have hrc2 : k + 1 < rc := by omega
            clear hbw
            go_wp2_with fail
            obtain ⟨L2, hL2⟩ : ∃ L2, coK rs i (coI rs i) k = L2 := ⟨_, rfl⟩
            rw [hL2] at HK2 HT2
            have HLL := Lib.hid hL2
            have HLN := Lib.hid (show (coK rs i (coI rs i) k).length ≤ 8000 by
              have h1 := coK_len rs (coI rs i) i k
              have h2 := HVL.out i hi
              rw [HN.out] at h1 h2
              have h4 : m * m ≤ 20 * 20 := Nat.mul_le_mul (by omega) (by omega)
              have h5 : i * (m * m) ≤ 19 * (20 * 20) := Nat.mul_le_mul (by omega) h4
              have h6 : k * m ≤ 20 * 20 := Nat.mul_le_mul (by omega) (by omega)
              omega)
            rw [hL2] at HLN
            clear hL2
            rename World => w2
            go_loopw [3, 38] (fun q t w3 => ∃ (j : Nat) (a : Option Addr) (n cap : Nat), k + 1 + j ≤ m ∧ t = .int .i64 j ∧ q = .slice a n cap ∧ Ths w3 w.heap.size a n cap (coM rs i k L2 (k + 1 + j)) ∧ Below w.heap.size w w3 ∧ TBox w3 wo.heap.size px py pz pu ∧ some wo.heap.size ≠ (Value.slice a n cap).ownBlock)
              (fun _ t _ => m - (intOf t).toNat)
            case atStart => exact ⟨0, a2, n2, cap2, hlt2, rfl, rfl, by rw [coM_low _ _ _ _ _ (Nat.le_refl _)]; exact HT2.out, HB2.out, HTB.out, HNE.out⟩
            case round =>
              clear HT2 HB2 HTB HNE
              obtain ⟨j, a3', n3, cap3, hj, rfl, rfl, hth, hbw, htb, hne⟩ := hrel
              have HB3 := Lib.hid hbw
              have HT3 := Lib.hid hth
              have HTB3 := Lib.hid htb
              have HNE3 := Lib.hid hne
              have HM3 := Lib.hid (show coM rs i k L2 (k + 1 + j + 1) = coStep rs (coM rs i k L2 (k + 1 + j)) i k (k + 1 + j) from coM_next _ _ _ _ _ (by omega))
              by_cases hlt3 : k + 1 + j < m
              · obtain ⟨g', hg', -, r0, r1, r2, r3⟩ := (HR.out.below hbw).at (k + 1 + j) hlt3
                simp only [Option.some.injEq, Addr.mk.injEq, and_true] at hg'
                subst hg'
                obtain ⟨g', hg', -, k0, k1, k2, k3⟩ := (HR.out.below hbw).at k hlt2
                simp only [Option.some.injEq, Addr.mk.injEq, and_true] at hg'
                subst hg'
                rw [show (k + 1 + j) * 4 = (k + 1) * 4 + j * 4 by omega] at r0 r1 r2 r3
                obtain ⟨⟨rx, ry, rz, ru⟩, hrq⟩ : ∃ q, cd rs (k + 1 + j) = q := ⟨_, rfl⟩
                rw [hrq] at r0 r1 r2 r3
                obtain ⟨⟨kx, ky, kz, ku⟩, hkq⟩ : ∃ q, cd rs k = q := ⟨_, rfl⟩
                rw [hkq] at k0 k1 k2 k3
                dsimp only at r0 r1 r2 r3 k0 k1 k2 k3
                have HST := Lib.hid (show coAdd rs (coM rs i k L2 (k + 1 + j)) (px, py, pz, pu) (kx, ky, kz, ku) (rx, ry, rz, ru) = coM rs i k L2 (k + 1 + j + 1) by
                  rw [HM3.out, ← coAdd_step, HP.out, hkq, hrq])
                have HN3 := Lib.hid (show n3 ≤ 1000000 by
                  have h1 := coM_len rs L2 i k (k + 1 + j)
                  have h2 := HLN.out
                  have h4 := hth.2
                  omega)
                have hal := cd_al wr (.cells #[.int .i64 rx, .int .i64 ry, .int .i64 rz, .int .i64 ru] 25)
                have HBW3 := Lib.hid (tbelowD (hbw.trans (hal.mono hbw.size)))
                have HTW := Lib.hid (show Ths (wr.alloc (.cells #[.int .i64 rx, .int .i64 ry, .int .i64 rz, .int .i64 ru] 25)).drew w.heap.size a3' n3 cap3 (coM rs i k L2 (k + 1 + j)) from ⟨World.ownsRow.drew (hth.below hal).1, hth.2⟩)
                have HRW := Lib.hid (show Cds (wr.alloc (.cells #[.int .i64 rx, .int .i64 ry, .int .i64 rz, .int .i64 ru] 25)).drew B (some ⟨g, 0, none⟩) m rc rs from ⟨World.ownsRow.drew ((HR.out.below hbw).below hal).1, HR.out.2⟩)
                have HTBW := Lib.hid (htb.below hal)
                have HZW := Lib.hid (show wo.heap.size < (wr.alloc (.cells #[.int .i64 rx, .int .i64 ry, .int .i64 rz, .int .i64 ru] 25)).heap.size from cell_block_lt (htb.below hal).1)
                have q0 := tcell k0 hal
                have q1 := tcell k1 hal
                have q2 := tcell k2 hal
                have q3 := tcell k3 hal
                obtain ⟨b0, b1, b2, b3⟩ := rbox_alloc wr rx ry rz ru
                obtain ⟨p0, p1, p2, p3⟩ := id HTBW.out
                clear hbw hth hne hal htb hrq hkq k0 k1 k2 k3
                go_wp2_with fail
                generalize hW : wr.alloc (.cells #[.int .i64 rx, .int .i64 ry, .int .i64 rz, .int .i64 ru] 25) = W at *
                clear hW r0 r1 r2 r3
                go_still_tail 9, (by kernel_rfl)
                change wpList _ _ _ _ _ W.drew
                go_wp2_with fail
                refine (appendCorner _ _ _ _ _ _ _ _ _ _ rs _ _ _ _ _ _ _ _ _ _ _ _ HTW.out HBW3.out.size HN3.out HRW.out HOK.out).mono ?_
                rintro e w4 ⟨v', rfl, hrow, hg, hown⟩
                rw [HST.out] at hrow
                obtain ⟨a4, n4, cap4, rfl, hth4⟩ := thsOf hrow
                have HT4 := Lib.hid hth4
                have HB4 := Lib.hid (below_grown HBW3.out hg HBW3.out.size (fun x hx => (World.ownsRow.lt HTW.out.1 x hx).1))
                have HTB4 : RowKit.Hid (TBox w4 wo.heap.size px py pz pu) := Lib.hid ⟨(hg.cell_far _ HZW.out HNE3.out).trans p0, (hg.cell_far _ HZW.out HNE3.out).trans p1, (hg.cell_far _ HZW.out HNE3.out).trans p2, (hg.cell_far _ HZW.out HNE3.out).trans p3⟩
                have HNE4 : RowKit.Hid (some wo.heap.size ≠ (Value.slice a4 n4 cap4).ownBlock) := Lib.hid (by
                  rcases hown with h | ⟨y, h, hy⟩
                  · rw [h]; exact HNE3.out
                  · rw [h]; intro he; have hz := HZW.out; simp only [Option.some.injEq] at he; have hy' : W.heap.size ≤ y := hy; omega)
                clear hrow hg hown hth4 p0 p1 p2 p3 b0 b1 b2 b3 q0 q1 q2 q3
                go_wp2_with fail
                go_roundw
                case rel => exact ⟨j + 1, a4, n4, cap4, by omega, by go_num, rfl, HT4.out, HB4.out, HTB4.out, HNE4.out⟩
                case measure => simp [intOf]; omega
              · have hjm : k + 1 + j = m := by omega
                have HE := Lib.hid (show coM rs i k L2 (k + 1 + j) = coK rs i (coI rs i) (k + 1) by rw [HK2.out, HN.out, hjm])
                have hjz : j = m - (k + 1) := by omega
                have HJ := Lib.hid hjz
                have hnl : ¬ (j < m - (k + 1)) := by omega
                clear hbw hth hne htb hjm hjz
                go_wp2_with fail
                go_roundw
                case rel => exact ⟨k + 1, a3', n3, cap3, Nat.lt_succ_of_lt hik, hlt2, by go_num, rfl, by rw [← HE.out]; exact HT3.out, HB3.out, HTB3.out, HNE3.out⟩
                case measure => simp [intOf]; omega
        · have hkm2 : k = m := by omega
          have HE := Lib.hid (show coK rs i (coI rs i) k = coI rs (i + 1) by rw [HNI.out, HN.out, hkm2])
          have hnl : ¬ (k < m) := hlt2
          clear hbw hkm2
          go_wp2_with fail
          go_roundw
          case rel => exact ⟨i + 1, a2, n2, cap2, hlt, by go_num, rfl, by rw [← HE.out]; exact HT2.out, HB2.out⟩
          case measure => simp [intOf]; omega
    · have him : i = m := by omega
      have HE := Lib.hid (show coV rs = coI rs i by rw [HV.out, him])
      clear hbw hth him
      go_wp2_with fail
      go_ret
      exact ⟨_, rfl, by rw [HE.out]; exact HT.out.2 ▸ HT.out.1, HB.out⟩
end Go.Proofs.Ytdaiffaedejnbaa
