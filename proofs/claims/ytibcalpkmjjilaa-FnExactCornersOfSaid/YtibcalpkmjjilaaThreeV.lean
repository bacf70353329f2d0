/- Corners: the contract of the program's cornersFrom. By program (gen_from.py). -/
import Derived.Test.YtibcalpkmjjilaaThreeF
import Derived.Test.YtibcalpkmjjilaaThreeU
import Derived.Test.YtibcalpkmjjilaaThrustX
import Derived.Deep.CutRange
namespace Go.Proofs.Ytibcalpkmjjilaa
set_option maxRecDepth 100000
open Go.ChangeShapes Go.WideShapes Go.ChangeAt Go.RowKit

theorem rbox_new (w : World) (h v m d : Int) : TBox (w.alloc (.cells #[.int .i64 h, .int .i64 v, .int .i64 m, .int .i64 d] 25)) w.heap.size h v m d := by
  refine ⟨?_, ?_, ?_, ?_⟩ <;> go_simp
set_option maxRecDepth 100000 in
set_option maxHeartbeats 8000000 in
theorem cornersFrom (w : World) (B : Nat) (ra : Option Addr) (m rc i : Nat) (rs : List Cd) (hr : Cds w B ra m rc rs) (hi : i < m) (hm : m ≤ 20) :
    Calls Try.prog 51 #[.slice ra m rc, .int .i64 i] w fun e w' => ∃ v, e = .returned v ∧ ThRow w' w.heap.size v (cfV rs i) ∧ Below w.heap.size w w' := by
  obtain ⟨i0, hi0, hz0, hz1, hz2⟩ := info_parts Try.infoTr
  obtain ⟨hnc, hcm⟩ := hr.cap
  unfold maxLen at hcm
  have HN := Lib.hid hr.2
  have HR := Lib.hid hr
  obtain ⟨g, rfl, -⟩ := hr.at 0 (by omega)
  clear hr
  go_enter Try.func51, Try.ntmps51
  go_wp2_with fail
  go_loopw [5, 6] (fun q t w2 => ∃ (k : Nat) (a : Option Addr) (n cap : Nat), i < k ∧ k ≤ m ∧ t = .int .i64 k ∧ q = .slice a n cap ∧ Ths w2 w.heap.size a n cap (cfK rs i k) ∧ Below w.heap.size w w2)
    (fun _ t _ => m - (intOf t).toNat)
  case atStart => exact ⟨i + 1, none, 0, 0, Nat.lt_succ_self _, hi, by go_num, rfl, by rw [cfK_low _ _ _ (Nat.le_refl _)]; exact ⟨ThRow.nil _ _, rfl⟩, Below.refl _ _⟩
  case round =>
    obtain ⟨k, a2, n2, cap2, hik, hkm, rfl, rfl, hth, hbw⟩ := hrel
    have HB := Lib.hid hbw
    have HT := Lib.hid hth
    clear hth
    by_cases hltk : k < m
    · have HK2 := Lib.hid (cfK_next rs i k hik)
      by_cases hmk : m = k + 1
      · have HM := Lib.hid (show cfM rs i k (cfK rs i k) rs.length = cfK rs i k from cfM_low _ _ _ _ _ (by rw [HN.out, hmk]; exact Nat.le_refl _))
        have hz : m - (k + 1) = 0 := by omega
        have hkm2 : k + 1 ≤ m := hltk
        clear hbw hmk
        by_cases hrc : rc = k + 1
        · subst hrc
          go_wp2_with fail
          refine wp_loop_rounds 1 ?_
          rw [rounds_succ]
          go_wp2_with fail
          go_roundw
          case rel => exact ⟨k + 1, a2, n2, cap2, Nat.lt_succ_of_lt hik, hltk, by go_num, rfl, by rw [HK2.out, HM.out]; exact HT.out, HB.out⟩
          case measure => simp [intOf]; omega
        · go_wp2_with fail
          refine wp_loop_rounds 1 ?_
          rw [rounds_succ]
          go_wp2_with fail
          go_roundw
          case rel => exact ⟨k + 1, a2, n2, cap2, Nat.lt_succ_of_lt hik, hltk, by go_num, rfl, by rw [HK2.out, HM.out]; exact HT.out, HB.out⟩
          case measure => simp [intOf]; omega
      · have hrc : ¬ rc = k + 1 := by omega
        have hrc2 : k + 1 < rc := by omega
        clear hbw
        go_wp2_with fail
        obtain ⟨L2, hL2⟩ : ∃ L2, cfK rs i k = L2 := ⟨_, rfl⟩
        have HLN := Lib.hid (show (cfK rs i k).length ≤ 400 by
          have h1 := cfK_len rs i k
          rw [HN.out] at h1
          have h6 : k * m ≤ 20 * 20 := Nat.mul_le_mul (by omega) (by omega)
          omega)
        rw [hL2] at HK2 HT HLN
        clear hL2
        rename World => w2
        go_loopw [5, 24] (fun q t w3 => ∃ (j : Nat) (a : Option Addr) (n cap : Nat), k + 1 + j ≤ m ∧ t = .int .i64 j ∧ q = .slice a n cap ∧ Ths w3 w.heap.size a n cap (cfM rs i k L2 (k + 1 + j)) ∧ Below w.heap.size w w3)
          (fun _ t _ => m - (intOf t).toNat)
        case atStart => exact ⟨0, a2, n2, cap2, hltk, rfl, rfl, by rw [cfM_low _ _ _ _ _ (Nat.le_refl _)]; exact HT.out, HB.out⟩
        case round =>
          clear HT HB
          obtain ⟨j, a3, n3, cap3, hj, rfl, rfl, hth, hbw⟩ := hrel
          have HB := Lib.hid hbw
          have HT := Lib.hid hth
          have HLT := Lib.hid hth.2
          clear hth
          by_cases hltj : k + 1 + j < m
          · obtain ⟨g', hg', -, p0, p1, p2, p3⟩ := (HR.out.below hbw).at i hi
            simp only [Option.some.injEq, Addr.mk.injEq, and_true] at hg'
            subst hg'
            obtain ⟨⟨px, py, pz, pu⟩, hpq⟩ : ∃ q, cd rs i = q := ⟨_, rfl⟩
            rw [hpq] at p0 p1 p2 p3
            dsimp only at p0 p1 p2 p3
            obtain ⟨g', hg', -, q0, q1, q2, q3⟩ := (HR.out.below hbw).at k hltk
            simp only [Option.some.injEq, Addr.mk.injEq, and_true] at hg'
            subst hg'
            obtain ⟨⟨qx, qy, qz, qu⟩, hqq⟩ : ∃ q, cd rs k = q := ⟨_, rfl⟩
            rw [hqq] at q0 q1 q2 q3
            dsimp only at q0 q1 q2 q3
            obtain ⟨g', hg', -, r0, r1, r2, r3⟩ := (HR.out.below hbw).at (k + 1 + j) hltj
            simp only [Option.some.injEq, Addr.mk.injEq, and_true] at hg'
            subst hg'
            rw [show (k + 1 + j) * 4 = (k + 1) * 4 + j * 4 by omega] at r0 r1 r2 r3
            obtain ⟨⟨rx, ry, rz, ru⟩, hrq⟩ : ∃ q, cd rs (k + 1 + j) = q := ⟨_, rfl⟩
            rw [hrq] at r0 r1 r2 r3
            dsimp only at r0 r1 r2 r3
            have HST := Lib.hid (show cfM rs i k L2 (k + 1 + j + 1) = cfAdd rs (cfM rs i k L2 (k + 1 + j)) (px, py, pz, pu) (qx, qy, qz, qu) (rx, ry, rz, ru) by rw [cfM_next _ _ _ _ _ (by omega), hpq, hqq, hrq])
            have HN3 := Lib.hid (show n3 ≤ 1000000 by have h1 := cfM_len rs L2 i k (k + 1 + j); have h2 := HLN.out; have h4 := HLT.out; omega)
            clear hpq hqq hrq
            have HS := Lib.hid (fun w => implSolveRows px py pz pu qx qy qz qu rx ry rz ru w)
            rw [show slvV (px, py, pz, pu) (qx, qy, qz, qu) (rx, ry, rz, ru) = .tuple #[.agg #[.int .i64 (soT (px, py, pz, pu) (qx, qy, qz, qu) (rx, ry, rz, ru)).1, .int .i64 (soT (px, py, pz, pu) (qx, qy, qz, qu) (rx, ry, rz, ru)).2.1, .int .i64 (soT (px, py, pz, pu) (qx, qy, qz, qu) (rx, ry, rz, ru)).2.2.1, .int .i64 (soT (px, py, pz, pu) (qx, qy, qz, qu) (rx, ry, rz, ru)).2.2.2], .bool (soB (px, py, pz, pu) (qx, qy, qz, qu) (rx, ry, rz, ru))] from rfl] at HS
            have HA := Lib.hid (cfAdd_no (rs := rs) (l := cfM rs i k L2 (k + 1 + j)) (p := (px, py, pz, pu)) (q := (qx, qy, qz, qu)) (r := (rx, ry, rz, ru)))
            have HC := Lib.hid (cfAdd_ful (rs := rs) (l := cfM rs i k L2 (k + 1 + j)) (p := (px, py, pz, pu)) (q := (qx, qy, qz, qu)) (r := (rx, ry, rz, ru)))
            have HY := Lib.hid (cfAdd_yes (rs := rs) (l := cfM rs i k L2 (k + 1 + j)) (p := (px, py, pz, pu)) (q := (qx, qy, qz, qu)) (r := (rx, ry, rz, ru)))
            obtain ⟨⟨th, tv, tm, td⟩, ht⟩ : ∃ t, soT (px, py, pz, pu) (qx, qy, qz, qu) (rx, ry, rz, ru) = t := ⟨_, rfl⟩
            obtain ⟨o, ho⟩ : ∃ o, soB (px, py, pz, pu) (qx, qy, qz, qu) (rx, ry, rz, ru) = o := ⟨_, rfl⟩
            rw [ht, ho] at HS
            rw [ht] at HC HY
            rw [ho] at HA HY
            rw [← HST.out] at HA HC HY
            dsimp only at HS HC HY
            clear ht ho HST
            obtain ⟨L3, hL3⟩ : ∃ L3, cfM rs i k L2 (k + 1 + j) = L3 := ⟨_, rfl⟩
            rw [hL3] at HT HLT HA HC HY
            clear hL3
            have hal := cd_al wr (.cells #[.int .i64 rx, .int .i64 ry, .int .i64 rz, .int .i64 ru] 25)
            have HBZ := Lib.hid (HB.out.trans (hal.mono HB.out.size))
            have HTZ := Lib.hid (HT.out.below hal)
            replace p0 := tcell p0 hal
            replace p1 := tcell p1 hal
            replace p2 := tcell p2 hal
            replace p3 := tcell p3 hal
            replace q0 := tcell q0 hal
            replace q1 := tcell q1 hal
            replace q2 := tcell q2 hal
            replace q3 := tcell q3 hal
            obtain ⟨b0, b1, b2, b3⟩ := rbox_new wr rx ry rz ru
            go_upto_region 8 with fail
            generalize hW : wr.alloc (.cells #[.int .i64 rx, .int .i64 ry, .int .i64 rz, .int .i64 ru] 25) = W at *
            obtain ⟨bx, hbx⟩ : ∃ bx, wr.heap.size = bx := ⟨_, rfl⟩
            rw [hbx] at b0 b1 b2 b3 ⊢
            clear hW hbx hal hbw r0 r1 r2 r3 HB HT
            have F0 := Lib.hid (fun (U : World) (hU : Below W.heap.size W U) => (⟨tcell p0 hU, tcell p1 hU, tcell p2 hU, tcell p3 hU, tcell q0 hU, tcell q1 hU, tcell q2 hU, tcell q3 hU, tcell b0 hU, tcell b1 hU, tcell b2 hU, tcell b3 hU⟩ : U.cell? ⟨g, i * 4, none⟩ = some (.int .i64 px) ∧ U.cell? ⟨g, i * 4 + 1, none⟩ = some (.int .i64 py) ∧ U.cell? ⟨g, i * 4 + 2, none⟩ = some (.int .i64 pz) ∧ U.cell? ⟨g, i * 4 + 3, none⟩ = some (.int .i64 pu) ∧ U.cell? ⟨g, k * 4, none⟩ = some (.int .i64 qx) ∧ U.cell? ⟨g, k * 4 + 1, none⟩ = some (.int .i64 qy) ∧ U.cell? ⟨g, k * 4 + 2, none⟩ = some (.int .i64 qz) ∧ U.cell? ⟨g, k * 4 + 3, none⟩ = some (.int .i64 qu) ∧ U.cell? ⟨bx, 0, none⟩ = some (.int .i64 rx) ∧ U.cell? ⟨bx, 1, none⟩ = some (.int .i64 ry) ∧ U.cell? ⟨bx, 2, none⟩ = some (.int .i64 rz) ∧ U.cell? ⟨bx, 3, none⟩ = some (.int .i64 ru)))
            have ZZ := Lib.hid (Below.refl W.heap.size W)
            have c1 := Nat.ne_of_lt (cell_block_lt p0)
            dsimp only at c1
            have c2 := Ne.symm c1
            have c3 := Nat.ne_of_lt (cell_block_lt b0)
            dsimp only at c3
            have c4 := Ne.symm c3
            go_cut [9, 10] from 25 to 40 (fun p q wx => ∃ b : Nat, p = .pointer (some ⟨b, 0, none⟩) ∧ q = .bool o ∧ TBox wx b th tv tm td ∧ Below W.heap.size W wx)
            case first =>
              go_region_held3 (fun w' => w'.cell? ⟨g, i * 4, none⟩ = some (.int .i64 px) ∧ w'.cell? ⟨g, i * 4 + 1, none⟩ = some (.int .i64 py) ∧ w'.cell? ⟨g, i * 4 + 2, none⟩ = some (.int .i64 pz) ∧ w'.cell? ⟨g, i * 4 + 3, none⟩ = some (.int .i64 pu) ∧ w'.cell? ⟨g, k * 4, none⟩ = some (.int .i64 qx) ∧ w'.cell? ⟨g, k * 4 + 1, none⟩ = some (.int .i64 qy) ∧ w'.cell? ⟨g, k * 4 + 2, none⟩ = some (.int .i64 qz) ∧ w'.cell? ⟨g, k * 4 + 3, none⟩ = some (.int .i64 qu) ∧ w'.cell? ⟨bx, 0, none⟩ = some (.int .i64 rx) ∧ w'.cell? ⟨bx, 1, none⟩ = some (.int .i64 ry) ∧ w'.cell? ⟨bx, 2, none⟩ = some (.int .i64 rz) ∧ w'.cell? ⟨bx, 3, none⟩ = some (.int .i64 ru))
                (first | (exact F0.out _ ZZ.out) | (exact F0.out _ (tbelowD ZZ.out)) | (exact F0.out _ (below_drewN ZZ.out _)) | (exact F0.out _ (cal ZZ.out _)) | (exact F0.out _ (cal (tbelowD ZZ.out) _)) | (exact F0.out _ (cal (below_drewN ZZ.out _) _)) | (exact F0.out _ (tbelowD (cal ZZ.out _))) | (refine ⟨?_, ?_, ?_, ?_, ?_, ?_, ?_, ?_, ?_, ?_, ?_, ?_⟩ <;> exact tcell_sf (by assumption) (by assumption)) | go_keep | trivial)
                ((go_at_call 8; refine (HS.out _).mono ?_; rintro e y ⟨rfl, hy⟩; (first | (have z := ft_dal hy) | (have z := ft_al hy) | skip); have ZZ : RowKit.Hid (Below W.heap.size W y) := Lib.hid (by first | exact cstep ZZ hy | exact cstepD ZZ hy | exact cstepA ZZ hy | exact cstepDA ZZ hy); clear hy; have sz := ZZ.out.size; obtain ⟨p0, p1, p2, p3, q0, q1, q2, q3, b0, b1, b2, b3⟩ := F0.out _ ZZ.out; have c1 := Nat.ne_of_lt (cell_block_lt p0); dsimp only at c1; have c2 := Ne.symm c1; have c3 := Nat.ne_of_lt (cell_block_lt b0); dsimp only at c3; have c4 := Ne.symm c3; (try (obtain ⟨zc, zd, ze, zh, zf, zl⟩ := z))))
              all_goals
                go_wp2_with fail
                go_meet
                refine ⟨_, rfl, rfl, ⟨by first | (go_simp; done) | (go_keep; done), by first | (go_simp; done) | (go_keep; done), by first | (go_simp; done) | (go_keep; done), by first | (go_simp; done) | (go_keep; done)⟩, ?_⟩
                first
                  | (with_reducible exact ZZ.out)
                  | (with_reducible exact cal ZZ.out _)
                  | (with_reducible exact tbelowD (cal ZZ.out _))
                  | (with_reducible exact cal (tbelowD ZZ.out) _)
                  | (iterate 4 (with_reducible refine Below.setCell ?_ (by first | exact Nat.le_refl _ | with_reducible assumption | omega) _)); with_reducible exact ZZ.out
            case rest =>
              obtain ⟨b, rfl, rfl, htb, hbx⟩ := hcut
              have HB4 := Lib.hid (HBZ.out.trans (hbx.mono HBZ.out.size))
              have HT4 := Lib.hid (HTZ.out.below hbx)
              have HTB := Lib.hid htb
              clear hbx htb F0 ZZ HBZ HTZ HS c1 c2 c3 c4 p0 p1 p2 p3 q0 q1 q2 q3 b0 b1 b2 b3
              cases o
              · have HX := Lib.hid (HA.out (by first | rfl | trivial))
                go_wp2_with fail
                go_roundw
                case rel => exact ⟨j + 1, a3, n3, cap3, hltj, by go_num, rfl, by rw [show k + 1 + (j + 1) = k + 1 + j + 1 from rfl, HX.out]; exact HT4.out, HB4.out⟩
                case measure => simp [intOf]; omega
              obtain ⟨t0, t1, t2, t3⟩ := id HTB.out
              have HRR := Lib.hid (HR.out.below HB4.out)
              go_wp2_with fail
              refine (implFulfillsAll _ _ _ _ _ _ _ _ _ rs HRR.out).mono ?_
              rintro e w5 ⟨rfl, hb5⟩
              have HB5 := Lib.hid (HB4.out.trans (hb5.mono HB4.out.size))
              have HT5 := Lib.hid (HT4.out.below hb5)
              have HTB5 := Lib.hid (HTB.out.below hb5)
              clear hb5 HB4 HT4 HTB HRR t0 t1 t2 t3
              cases hf : fulAll th tv tm td rs
              · have HX := Lib.hid (HC.out hf)
                clear hf
                go_wp2_with fail
                go_roundw
                case rel => exact ⟨j + 1, a3, n3, cap3, hltj, by go_num, rfl, by rw [show k + 1 + (j + 1) = k + 1 + j + 1 from rfl, HX.out]; exact HT5.out, HB5.out⟩
                case measure => simp [intOf]; omega
              have HX := Lib.hid (HY.out (by first | rfl | trivial) hf)
              clear hf
              have hwz := HB5.out.size
              obtain ⟨hcc3, hcm3⟩ := HT5.out.cap
              unfold maxLen at hcm3
              have hn3 := HN3.out
              have HO := Lib.hid (show w5.ownsRow w.heap.size 29 4 (.slice a3 n3 cap3) n3 (flat4 L3) from by have := HT5.out.1; unfold ThRow at this; rwa [HLT.out] at this)
              obtain ⟨t0, t1, t2, t3⟩ := id HTB5.out
              go_wp2_with (at_builtin; refine wpList_append_lies _ rfl _ _ _ rfl w.heap.size 29 i0 _ 4 32 Try.underlying45 hi0 hz0 hz1 hz2 rfl (by omega) (.slice a3 n3 cap3) n3 (flat4 L3) (by rfl) (World.ownsRow.alloc HO.out _) ⟨w5.heap.size, 0, none⟩ 1 1 [.int .i64 th, .int .i64 tv, .int .i64 tm, .int .i64 td] (by rfl) (by rfl) (World.news_of_block (cs := #[.int .i64 th, .int .i64 tv, .int .i64 tm, .int .i64 td]) (t := 29) (fr := (0, 0)) (heap_alloc_new w5 _)) (by simp [Value.oneCell']) (by omega) (by unfold maxLen; omega) (by omega) (by first | omega | (simp; omega)) (w5.heap.size + 1) (by simp) ?_; intro gg cp w9 hown9 hgrow9 hat9 hgl9; have HO9 := Lib.hid hown9; have HG9 := Lib.hid hgrow9; clear hown9 hgrow9 hat9 hgl9 t0 t1 t2 t3)
              have HB9 := Lib.hid (below_rowed (HB5.out.alloc HB5.out.size _) HG9.out (by simp; omega) (fun y hy => (World.ownsRow.lt HO.out y hy).1))
              have HT9 : RowKit.Hid (Ths w9 w.heap.size (some ⟨gg, 0, none⟩) (n3 + 1) cp (cfM rs i k L2 (k + 1 + j + 1))) := Lib.hid (by
                rw [HX.out]
                refine ⟨?_, by rw [List.length_append, HLT.out]; rfl⟩
                unfold ThRow
                rw [flat4_one, List.length_append, HLT.out]
                exact HO9.out)
              go_roundw
              case rel => exact ⟨j + 1, _, _, _, hltj, by go_num, rfl, HT9.out, HB9.out⟩
              case measure => simp [intOf]; omega
          · have hjm : k + 1 + j = m := by omega
            have HE := Lib.hid (show cfM rs i k L2 (k + 1 + j) = cfK rs i (k + 1) by rw [HK2.out, HN.out, hjm])
            have hjz : j = m - (k + 1) := by omega
            have hnl : ¬ (j < m - (k + 1)) := by omega
            clear hbw hjm hjz
            go_wp2_with fail
            go_roundw
            case rel => exact ⟨k + 1, a3, n3, cap3, Nat.lt_succ_of_lt hik, hltk, by go_num, rfl, by rw [← HE.out]; exact HT.out, HB.out⟩
            case measure => simp [intOf]; omega
    · have hke : k = m := by omega
      have HE := Lib.hid (show cfV rs i = cfK rs i k by unfold cfV; rw [HN.out, hke])
      have hnl : ¬ (k < m) := hltk
      clear hbw hke
      go_wp2_with fail
      go_ret
      exact ⟨_, rfl, by rw [HE.out]; exact HT.out.2 ▸ HT.out.1, HB.out⟩
end Go.Proofs.Ytibcalpkmjjilaa
