/- Corners: the contract of the model's CornersOf. -/
import Derived.Test.YtbmlcfdilopmgaaThreeS
import Derived.Test.YtbmlcfdilopmgaaGCorner
import Derived.Test.YtbmlcfdilopmgaaThrustX
import Derived.Test.YtbmlcfdilopmgaaGCond
import Derived.Deep.CutRange
namespace Go.Proofs.Ytbmlcfdilopmgaa
set_option maxRecDepth 100000
open Go.ChangeShapes Go.WideShapes Go.ChangeAt Go.RowKit

theorem th_empty (w : World) (B : Nat) (hB : B ≤ w.heap.size) : Ths (w.alloc (.cells #[] 31)) B (some ⟨w.heap.size, 0, none⟩) 0 0 [] :=
  ⟨World.ownsRow_lit (base := B) (e := 31) (size := 4) w #[] 0 hB (Nat.zero_le _) rfl, rfl⟩
/-- A thrust fulfills a row, by its products. -/
def coHAt (rs : List Cd) (t : Cd) (x : Nat) : Bool := cdH t.1 t.2.1 t.2.2.1 t.2.2.2 (cd rs x).1 (cd rs x).2.1 (cd rs x).2.2.1 (cd rs x).2.2.2
theorem coH_at (rs : List Cd) (t : Cd) : coH rs t = allV rs.length (coHAt rs t) := rfl
theorem coOk_at {rs : List Cd} (h : coOk rs = true) (x : Nat) (hx : x < rs.length) : cdOk (cd rs x).1 (cd rs x).2.1 (cd rs x).2.2.1 (cd rs x).2.2.2 = true := by
  unfold coOk at h
  rw [Bool.and_eq_true] at h
  exact allV_iff.1 h.1 x hx

set_option maxRecDepth 100000 in
set_option maxHeartbeats 4000000 in
/-- The inmost loop: whether a thrust fulfills all rows. The other loops. -/
theorem specCornersOf (w : World) (B : Nat) (ra : Option Addr) (m rc : Nat) (rs : List Cd) (hr : Cds w B ra m rc rs) :
    Calls Try.prog 52 #[.slice ra m rc] w fun e w' => ∃ v, e = .returned v ∧ ThRow w' w.heap.size v (coV rs) ∧ Below w.heap.size w w' := by
  obtain ⟨i0, hi0, hz0, hz1, hz2⟩ := info_parts Try.infoTr
  obtain ⟨hnc, hcm⟩ := hr.cap
  unfold maxLen at hcm
  have HN := Lib.hid hr.2
  have hal := cd_al w (.cells #[] 31)
  have HR := Lib.hid hr
  have HB0 := Lib.hid hal
  have HE0 := Lib.hid (th_empty w w.heap.size (Nat.le_refl _))
  have HOKV := Lib.hid (show cdsOk rs = allFrom m 0 (cdOkAt rs) by unfold cdsOk; rw [hr.2]; rfl)
  have HVC := Lib.hid (fun (hc : cdsOk rs = false) => coV_no (coOk_c hc))
  have HLI := Lib.hid (fun w => l01InR (m : Int) 3 20 w)
  clear hr hal
  go_enter Try.func52, Try.ntmps52
  go_wp2_with fail
  go_loopw [4] (fun t wr => ∃ k : Nat, k ≤ m ∧ t = .int .i64 k ∧ allFrom m k (cdOkAt rs) = allFrom m 0 (cdOkAt rs) ∧ Below w.heap.size w wr ∧ Ths wr w.heap.size (some ⟨w.heap.size, 0, none⟩) 0 0 [])
    (fun t _ => m - (intOf t).toNat)
  case atStart => exact ⟨0, Nat.zero_le _, rfl, rfl, HB0.out, HE0.out⟩
  case round =>
    clear HB0 HE0
    obtain ⟨k, hk, rfl, hall, hbw, hth⟩ := hrel
    have HB := Lib.hid hbw
    have HA := Lib.hid hall
    have HT := Lib.hid hth
    clear hall hth
    by_cases hlt : k < m
    · obtain ⟨g, rfl, -, a0, a1, a2, a3⟩ := (HR.out.below hbw).at k hlt
      have HP := Lib.hid (show cdOkAt rs k = cdOk (cd rs k).1 (cd rs k).2.1 (cd rs k).2.2.1 (cd rs k).2.2.2 from rfl)
      generalize (cd rs k).1 = x at *
      generalize (cd rs k).2.1 = y at *
      generalize (cd rs k).2.2.1 = z at *
      generalize (cd rs k).2.2.2 = u at *
      have HC := Lib.hid (fun w => specRowOk x y z u w)
      clear hbw
      cases hf : cdOk x y z u
      · have HX := Lib.hid (HVC.out (by rw [HOKV.out, ← HA.out]; exact allFrom_no hlt (HP.out.trans hf)))
        go_wp2_with fail
        refine (HC.out _).mono ?_
        rintro e w5 ⟨rfl, hb5⟩
        rw [hf]
        have HB5 := Lib.hid (HB.out.trans (hb5.mono HB.out.size))
        have HT5 := Lib.hid (HT.out.below hb5)
        clear hb5
        go_wp2_with fail
        go_ret
        exact ⟨_, rfl, by rw [HX.out]; exact HT5.out.1, HB5.out⟩
      · have HX := Lib.hid (show allFrom m (k + 1) (cdOkAt rs) = allFrom m 0 (cdOkAt rs) by rw [← HA.out]; exact allFrom_yes hlt (HP.out.trans hf))
        go_wp2_with fail
        refine (HC.out _).mono ?_
        rintro e w5 ⟨rfl, hb5⟩
        rw [hf]
        have HB5 := Lib.hid (HB.out.trans (hb5.mono HB.out.size))
        have HT5 := Lib.hid (HT.out.below hb5)
        clear hb5
        go_wp2_with fail
        go_roundw
        case rel => exact ⟨k + 1, by omega, by go_num, HX.out, HB5.out, HT5.out⟩
        case measure => simp [intOf]; omega
    · have hkm : k = m := by omega
      have HOK := Lib.hid (show cdsOk rs = true by rw [HOKV.out, ← HA.out, hkm, allFrom_end])
      have hnl : ¬ (k < m) := hlt
      clear hbw hkm HA
      go_wp2_with fail
      refine (HLI.out _).mono ?_
      rintro e w5 ⟨rfl, rfl⟩
      cases hn : inR (m : Int) 3 20
      · have HX := Lib.hid (coV_no (coOk_n HN.out hn))
        go_wp2_with fail
        go_ret
        exact ⟨_, rfl, by rw [HX.out]; exact HT.out.1, HB.out⟩
      have hok := coOk_of HN.out hn HOK.out
      have HOKR := Lib.hid (fun x (hx : x < m) => coOk_at hok x (by rw [HN.out]; exact hx))
      have HV := Lib.hid (show coV rs = coI rs m by rw [coV_yes hok, HN.out])
      have HVL := Lib.hid (fun k (hk : k ≤ m) => coI_len rs k)
      have h3 := inR_iff.1 hn
      obtain ⟨g, rfl, -⟩ := HR.out.at 0 (by omega)
      clear hok hn HOKV HVC HLI HOK
      go_wp2_with fail
      rename World => w0
      go_loopw [3, 5] (fun q t wr => ∃ (i : Nat) (a : Option Addr) (n cap : Nat), i ≤ m ∧ t = .int .i64 i ∧ q = .slice a n cap ∧ Ths wr w.heap.size a n cap (coI rs i) ∧ Below w.heap.size w wr)
        (fun _ t _ => m - (intOf t).toNat)
      case atStart => exact ⟨0, _, 0, 0, Nat.zero_le _, rfl, rfl, HT.out, HB.out⟩
      case round =>
        clear HT HB
        obtain ⟨i, a, n, cap, hi, rfl, rfl, hth, hbw⟩ := hrel
        have HB := Lib.hid hbw
        have HT := Lib.hid hth
        clear hbw hth
        by_cases hlti : i < m
        · have HNI := Lib.hid (coI_next rs i)
          go_wp2_with fail
          rename World => w1
          go_loopw [3, 6] (fun q t w2 => ∃ (k : Nat) (a : Option Addr) (n cap : Nat), i < k ∧ k ≤ m ∧ t = .int .i64 k ∧ q = .slice a n cap ∧ Ths w2 w.heap.size a n cap (coK rs i (coI rs i) k) ∧ Below w.heap.size w w2)
            (fun _ t _ => m - (intOf t).toNat)
          case atStart => exact ⟨i + 1, a, n, cap, Nat.lt_succ_self _, hlti, by go_num, rfl, by rw [coK_low _ _ _ _ (Nat.le_refl _)]; exact HT.out, HB.out⟩
          case round =>
            clear HT HB
            obtain ⟨k, a2, n2, cap2, hik, hkm, rfl, rfl, hth, hbw⟩ := hrel
            have HB := Lib.hid hbw
            have HT := Lib.hid hth
            clear hbw hth
            by_cases hltk : k < m
            · have HK2 := Lib.hid (coK_next rs i (coI rs i) k hik)
              have HLN := Lib.hid (show (coK rs i (coI rs i) k).length ≤ 8000 by
                have h1 := coK_len rs (coI rs i) i k
                have h2 := HVL.out i hi
                rw [HN.out] at h1 h2
                have h4 : m * m ≤ 20 * 20 := Nat.mul_le_mul (by omega) (by omega)
                have h5 : i * (m * m) ≤ 19 * (20 * 20) := Nat.mul_le_mul (by omega) h4
                have h6 : k * m ≤ 20 * 20 := Nat.mul_le_mul (by omega) (by omega)
                omega)
              obtain ⟨L2, hL2⟩ : ∃ L2, coK rs i (coI rs i) k = L2 := ⟨_, rfl⟩
              rw [hL2] at HK2 HT HLN
              clear hL2
              go_wp2_with fail
              rename World => w2
              go_loopw [3, 7] (fun q t w3 => ∃ (j : Nat) (a : Option Addr) (n cap : Nat), k < j ∧ j ≤ m ∧ t = .int .i64 j ∧ q = .slice a n cap ∧ Ths w3 w.heap.size a n cap (coM rs i k L2 j) ∧ Below w.heap.size w w3)
                (fun _ t _ => m - (intOf t).toNat)
              case atStart => exact ⟨k + 1, a2, n2, cap2, Nat.lt_succ_self _, hltk, by go_num, rfl, by rw [coM_low _ _ _ _ _ (Nat.le_refl _)]; exact HT.out, HB.out⟩
              case round =>
                clear HT HB
                obtain ⟨j, a3, n3, cap3, hkj, hjm, rfl, rfl, hth, hbw⟩ := hrel
                have HB := Lib.hid hbw
                have HT := Lib.hid hth
                have HLT := Lib.hid hth.2
                clear hth
                by_cases hltj : j < m
                · obtain ⟨g', hg', -, p0, p1, p2, p3⟩ := (HR.out.below hbw).at i hlti
                  simp only [Option.some.injEq, Addr.mk.injEq, and_true] at hg'
                  subst hg'
                  obtain ⟨⟨px, py, pz, pu⟩, hpq⟩ : ∃ q, cd rs i = q := ⟨_, rfl⟩
                  rw [hpq] at p0 p1 p2 p3
                  dsimp only at p0 p1 p2 p3
                  obtain ⟨g', hg', -, q0, q1, q2, q3⟩ := (HR.out.below hbw).at k hltk
                  simp only [Option.some.injEq, Addr.mk.injEq, and_true] at hg'
                  subst hg'
                  obtain ⟨⟨qx, qy, qz, qu⟩, hqq⟩ : ∃ q, cd rs k = q := ⟨_, rfl⟩
                  rw [hqq] at q0 q1 q2 q3
                  dsimp only at q0 q1 q2 q3
                  obtain ⟨g', hg', -, r0, r1, r2, r3⟩ := (HR.out.below hbw).at j hltj
                  simp only [Option.some.injEq, Addr.mk.injEq, and_true] at hg'
                  subst hg'
                  obtain ⟨⟨rx, ry, rz, ru⟩, hrq⟩ : ∃ q, cd rs j = q := ⟨_, rfl⟩
                  rw [hrq] at r0 r1 r2 r3
                  dsimp only at r0 r1 r2 r3
                  have HST := Lib.hid (show coM rs i k L2 (j + 1) = coAdd rs (coM rs i k L2 j) (px, py, pz, pu) (qx, qy, qz, qu) (rx, ry, rz, ru) by rw [coM_next _ _ _ _ _ hkj, ← coAdd_step, hpq, hqq, hrq])
                  have HN3 := Lib.hid (show n3 ≤ 1000000 by have h1 := coM_len rs L2 i k j; have h2 := HLN.out; have h4 := HLT.out; omega)
                  clear hpq hqq hrq hbw
                  have HS := Lib.hid (fun w => specSolveRows px py pz pu qx qy qz qu rx ry rz ru w)
                  rw [show mkV (dtH (px, py, pz, pu) (qx, qy, qz, qu) (rx, ry, rz, ru)) (dtU (px, py, pz, pu) (qx, qy, qz, qu) (rx, ry, rz, ru)) (dtM (px, py, pz, pu) (qx, qy, qz, qu) (rx, ry, rz, ru)) (dtV (px, py, pz, pu) (qx, qy, qz, qu) (rx, ry, rz, ru)) = .tuple #[.agg #[.int .i64 (soT (px, py, pz, pu) (qx, qy, qz, qu) (rx, ry, rz, ru)).1, .int .i64 (soT (px, py, pz, pu) (qx, qy, qz, qu) (rx, ry, rz, ru)).2.1, .int .i64 (soT (px, py, pz, pu) (qx, qy, qz, qu) (rx, ry, rz, ru)).2.2.1, .int .i64 (soT (px, py, pz, pu) (qx, qy, qz, qu) (rx, ry, rz, ru)).2.2.2], .bool (soB (px, py, pz, pu) (qx, qy, qz, qu) (rx, ry, rz, ru))] from rfl] at HS
                  have HOT := Lib.hid (fun (h : soB (px, py, pz, pu) (qx, qy, qz, qu) (rx, ry, rz, ru) = true) => soB_okT h)
                  have HA := Lib.hid (coAdd_no (rs := rs) (l := coM rs i k L2 j) (p := (px, py, pz, pu)) (q := (qx, qy, qz, qu)) (r := (rx, ry, rz, ru)))
                  have HC := Lib.hid (coAdd_ful (rs := rs) (l := coM rs i k L2 j) (p := (px, py, pz, pu)) (q := (qx, qy, qz, qu)) (r := (rx, ry, rz, ru)))
                  have HD := Lib.hid (coAdd_in (rs := rs) (l := coM rs i k L2 j) (p := (px, py, pz, pu)) (q := (qx, qy, qz, qu)) (r := (rx, ry, rz, ru)))
                  have HY := Lib.hid (coAdd_yes (rs := rs) (l := coM rs i k L2 j) (p := (px, py, pz, pu)) (q := (qx, qy, qz, qu)) (r := (rx, ry, rz, ru)))
                  obtain ⟨⟨th, tv, tm, td⟩, ht⟩ : ∃ t, soT (px, py, pz, pu) (qx, qy, qz, qu) (rx, ry, rz, ru) = t := ⟨_, rfl⟩
                  obtain ⟨o, ho⟩ : ∃ o, soB (px, py, pz, pu) (qx, qy, qz, qu) (rx, ry, rz, ru) = o := ⟨_, rfl⟩
                  rw [ht, ho] at HS HOT
                  rw [ht] at HC HD HY
                  rw [ho] at HA HY
                  rw [← HST.out] at HA HC HD HY
                  dsimp only at HS
                  clear ht ho HST
                  obtain ⟨L3, hL3⟩ : ∃ L3, coM rs i k L2 j = L3 := ⟨_, rfl⟩
                  rw [hL3] at HT HLT HA HC HD HY
                  have HL3 := Lib.hid hL3
                  clear hL3
                  have F0 := Lib.hid (fun (U : World) (hU : Below wr.heap.size wr U) => (⟨tcell p0 hU, tcell p1 hU, tcell p2 hU, tcell p3 hU, tcell q0 hU, tcell q1 hU, tcell q2 hU, tcell q3 hU, tcell r0 hU, tcell r1 hU, tcell r2 hU, tcell r3 hU⟩ : U.cell? ⟨g, i * 4, none⟩ = some (.int .i64 px) ∧ U.cell? ⟨g, i * 4 + 1, none⟩ = some (.int .i64 py) ∧ U.cell? ⟨g, i * 4 + 2, none⟩ = some (.int .i64 pz) ∧ U.cell? ⟨g, i * 4 + 3, none⟩ = some (.int .i64 pu) ∧ U.cell? ⟨g, k * 4, none⟩ = some (.int .i64 qx) ∧ U.cell? ⟨g, k * 4 + 1, none⟩ = some (.int .i64 qy) ∧ U.cell? ⟨g, k * 4 + 2, none⟩ = some (.int .i64 qz) ∧ U.cell? ⟨g, k * 4 + 3, none⟩ = some (.int .i64 qu) ∧ U.cell? ⟨g, j * 4, none⟩ = some (.int .i64 rx) ∧ U.cell? ⟨g, j * 4 + 1, none⟩ = some (.int .i64 ry) ∧ U.cell? ⟨g, j * 4 + 2, none⟩ = some (.int .i64 rz) ∧ U.cell? ⟨g, j * 4 + 3, none⟩ = some (.int .i64 ru)))
                  have ZZ := Lib.hid (Below.refl wr.heap.size wr)
                  have c1 := Nat.ne_of_lt (cell_block_lt p0)
                  dsimp only at c1
                  have c2 := Ne.symm c1
                  go_upto_region 18 with fail
                  go_cut [8, 9] from 47 to 95 (fun p q wx => ∃ b : Nat, p = .pointer (some ⟨b, 0, none⟩) ∧ q = .bool o ∧ TBox wx b th tv tm td ∧ Below wr.heap.size wr wx)
                  case first =>
                    go_region_held3 (fun w' => w'.cell? ⟨g, i * 4, none⟩ = some (.int .i64 px) ∧ w'.cell? ⟨g, i * 4 + 1, none⟩ = some (.int .i64 py) ∧ w'.cell? ⟨g, i * 4 + 2, none⟩ = some (.int .i64 pz) ∧ w'.cell? ⟨g, i * 4 + 3, none⟩ = some (.int .i64 pu) ∧ w'.cell? ⟨g, k * 4, none⟩ = some (.int .i64 qx) ∧ w'.cell? ⟨g, k * 4 + 1, none⟩ = some (.int .i64 qy) ∧ w'.cell? ⟨g, k * 4 + 2, none⟩ = some (.int .i64 qz) ∧ w'.cell? ⟨g, k * 4 + 3, none⟩ = some (.int .i64 qu) ∧ w'.cell? ⟨g, j * 4, none⟩ = some (.int .i64 rx) ∧ w'.cell? ⟨g, j * 4 + 1, none⟩ = some (.int .i64 ry) ∧ w'.cell? ⟨g, j * 4 + 2, none⟩ = some (.int .i64 rz) ∧ w'.cell? ⟨g, j * 4 + 3, none⟩ = some (.int .i64 ru))
                      (first | (exact F0.out _ ZZ.out) | (exact F0.out _ (tbelowD ZZ.out)) | (exact F0.out _ (below_drewN ZZ.out _)) | (exact F0.out _ (cal ZZ.out _)) | (exact F0.out _ (cal (tbelowD ZZ.out) _)) | (exact F0.out _ (cal (below_drewN ZZ.out _) _)) | (exact F0.out _ (tbelowD (cal ZZ.out _))) | (refine ⟨?_, ?_, ?_, ?_, ?_, ?_, ?_, ?_, ?_, ?_, ?_, ?_⟩ <;> exact tcell_sf (by assumption) (by assumption)) | go_keep | trivial)
                      ((go_at_call 74; refine (HS.out _).mono ?_; rintro e y ⟨rfl, hy⟩; (first | (have z := ft_dal hy) | (have z := ft_al hy) | skip); have ZZ : RowKit.Hid (Below wr.heap.size wr y) := Lib.hid (by first | exact cstep ZZ hy | exact cstepD ZZ hy | exact cstepA ZZ hy | exact cstepDA ZZ hy); clear hy; have sz := ZZ.out.size; obtain ⟨p0, p1, p2, p3, q0, q1, q2, q3, r0, r1, r2, r3⟩ := F0.out _ ZZ.out; have c1 := Nat.ne_of_lt (cell_block_lt p0); dsimp only at c1; have c2 := Ne.symm c1; (try (obtain ⟨zc, zd, ze, zh, zf, zl⟩ := z))))
                    all_goals
                      go_wp2_with fail
                      go_meet
                      refine ⟨_, rfl, rfl, ⟨by first | (go_simp; done) | (go_keep; done), by first | (go_simp; done) | (go_keep; done), by first | (go_simp; done) | (go_keep; done), by first | (go_simp; done) | (go_keep; done)⟩, ?_⟩
                      first
                        | (with_reducible exact ZZ.out)
                        | (with_reducible exact cal ZZ.out _)
                        | (with_reducible exact tbelowD (cal ZZ.out _))
                        | (with_reducible exact cal (tbelowD ZZ.out) _)
                        | (iterate 4 (with_reducible refine Below.setCell ?_ (by first | exact Nat.le_refl _ | with_reducible assumption | omega) _)); with_reducible exact ZZ.out
                        | trace_state
                  case rest =>
                    obtain ⟨b, rfl, rfl, htb, hbx⟩ := hcut
                    have HB4 := Lib.hid (HB.out.trans (hbx.mono HB.out.size))
                    have HT4 := Lib.hid (HT.out.below hbx)
                    have HTB := Lib.hid htb
                    clear hbx htb F0 ZZ HB HT HS c1 c2 p0 p1 p2 p3 q0 q1 q2 q3 r0 r1 r2 r3
                    cases o
                    · have HX := Lib.hid (HA.out (by first | rfl | trivial))
                      go_wp2_with fail
                      go_roundw
                      case rel => exact ⟨j + 1, a3, n3, cap3, Nat.lt_succ_of_lt hkj, hltj, by go_num, rfl, by rw [HX.out]; exact HT4.out, HB4.out⟩
                      case measure => simp [intOf]; omega
                    obtain ⟨t0, t1, t2, t3⟩ := id HTB.out
                    go_wp2_with fail
                    refine (specHas _ _ _ _ _ _ _ _ _ L3 HT4.out).mono ?_
                    rintro e w5 ⟨rfl, hb5⟩
                    have HB5 := Lib.hid (HB4.out.trans (hb5.mono HB4.out.size))
                    have HT5 := Lib.hid (HT4.out.below hb5)
                    have HTB5 := Lib.hid (HTB.out.below hb5)
                    clear hb5 HB4 HT4 HTB t0 t1 t2 t3
                    cases hm : decide ((th, tv, tm, td) ∈ L3)
                    rotate_left
                    · have HX := Lib.hid (HD.out hm)
                      clear hm
                      go_wp2_with fail
                      go_roundw
                      case rel => exact ⟨j + 1, a3, n3, cap3, Nat.lt_succ_of_lt hkj, hltj, by go_num, rfl, by rw [HX.out]; exact HT5.out, HB5.out⟩
                      case measure => simp [intOf]; omega
                    have HOTT := Lib.hid (show okT th tv tm td = true from HOT.out (by first | rfl | trivial))
                    have HF := Lib.hid (coH_at rs (th, tv, tm, td))
                    rw [HN.out] at HF
                    have HM := Lib.hid hm
                    clear hm
                    go_wp2_with fail
                    rename World => w6
                    go_loopw [10, 11] (fun q t w7 => ∃ (x : Nat) (c : Bool), x ≤ m ∧ t = .int .i64 x ∧ q = .bool c ∧ ((c = true ∧ allFrom m x (coHAt rs (th, tv, tm, td)) = coH rs (th, tv, tm, td)) ∨ (c = false ∧ coH rs (th, tv, tm, td) = false)) ∧ Below w.heap.size w w7 ∧ Ths w7 w.heap.size a3 n3 cap3 L3 ∧ TBox w7 b th tv tm td)
                      (fun _ t _ => m - (intOf t).toNat)
                    case atStart => exact ⟨0, true, Nat.zero_le _, rfl, rfl, .inl ⟨rfl, HF.out.symm⟩, HB5.out, HT5.out, HTB5.out⟩
                    case round =>
                      clear HB5 HT5 HTB5
                      obtain ⟨x, c, hx, rfl, rfl, hc, hbw, hth, htb⟩ := hrel
                      have HB := Lib.hid hbw
                      have HT := Lib.hid hth
                      have HTB := Lib.hid htb
                      clear hth htb
                      by_cases hgo : x < m ∧ c = true
                      · obtain ⟨hltx, rfl⟩ := hgo
                        have HA1 := Lib.hid (show allFrom m x (coHAt rs (th, tv, tm, td)) = coH rs (th, tv, tm, td) by rcases hc with h | h; exact h.2; exact absurd h.1 (by simp))
                        clear hc
                        obtain ⟨g', hg', -, a0, a1, a2', a3'⟩ := (HR.out.below hbw).at x hltx
                        simp only [Option.some.injEq, Addr.mk.injEq, and_true] at hg'
                        subst hg'
                        have hrk := HOKR.out x hltx
                        have HP := Lib.hid (show coHAt rs (th, tv, tm, td) x = cdH th tv tm td (cd rs x).1 (cd rs x).2.1 (cd rs x).2.2.1 (cd rs x).2.2.2 from rfl)
                        generalize (cd rs x).1 = X at *
                        generalize (cd rs x).2.1 = Y at *
                        generalize (cd rs x).2.2.1 = Z at *
                        generalize (cd rs x).2.2.2 = U at *
                        have HH := Lib.hid (fun w => specHolds th tv tm td X Y Z U w (cd_bd HOTT.out hrk))
                        clear hrk hbw
                        obtain ⟨t0, t1, t2, t3⟩ := id HTB.out
                        have hn1 := Since.nonempty wr
                        have s0 := fun (U : Since wr) => (U.cell g (x * 4) (cell_block_lt a0)).trans a0
                        have s1 := fun (U : Since wr) => (U.cell g (x * 4 + 1) (cell_block_lt a1)).trans a1
                        have s2 := fun (U : Since wr) => (U.cell g (x * 4 + 2) (cell_block_lt a2')).trans a2'
                        have s3 := fun (U : Since wr) => (U.cell g (x * 4 + 3) (cell_block_lt a3')).trans a3'
                        have u0' := fun (U : Since wr) => (U.cell b 0 (cell_block_lt t0)).trans t0
                        have u1' := fun (U : Since wr) => (U.cell b 1 (cell_block_lt t1)).trans t1
                        have u2' := fun (U : Since wr) => (U.cell b 2 (cell_block_lt t2)).trans t2
                        have u3' := fun (U : Since wr) => (U.cell b 3 (cell_block_lt t3)).trans t3
                        obtain ⟨cc, hcc⟩ : ∃ cc, cdH th tv tm td X Y Z U = cc := ⟨_, rfl⟩
                        rw [hcc] at HH HP
                        clear hcc
                        go_wp2_with fail
                        refine wp_region_since (by kernel_rfl) (by kernel_rfl) ?_
                        repeat (go_big_quiet_step (first
                          | (go_at_call 76; exact Since.call (HH.out _))))
                        refine wpQuiet_nil ?_
                        rintro w8 ⟨⟨w8, hb8⟩, rfl⟩
                        have HB8 := Lib.hid (HB.out.trans (hb8.mono HB.out.size))
                        have HT8 := Lib.hid (HT.out.below hb8)
                        have HTB8 := Lib.hid (HTB.out.below hb8)
                        have HNX : RowKit.Hid ((cc = true ∧ allFrom m (x + 1) (coHAt rs (th, tv, tm, td)) = coH rs (th, tv, tm, td)) ∨ (cc = false ∧ coH rs (th, tv, tm, td) = false)) := Lib.hid (by
                          cases hcc : cc
                          · exact .inr ⟨rfl, by rw [← HA1.out]; exact allFrom_no hltx (HP.out.trans hcc)⟩
                          · exact .inl ⟨rfl, by rw [← HA1.out]; exact (allFrom_yes hltx (HP.out.trans hcc))⟩)
                        clear hb8 s0 s1 s2 s3 u0' u1' u2' u3' t0 t1 t2 t3 a0 a1 a2' a3' hn1
                        go_wp2_with fail
                        go_roundw
                        case rel => exact ⟨x + 1, cc, hltx, by go_num, rfl, HNX.out, HB8.out, HT8.out, HTB8.out⟩
                        case measure => simp [intOf]; omega
                      · have HEQ := Lib.hid (show c = coH rs (th, tv, tm, td) by
                          rcases hc with ⟨h, h2⟩ | ⟨h, h2⟩
                          · have : x = m := by
                              by_cases hq : x < m
                              · exact absurd ⟨hq, h⟩ hgo
                              · omega
                            rw [h, ← h2, this, allFrom_end]
                          · rw [h, h2])
                        clear hc hbw
                        cases c
                        · have HX := Lib.hid (HC.out HEQ.out.symm)
                          clear hgo
                          by_cases hltx : x < m
                          · go_wp2_with fail
                            go_roundw
                            case rel => exact ⟨j + 1, a3, n3, cap3, Nat.lt_succ_of_lt hkj, hltj, by go_num, rfl, by rw [HX.out]; exact HT.out, HB.out⟩
                            case measure => simp [intOf]; omega
                          · go_wp2_with fail
                            go_roundw
                            case rel => exact ⟨j + 1, a3, n3, cap3, Nat.lt_succ_of_lt hkj, hltj, by go_num, rfl, by rw [HX.out]; exact HT.out, HB.out⟩
                            case measure => simp [intOf]; omega
                        · have hxe : ¬ (x < m) := fun hq => hgo ⟨hq, rfl⟩
                          have HX := Lib.hid (HY.out (by first | rfl | trivial) HM.out HEQ.out.symm)
                          clear hgo
                          have hwz := HB.out.size
                          obtain ⟨hcc3, hcm3⟩ := HT.out.cap
                          unfold maxLen at hcm3
                          have hn3 := HN3.out
                          have HO := Lib.hid (show wr.ownsRow w.heap.size 31 4 (.slice a3 n3 cap3) n3 (flat4 L3) from by have := HT.out.1; unfold ThRow at this; rwa [HLT.out] at this)
                          obtain ⟨t0, t1, t2, t3⟩ := id HTB.out
                          go_wp2_with (at_builtin; refine wpList_append_lies _ rfl _ _ _ rfl w.heap.size 31 i0 _ 4 32 Try.underlying64 hi0 hz0 hz1 hz2 rfl (by omega) (.slice a3 n3 cap3) n3 (flat4 L3) (by rfl) (World.ownsRow.alloc HO.out _) ⟨wr.heap.size, 0, none⟩ 1 1 [.int .i64 th, .int .i64 tv, .int .i64 tm, .int .i64 td] (by rfl) (by rfl) (World.news_of_block (cs := #[.int .i64 th, .int .i64 tv, .int .i64 tm, .int .i64 td]) (t := 31) (fr := (0, 0)) (heap_alloc_new wr _)) (by simp [Value.oneCell']) (by omega) (by unfold maxLen; omega) (by omega) (by first | omega | (simp; omega)) (wr.heap.size + 1) (by simp) ?_; intro gg cp w9 hown9 hgrow9 hat9 hgl9; have HO9 := Lib.hid hown9; have HG9 := Lib.hid hgrow9; clear hown9 hgrow9 hat9 hgl9 t0 t1 t2 t3)
                          have HB9 := Lib.hid (below_rowed (HB.out.alloc HB.out.size _) HG9.out (by simp; omega) (fun y hy => (World.ownsRow.lt HO.out y hy).1))
                          have HT9 : RowKit.Hid (Ths w9 w.heap.size (some ⟨gg, 0, none⟩) (n3 + 1) cp (coM rs i k L2 (j + 1))) := Lib.hid (by
                            rw [HX.out]
                            refine ⟨?_, by rw [List.length_append, HLT.out]; rfl⟩
                            unfold ThRow
                            rw [flat4_one, List.length_append, HLT.out]
                            exact HO9.out)
                          go_roundw
                          case rel => exact ⟨j + 1, _, _, _, Nat.lt_succ_of_lt hkj, hltj, by go_num, rfl, HT9.out, HB9.out⟩
                          case measure => simp [intOf]; omega
                · have hje : j = m := by omega
                  have HE := Lib.hid (show coM rs i k L2 j = coK rs i (coI rs i) (k + 1) by rw [HK2.out, HN.out, hje])
                  clear hbw hje
                  go_wp2_with fail
                  go_roundw
                  case rel => exact ⟨k + 1, a3, n3, cap3, Nat.lt_succ_of_lt hik, hltk, by go_num, rfl, by rw [← HE.out]; exact HT.out, HB.out⟩
                  case measure => simp [intOf]; omega
            · have hke : k = m := by omega
              have HE := Lib.hid (show coK rs i (coI rs i) k = coI rs (i + 1) by rw [HNI.out, HN.out, hke])
              clear hke
              go_wp2_with fail
              go_roundw
              case rel => exact ⟨i + 1, a2, n2, cap2, hlti, by go_num, rfl, by rw [← HE.out]; exact HT.out, HB.out⟩
              case measure => simp [intOf]; omega
        · have hie : i = m := by omega
          have HE := Lib.hid (show coV rs = coI rs i by rw [HV.out, hie])
          clear hie
          go_wp2_with fail
          go_ret
          exact ⟨_, rfl, by rw [HE.out]; exact HT.out.2 ▸ HT.out.1, HB.out⟩
end Go.Proofs.Ytbmlcfdilopmgaa
