/- Straight arches: the contracts of the program's ends, isPassedBy and IsStraight. -/
import Derived.Test.YtoholdpobkgffaaStraP
import Derived.Test.YtoholdpobkgffaaArchI
import Derived.Test.YtoholdpobkgffaaPtI
import Derived.Deep.AppendLies
namespace Go.Proofs.Ytoholdpobkgffaa
set_option maxRecDepth 100000
open Go.ChangeShapes Go.WideShapes Go.ChangeAt Go.RowKit

theorem Try.infoPs : (Try.prog.info? 36).map (fun i => (i.zero, i.size, i.bytes)) = some (some (.agg #[.int .i64 0, .int .i64 0]), 2, 16) := by kernel_rfl
theorem own_capS {w : World} {B s n cap N : Nat} {e : TypeId} {a : Option Addr} {xs : List Value} (h : w.ownsRow B e s (.slice a n cap) N xs) : N ≤ cap ∧ cap ≤ maxLen := by
  rcases h.2 with ⟨h1, h2⟩ | ⟨g, c, cur, h1, -, -, h2, h3, -⟩
  · simp at h1; omega
  · simp at h1; obtain ⟨-, -, rfl⟩ := h1; exact ⟨h2, h3⟩

set_option maxRecDepth 100000 in
set_option maxHeartbeats 2000000 in
theorem rowEnds (w : World) (B g cap n : Nat) (js : List Jt) (hr : JRowAt w B g cap js) (hn : js.length = n) (h0 : 0 < n) (h8 : n ≤ 8) :
    Calls Try.prog 14 #[.slice (some ⟨g, 0, none⟩) n cap] w fun e w' => ∃ v, e = .returned v ∧ Row w' w.heap.size v (endsJ js) ∧ Below w.heap.size w w' := by
  obtain ⟨i0, hi0, hz0, hz1, hz2⟩ := info_parts Try.infoPs
  obtain ⟨-, hgw, hcap, hcm⟩ := hr.lt
  rw [hn] at hcap
  unfold maxLen at hcm
  have HR := Lib.hid hr
  have HN := Lib.hid hn
  clear hr hn
  go_enter Try.func14, Try.ntmps14
  go_wp2_with fail
  go_loopw [3, 8] (fun q t wr => ∃ (k N : Nat) (sa : Option Addr) (cc : Nat), k ≤ n ∧ N = 2 * k ∧ t = .int .i64 k ∧ q = .slice sa N cc ∧ wr.ownsRow w.heap.size 36 2 (.slice sa N cc) N (flat (endsTo js k)) ∧ Below w.heap.size w wr)
    (fun _ t _ => n - (intOf t).toNat)
  case atStart => exact ⟨0, 0, none, 0, Nat.zero_le _, rfl, rfl, rfl, World.ownsRow_nil _ _ _ _, Below.refl _ _⟩
  case round =>
    obtain ⟨k, N, sa, cc, hk, hNk, rfl, rfl, hown, hbw⟩ := hrel
    have HB := Lib.hid hbw
    have HO := Lib.hid hown
    obtain ⟨hcc, hcm2⟩ := own_capS hown
    unfold maxLen at hcm2
    have hN16 : N ≤ 16 := by omega
    have HNK := Lib.hid hNk
    clear hown hNk
    by_cases hlt : k < n
    · obtain ⟨a0, a1, a2, a3⟩ := (JRowAt.below HR.out hbw).cells k (by have := HN.out; omega)
      have hnx := endsTo_next (js := js) (k := k) (by have := HN.out; omega)
      obtain ⟨⟨⟨px, py⟩, ⟨qx, qy⟩⟩, ej⟩ : ∃ p, jt js k = p := ⟨_, rfl⟩
      rw [ej] at a0 a1 a2 a3 hnx
      dsimp only at a0 a1 a2 a3 hnx
      have HNX := Lib.hid hnx
      have hal := (Below.refl wr.heap.size wr).alloc (Nat.le_refl _) (.cells #[.int .i64 px, .int .i64 py, .int .i64 qx, .int .i64 qy] 38)
      have HBW := Lib.hid (HB.out.trans (hal.mono HB.out.size))
      have HOW := Lib.hid (owns_below HO.out hal)
      have hbwz := hbw.size
      clear hnx ej hal hbw
      have hk0 : (0 : Int) ≤ (k : Int) := Int.natCast_nonneg _
      have hkn : (k : Int) < (n : Int) := by omega
      have b0 : (wr.alloc (.cells #[.int .i64 px, .int .i64 py, .int .i64 qx, .int .i64 qy] 38)).cell? ⟨wr.heap.size, 0, none⟩ = some (.int .i64 px) := by go_simp
      have b1 : (wr.alloc (.cells #[.int .i64 px, .int .i64 py, .int .i64 qx, .int .i64 qy] 38)).cell? ⟨wr.heap.size, 1, none⟩ = some (.int .i64 py) := by go_simp
      have b2 : (wr.alloc (.cells #[.int .i64 px, .int .i64 py, .int .i64 qx, .int .i64 qy] 38)).cell? ⟨wr.heap.size, 2, none⟩ = some (.int .i64 qx) := by go_simp
      have b3 : (wr.alloc (.cells #[.int .i64 px, .int .i64 py, .int .i64 qx, .int .i64 qy] 38)).cell? ⟨wr.heap.size, 3, none⟩ = some (.int .i64 qy) := by go_simp
      go_upto_region 5 with (fail)
      generalize hZ : wr.alloc (.cells #[.int .i64 px, .int .i64 py, .int .i64 qx, .int .i64 qy] 38) = Z at *
      have hzz := HBW.out.size
      clear hZ a0 a1 a2 a3
      go_wp2_with (at_builtin; refine wpList_append_lies _ rfl _ _ _ rfl w.heap.size 36 i0 _ 2 16 Try.underlying34 hi0 hz0 hz1 hz2 rfl (by omega) (.slice sa N cc) N (flat (endsTo js k)) (by rfl) (World.ownsRow.alloc HOW.out _) ⟨Z.heap.size, 0, none⟩ 2 2 [.int .i64 px, .int .i64 py, .int .i64 qx, .int .i64 qy] (by rfl) (by rfl) (World.news_of_block (cs := #[.int .i64 px, .int .i64 py, .int .i64 qx, .int .i64 qy]) (t := 36) (fr := (0, 0)) (heap_alloc_new Z _)) (by simp [Value.oneCell']) (by omega) (by unfold maxLen; omega) (by omega) (by first | omega | (simp; omega)) (Z.heap.size + 1) (by simp) ?_; intro gg cp w5 hown5 hgrow5 hat5 hgl5; have HO5 := Lib.hid hown5; have HG5 := Lib.hid hgrow5; have HT5 := Lib.hid hat5; clear hown5 hgrow5 hat5 hgl5)
      have HB6 : RowKit.Hid (Below w.heap.size w w5) := Lib.hid (by
        have hoy := World.ownsRow.alloc HOW.out (.cells #[.int .i64 px, .int .i64 py, .int .i64 qx, .int .i64 qy] 36)
        have hby := HBW.out.alloc HBW.out.size (.cells #[.int .i64 px, .int .i64 py, .int .i64 qx, .int .i64 qy] 36)
        exact hby.grown HG5.out (by have := hby.size; simp at this ⊢; omega) (fun j hj => by have := (World.ownsRow.lt hoy j hj).1; omega))
      go_roundw
      case rel => exact ⟨k + 1, N + 2, some ⟨gg, 0, none⟩, cp, hlt, by have := HNK.out; omega, by go_num, rfl, by rw [HNX.out, flat_two]; exact HO5.out, HB6.out⟩
      case measure => simp [intOf]; omega
    · obtain rfl : k = n := by omega
      have he : endsTo js k = endsJ js := by rw [← HN.out]; exact endsTo_all js
      have HE := Lib.hid he
      clear hbw he
      go_wp2_with fail
      go_ret
      refine ⟨_, rfl, ?_, HB.out⟩
      unfold Row
      rw [endsJ_length, HN.out, ← HNK.out, ← HE.out]
      exact HO.out

set_option maxRecDepth 100000 in
set_option maxHeartbeats 2000000 in
theorem rowPassed (w : World) (B g cap n : Nat) (js : List Jt) (px py qx qy : Int) (hr : JRowAt w B g cap js) (hn : js.length = n) (h0 : 0 < n) (h8 : n ≤ 8) :
    Calls Try.prog 15 #[.slice (some ⟨g, 0, none⟩) n cap, .agg #[.int .i64 px, .int .i64 py], .agg #[.int .i64 qx, .int .i64 qy]] w fun e w' => e = .returned (.bool (passAll (px, py) (qx, qy) js)) ∧ Below w.heap.size w w' := by
  obtain ⟨-, hgw, hcap, hcm⟩ := hr.lt
  rw [hn] at hcap
  unfold maxLen at hcm
  have hb0 := ((Below.refl w.heap.size w).alloc (Nat.le_refl _) (.cells #[.int .i64 px, .int .i64 py] 36)).alloc (by simp) (.cells #[.int .i64 qx, .int .i64 qy] 36)
  have hc0 : ((w.alloc (.cells #[.int .i64 px, .int .i64 py] 36)).alloc (.cells #[.int .i64 qx, .int .i64 qy] 36)).cell? ⟨w.heap.size, 0, none⟩ = some (.int .i64 px) := by go_simp
  have hc1 : ((w.alloc (.cells #[.int .i64 px, .int .i64 py] 36)).alloc (.cells #[.int .i64 qx, .int .i64 qy] 36)).cell? ⟨w.heap.size, 1, none⟩ = some (.int .i64 py) := by go_simp
  have hc2 : ((w.alloc (.cells #[.int .i64 px, .int .i64 py] 36)).alloc (.cells #[.int .i64 qx, .int .i64 qy] 36)).cell? ⟨w.heap.size + 1, 0, none⟩ = some (.int .i64 qx) := by go_simp
  have hc3 : ((w.alloc (.cells #[.int .i64 px, .int .i64 py] 36)).alloc (.cells #[.int .i64 qx, .int .i64 qy] 36)).cell? ⟨w.heap.size + 1, 1, none⟩ = some (.int .i64 qy) := by go_simp
  have HB0 := Lib.hid hb0
  have HC0 := Lib.hid (And.intro hc0 (And.intro hc1 (And.intro hc2 hc3)))
  have HR := Lib.hid hr
  have HN := Lib.hid hn
  have HZ := Lib.hid (allFrom_zero n (beV (px, py) (qx, qy) js))
  have hE : passAll (px, py) (qx, qy) js = allV n (beV (px, py) (qx, qy) js) := by unfold passAll; rw [hn]
  have HE := Lib.hid hE
  clear hr hn hb0 hc0 hc1 hc2 hc3 hE
  go_enter Try.func15, Try.ntmps15
  go_wp2_with fail
  go_loopw [11] (fun t wr => ∃ k : Nat, k ≤ n ∧ t = .int .i64 k ∧ allFrom n k (beV (px, py) (qx, qy) js) = allFrom n 0 (beV (px, py) (qx, qy) js) ∧ Below w.heap.size w wr ∧
      wr.cell? ⟨w.heap.size, 0, none⟩ = some (.int .i64 px) ∧ wr.cell? ⟨w.heap.size, 1, none⟩ = some (.int .i64 py) ∧ wr.cell? ⟨w.heap.size + 1, 0, none⟩ = some (.int .i64 qx) ∧ wr.cell? ⟨w.heap.size + 1, 1, none⟩ = some (.int .i64 qy))
    (fun t _ => n - (intOf t).toNat)
  case atStart => exact ⟨0, Nat.zero_le _, rfl, rfl, HB0.out, HC0.out⟩
  case round =>
    clear HB0 HC0
    obtain ⟨k, hk, rfl, hall, hbw, c0, c1, c2, c3⟩ := hrel
    have HB := Lib.hid hbw
    have HA := Lib.hid hall
    clear hall
    by_cases hlt : k < n
    · obtain ⟨a0, a1, a2, a3⟩ := (JRowAt.below HR.out hbw).cells k (by have := HN.out; omega)
      have hG : beV (px, py) (qx, qy) js k = (decide (sid (px, py) (qx, qy) (jt js k).1 ≤ 0) && decide (0 ≤ sid (px, py) (qx, qy) (jt js k).2)) := rfl
      obtain ⟨⟨⟨ix, iy⟩, ⟨ox, oy⟩⟩, ej⟩ : ∃ p, jt js k = p := ⟨_, rfl⟩
      rw [ej] at a0 a1 a2 a3 hG
      dsimp only at a0 a1 a2 a3 hG
      have hS1 := fun W => implSideOf px py qx qy ix iy W
      have hS2 := fun W => implSideOf px py qx qy ox oy W
      have e1 : sid (px, py) (qx, qy) (ix, iy) = sideV px py qx qy ix iy := rfl
      have e2 : sid (px, py) (qx, qy) (ox, oy) = sideV px py qx qy ox oy := rfl
      rw [e1, e2] at hG
      generalize sideV px py qx qy ix iy = V1 at *
      generalize sideV px py qx qy ox oy = V2 at *
      have HS1 := Lib.hid hS1
      have HS2 := Lib.hid hS2
      have HG := Lib.hid hG
      have hal := (Below.refl wr.heap.size wr).alloc (Nat.le_refl _) (.cells #[.int .i64 ix, .int .i64 iy, .int .i64 ox, .int .i64 oy] 38)
      have HBW := Lib.hid (HB.out.trans (hal.mono HB.out.size))
      have d0 := cell_kept c0 hal
      have d1 := cell_kept c1 hal
      have d2 := cell_kept c2 hal
      have d3 := cell_kept c3 hal
      have b0 : (wr.alloc (.cells #[.int .i64 ix, .int .i64 iy, .int .i64 ox, .int .i64 oy] 38)).cell? ⟨wr.heap.size, 0, none⟩ = some (.int .i64 ix) := by go_simp
      have b1 : (wr.alloc (.cells #[.int .i64 ix, .int .i64 iy, .int .i64 ox, .int .i64 oy] 38)).cell? ⟨wr.heap.size, 1, none⟩ = some (.int .i64 iy) := by go_simp
      have b2 : (wr.alloc (.cells #[.int .i64 ix, .int .i64 iy, .int .i64 ox, .int .i64 oy] 38)).cell? ⟨wr.heap.size, 2, none⟩ = some (.int .i64 ox) := by go_simp
      have b3 : (wr.alloc (.cells #[.int .i64 ix, .int .i64 iy, .int .i64 ox, .int .i64 oy] 38)).cell? ⟨wr.heap.size, 3, none⟩ = some (.int .i64 oy) := by go_simp
      have hk0 : (0 : Int) ≤ (k : Int) := Int.natCast_nonneg _
      have hkn : (k : Int) < (n : Int) := by omega
      clear hS1 hS2 hG e1 e2 ej hal hbw c0 c1 c2 c3
      go_upto_region 4 with (fail)
      generalize hZ : wr.alloc (.cells #[.int .i64 ix, .int .i64 iy, .int .i64 ox, .int .i64 oy] 38) = Z at *
      have HBZ := HBW
      clear hZ HBW a0 a1 a2 a3
      by_cases h1 : V1 ≤ 0
      · have g1 : decide (0 < V1) = false := decide_eq_false (by omega)
        by_cases h2 : 0 ≤ V2
        · have g2 : decide (V2 < 0) = false := decide_eq_false (by omega)
          have HG1 := Lib.hid (show beV (px, py) (qx, qy) js k = true by rw [HG.out, decide_eq_true h1, decide_eq_true h2]; rfl)
          clear h1 h2
          go_wp2_with fail
          refine (HS1.out _).mono ?_
          rintro e w1 ⟨rfl, hb1⟩
          have HB1 := Lib.hid (HBZ.out.trans (hb1.mono HBZ.out.size))
          have d0 := cell_kept d0 hb1
          have d1 := cell_kept d1 hb1
          have d2 := cell_kept d2 hb1
          have d3 := cell_kept d3 hb1
          have b2 := cell_kept b2 hb1
          have b3 := cell_kept b3 hb1
          clear hb1
          go_wp2_with fail
          refine (HS2.out _).mono ?_
          rintro e w2 ⟨rfl, hb2⟩
          have HB2 := Lib.hid (HB1.out.trans (hb2.mono HB1.out.size))
          have d0 := cell_kept d0 hb2
          have d1 := cell_kept d1 hb2
          have d2 := cell_kept d2 hb2
          have d3 := cell_kept d3 hb2
          clear hb2
          go_wp2_with fail
          go_roundw
          case rel => exact ⟨k + 1, hlt, by go_num, by rw [← HA.out]; exact allFrom_yes hlt HG1.out, HB2.out, d0, d1, d2, d3⟩
          case measure => simp [intOf]; omega
        · have g2 : decide (V2 < 0) = true := decide_eq_true (by omega)
          have HG1 := Lib.hid (show beV (px, py) (qx, qy) js k = false by rw [HG.out, decide_eq_false h2, Bool.and_false])
          clear h1 h2
          go_wp2_with fail
          refine (HS1.out _).mono ?_
          rintro e w1 ⟨rfl, hb1⟩
          have HB1 := Lib.hid (HBZ.out.trans (hb1.mono HBZ.out.size))
          have d0 := cell_kept d0 hb1
          have d1 := cell_kept d1 hb1
          have d2 := cell_kept d2 hb1
          have d3 := cell_kept d3 hb1
          have b2 := cell_kept b2 hb1
          have b3 := cell_kept b3 hb1
          clear hb1
          go_wp2_with fail
          refine (HS2.out _).mono ?_
          rintro e w2 ⟨rfl, hb2⟩
          have HB2 := Lib.hid (HB1.out.trans (hb2.mono HB1.out.size))
          clear hb2
          go_wp2_with fail
          go_ret
          exact ⟨ret_bool (by rw [HE.out, ← HZ.out, ← HA.out, allFrom_no hlt HG1.out]), HB2.out⟩
      · have g1 : decide (0 < V1) = true := decide_eq_true (by omega)
        have HG1 := Lib.hid (show beV (px, py) (qx, qy) js k = false by rw [HG.out, decide_eq_false h1, Bool.false_and])
        clear h1
        go_wp2_with fail
        refine (HS1.out _).mono ?_
        rintro e w1 ⟨rfl, hb1⟩
        have HB1 := Lib.hid (HBZ.out.trans (hb1.mono HBZ.out.size))
        clear hb1
        go_wp2_with fail
        go_ret
        exact ⟨ret_bool (by rw [HE.out, ← HZ.out, ← HA.out, allFrom_no hlt HG1.out]), HB1.out⟩
    · obtain rfl : k = n := by omega
      clear hbw
      go_wp2_with fail
      go_ret
      exact ⟨ret_bool (by rw [HE.out, ← HZ.out, ← HA.out, allFrom_end]), HB.out⟩

theorem rowEndsNil (w : World) :
    Calls Try.prog 14 #[.slice none 0 0] w fun e w' => e = .returned (.slice none 0 0) ∧ Below w.heap.size w w' := by
  go_enter Try.func14, Try.ntmps14
  go_wp2_with fail
  refine wp_loop_rounds 1 ?_
  rw [rounds_succ]
  go_wp2_with fail
  go_ret
  exact ⟨rfl, Below.refl _ _⟩

set_option maxRecDepth 100000 in
set_option maxHeartbeats 4000000 in
theorem implIsStraight (w : World) (B g cap n : Nat) (js : List Jt) (hr : JRowAt w B g cap js) (hn : js.length = n) :
    Calls Try.prog 7 #[.agg #[.slice (some ⟨g, 0, none⟩) n cap]] w fun e w' => e = .returned (.bool (strV js)) ∧ Below w.heap.size w w' := by
  have hb0 := (Below.refl w.heap.size w).alloc (Nat.le_refl _) (.cells #[.slice (some ⟨g, 0, none⟩) n cap] 29)
  have HR := Lib.hid (hr.below hb0)
  have HB0 := Lib.hid hb0
  have HN := Lib.hid hn
  clear hr hn hb0
  cases h : archV js
  · have H := Lib.hid h
    have HV := Lib.hid (strV_no h)
    clear h
    go_enter Try.func7, Try.ntmps7
    go_wp2_with fail
    refine (buildNo _ _ _ _ _ js HR.out HN.out H.out).mono ?_
    rintro e w1 ⟨rfl, hb1⟩
    have HB1 := Lib.hid (HB0.out.trans (hb1.mono HB0.out.size))
    clear hb1
    go_wp2_with fail
    have HB2 := Lib.hid (below_al3 HB1.out (.cells #[.slice none 0 0, .slice none 0 0] 44))
    refine (rowEndsNil _).mono ?_
    rintro e w2 ⟨rfl, hb2⟩
    have HB3 := Lib.hid (HB2.out.trans (hb2.mono HB2.out.size))
    clear hb2
    go_wp2_with fail
    refine wp_loop_rounds 1 ?_
    rw [rounds_succ]
    go_wp2_with fail
    go_ret
    exact ⟨ret_bool HV.out.symm, HB3.out⟩
  · have H := Lib.hid h
    have h38 := arch_size h
    rw [HN.out] at h38
    have HV := Lib.hid (fun b (k : allV (2 * js.length) (rowNo js) = b) => strV_yes h k)
    rw [HN.out] at HV
    clear h
    go_enter Try.func7, Try.ntmps7
    go_wp2_with fail
    refine (buildYes _ _ _ _ _ js HR.out HN.out H.out).mono ?_
    rintro e w1 ⟨sg, sc, rfl, hbu, hb1⟩
    have HB1 := Lib.hid (HB0.out.trans (hb1.mono HB0.out.size))
    have HR1 := Lib.hid (HR.out.below hb1)
    have hal := (Below.refl w1.heap.size w1).alloc (Nat.le_refl _) (.cells #[.slice (some ⟨g, 0, none⟩) n cap, .slice (some ⟨sg, 0, none⟩) (n - 1) sc] 44)
    have HB2 := Lib.hid (HB1.out.trans (hal.mono HB1.out.size))
    have HR2 := Lib.hid (HR1.out.below hal)
    have b0 : (w1.alloc (.cells #[.slice (some ⟨g, 0, none⟩) n cap, .slice (some ⟨sg, 0, none⟩) (n - 1) sc] 44)).cell? ⟨w1.heap.size, 0, none⟩ = some (.slice (some ⟨g, 0, none⟩) n cap) := by go_simp
    have HW1 := Lib.hid hb1.size
    clear hbu hb1 hal HR1 HB1
    go_wp2_with fail
    generalize hZ : w1.alloc (.cells #[.slice (some ⟨g, 0, none⟩) n cap, .slice (some ⟨sg, 0, none⟩) (n - 1) sc] 44) = Z at *
    clear hZ
    refine (rowEnds _ _ _ _ _ js HR2.out HN.out (by omega) h38.2).mono ?_
    rintro e w2 ⟨v, rfl, hrow, hb2⟩
    have hel : (endsJ js).length = 2 * n := by rw [endsJ_length, HN.out]
    rcases hrow.cases with ⟨-, hcn⟩ | ⟨eg, ec, hg, r, -, hgw, hecap, hecm⟩
    · rw [hcn] at hel; simp at hel; omega
    rw [hel] at hg hecap
    obtain ⟨m, hm⟩ : ∃ m, m = 2 * n := ⟨_, rfl⟩
    rw [← hm] at hg hecap HV
    subst hg
    have hm16 : m ≤ 16 := by omega
    unfold maxLen at hecm
    have b1 := cell_kept b0 hb2
    have HR3 := Lib.hid (HR2.out.below hb2)
    have HB3 := Lib.hid (HB2.out.trans (hb2.mono HB2.out.size))
    have HEND := Lib.hid r
    have HEL := Lib.hid (hel.trans hm.symm)
    have HM := Lib.hid hm
    clear r hb2 hrow b0 HB2 HR2 hel hm hgw
    go_wp2_with fail
    go_loopw [20] (fun t wr => ∃ i : Nat, i ≤ m ∧ t = .int .i64 i ∧ allFrom m i (rowNo js) = allFrom m 0 (rowNo js) ∧ Below w2.heap.size w2 wr)
      (fun t _ => m - (intOf t).toNat)
    case atStart => exact ⟨0, Nat.zero_le _, rfl, rfl, Below.refl _ _⟩
    case round =>
      obtain ⟨i, hi, rfl, hall, hbw⟩ := hrel
      have HB := Lib.hid hbw
      have HA := Lib.hid hall
      clear hall
      by_cases hlt : i < m
      · obtain ⟨a0, a1⟩ := (HEND.out.below hbw).cells i (by have := HEL.out; omega)
        obtain ⟨⟨px, py⟩, ep⟩ : ∃ p, pt (endsJ js) i = p := ⟨_, rfl⟩
        rw [ep] at a0 a1
        have HRN := Lib.hid (show rowNo js i = allV m (pairNo js i) by unfold rowNo; rw [HN.out, HM.out])
        have HEP := Lib.hid ep
        have c1 := cell_kept b1 hbw
        have hal := (Below.refl wr.heap.size wr).alloc (Nat.le_refl _) (.cells #[.int .i64 px, .int .i64 py] 36)
        have d1 := cell_kept c1 hal
        have p0 : (wr.alloc (.cells #[.int .i64 px, .int .i64 py] 36)).cell? ⟨wr.heap.size, 0, none⟩ = some (.int .i64 px) := by go_simp
        have p1 : (wr.alloc (.cells #[.int .i64 px, .int .i64 py] 36)).cell? ⟨wr.heap.size, 1, none⟩ = some (.int .i64 py) := by go_simp
        have HBZ := Lib.hid (HB.out.trans (hal.mono HB.out.size))
        have P0 := Lib.hid (And.intro p0 (And.intro p1 d1))
        have hi0 : (0 : Int) ≤ (i : Int) := Int.natCast_nonneg _
        have hin : (i : Int) < (m : Int) := by omega
        clear ep hbw c1 hal d1 p0 p1
        rename World => wo
        go_wp2_with fail
        go_loopw [26] (fun t w4 => ∃ k : Nat, k ≤ m ∧ t = .int .i64 k ∧ allFrom m k (pairNo js i) = allFrom m 0 (pairNo js i) ∧ Below w2.heap.size w2 w4 ∧ w4.cell? ⟨wo.heap.size, 0, none⟩ = some (.int .i64 px) ∧ w4.cell? ⟨wo.heap.size, 1, none⟩ = some (.int .i64 py) ∧ w4.cell? ⟨w1.heap.size, 0, none⟩ = some (.slice (some ⟨g, 0, none⟩) n cap))
          (fun t _ => m - (intOf t).toNat)
        case atStart => exact ⟨0, Nat.zero_le _, rfl, rfl, HBZ.out, P0.out⟩
        case round =>
          clear HBZ P0 b1
          obtain ⟨k, hk, rfl, hall2, hbw, p0, p1, c1⟩ := hrel
          have HB4 := Lib.hid hbw
          have HA2 := Lib.hid hall2
          clear hall2
          by_cases hlk : k < m
          · obtain ⟨q0, q1⟩ := (HEND.out.below hbw).cells k (by have := HEL.out; omega)
            obtain ⟨⟨qx, qy⟩, eq⟩ : ∃ p, pt (endsJ js) k = p := ⟨_, rfl⟩
            rw [eq] at q0 q1
            have hpn : pairNo js i k = !(decide (px < qx) && passAll (px, py) (qx, qy) js) := by unfold pairNo; rw [HEP.out, eq]
            have HRP := Lib.hid (fun (X : World) (hX : Below w2.heap.size w2 X) => rowPassed X B g cap n js px py qx qy (HR3.out.below hX) HN.out (by omega) h38.2)
            generalize passAll (px, py) (qx, qy) js = V at *
            have HPN := Lib.hid hpn
            have hal := (Below.refl wr.heap.size wr).alloc (Nat.le_refl _) (.cells #[.int .i64 qx, .int .i64 qy] 36)
            have e0 := cell_kept p0 hal
            have e1 := cell_kept p1 hal
            have e2 := cell_kept c1 hal
            have f0 : (wr.alloc (.cells #[.int .i64 qx, .int .i64 qy] 36)).cell? ⟨wr.heap.size, 0, none⟩ = some (.int .i64 qx) := by go_simp
            have f1 : (wr.alloc (.cells #[.int .i64 qx, .int .i64 qy] 36)).cell? ⟨wr.heap.size, 1, none⟩ = some (.int .i64 qy) := by go_simp
            have HB5 := Lib.hid (HB4.out.trans (hal.mono HB4.out.size))
            have hk0 : (0 : Int) ≤ (k : Int) := Int.natCast_nonneg _
            have hkn : (k : Int) < (m : Int) := by omega
            clear hpn eq hbw hal p0 p1 c1
            by_cases hx : px < qx
            · have hd : decide (px < qx) = true := decide_eq_true hx
              cases V
              · have HP1 := Lib.hid (show pairNo js i k = true by rw [HPN.out, hd]; rfl)
                clear hx
                go_wp2_with fail
                refine (HRP.out _ HB5.out).mono ?_
                rintro e w6 ⟨rfl, hb6⟩
                have HB6 := Lib.hid (HB5.out.trans (hb6.mono HB5.out.size))
                have e0 := cell_kept e0 hb6
                have e1 := cell_kept e1 hb6
                have e2 := cell_kept e2 hb6
                clear hb6
                go_wp2_with fail
                go_roundw
                case rel => exact ⟨k + 1, hlk, by go_num, by rw [← HA2.out]; exact allFrom_yes hlk HP1.out, HB6.out, e0, e1, e2⟩
                case measure => simp [intOf]; omega
              · have HP1 := Lib.hid (show pairNo js i k = false by rw [HPN.out, hd]; rfl)
                have HR0 := Lib.hid (show rowNo js i = false by rw [HRN.out, ← allFrom_zero, ← HA2.out, allFrom_no hlk HP1.out])
                clear hx
                go_wp2_with fail
                refine (HRP.out _ HB5.out).mono ?_
                rintro e w6 ⟨rfl, hb6⟩
                have HB6 := Lib.hid (HB5.out.trans (hb6.mono HB5.out.size))
                clear hb6
                go_wp2_with fail
                go_ret
                exact ⟨ret_bool (by rw [HV.out false (by rw [← allFrom_zero, ← HA.out, allFrom_no hlt HR0.out])]; rfl), HB3.out.trans (HB6.out.mono HB3.out.size)⟩
            · have hd : decide (px < qx) = false := decide_eq_false hx
              have HP1 := Lib.hid (show pairNo js i k = true by rw [HPN.out, hd]; rfl)
              clear hx
              go_wp2_with fail
              go_roundw
              case rel => exact ⟨k + 1, hlk, by go_num, by rw [← HA2.out]; exact allFrom_yes hlk HP1.out, HB5.out, e0, e1, e2⟩
              case measure => simp [intOf]; omega
          · obtain rfl : k = m := by omega
            have HR1 := Lib.hid (show rowNo js i = true by rw [HRN.out, ← allFrom_zero, ← HA2.out, allFrom_end])
            clear hbw
            go_wp2_with fail
            go_roundw
            case rel => exact ⟨i + 1, hlt, by go_num, by rw [← HA.out]; exact allFrom_yes hlt HR1.out, HB4.out⟩
            case measure => simp [intOf]; omega
      · obtain rfl : i = m := by omega
        clear hbw
        go_wp2_with fail
        go_ret
        exact ⟨ret_bool (by rw [HV.out true (by rw [← allFrom_zero, ← HA.out, allFrom_end])]; rfl), HB3.out.trans (HB.out.mono HB3.out.size)⟩
end Go.Proofs.Ytoholdpobkgffaa
