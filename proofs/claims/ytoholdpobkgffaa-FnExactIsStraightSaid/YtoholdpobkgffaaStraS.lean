/- Straight arches: the contract of the model's IsStraight. -/
import Derived.Test.YtoholdpobkgffaaStraP
import Derived.Test.YtoholdpobkgffaaArchE
import Derived.Test.YtoholdpobkgffaaArchL
import Derived.Test.YtoholdpobkgffaaStoneS
import Derived.Deep.AppendLies
namespace Go.Proofs.Ytoholdpobkgffaa
set_option maxRecDepth 100000
open Go.ChangeShapes Go.WideShapes Go.ChangeAt Go.RowKit

theorem Try.infoPz : (Try.prog.info? 36).map (fun i => (i.zero, i.size, i.bytes)) = some (some (.agg #[.int .i64 0, .int .i64 0]), 2, 16) := by kernel_rfl
theorem own_capZ {w : World} {B s n cap N : Nat} {e : TypeId} {a : Option Addr} {xs : List Value} (h : w.ownsRow B e s (.slice a n cap) N xs) : N ≤ cap ∧ cap ≤ maxLen := by
  rcases h.2 with ⟨h1, h2⟩ | ⟨g, c, cur, h1, -, -, h2, h3, -⟩
  · simp at h1; omega
  · simp at h1; obtain ⟨-, -, rfl⟩ := h1; exact ⟨h2, h3⟩
theorem far_lowZ {X w' : World} {B n size b o : Nat} {e : TypeId} {v u : Value} {xs : List Value} (hr : X.ownsRow B e size v n xs) (hg : X.grownBy w' v.ownBlock) (hb : b < B) (hc : X.cell? ⟨b, o, none⟩ = some u) : w'.cell? ⟨b, o, none⟩ = some u :=
  (World.grownBy.cell_far hg ⟨b, o, none⟩ (cell_block_lt hc) (fun he => by have := (World.ownsRow.lt hr b he.symm).1; omega)).trans hc
theorem alZ (w : World) (o : Obj) : Below w.heap.size w (w.alloc o) := (Below.refl w.heap.size w).alloc (Nat.le_refl _) o
theorem belowDZ {B : Nat} {a w : World} (h : Below B a w) : Below B a w.drew := ⟨h.os, h.tape, h.output, h.size, h.block⟩
theorem owns_emptyZ (w : World) (B : Nat) (hB : B ≤ w.heap.size) : (w.alloc (.cells #[] 36)).ownsRow B 36 2 (.slice (some ⟨w.heap.size, 0, none⟩) 0 0) 0 [] :=
  World.ownsRow_lit (base := B) (e := 36) (size := 2) w #[] 0 hB (Nat.zero_le _) rfl

set_option maxRecDepth 100000 in
set_option maxHeartbeats 8000000 in
theorem specIsStraight (w : World) (B g cap n : Nat) (js : List Jt) (hr : JRowAt w B g cap js) (hn : js.length = n) (h8 : n ≤ 1048576) :
    Calls Try.prog 5 #[.agg #[.slice (some ⟨g, 0, none⟩) n cap]] w fun e w' => e = .returned (.bool (strV js)) ∧ Below w.heap.size w w' := by
  obtain ⟨i0, hi0, hz0, hz1, hz2⟩ := info_parts Try.infoPz
  obtain ⟨-, hgw, hcap, hcm⟩ := hr.lt
  rw [hn] at hcap
  unfold maxLen at hcm
  have hal := alZ w (.cells #[.slice (some ⟨g, 0, none⟩) n cap] 29)
  have HR0 := Lib.hid (JRowAt.below hr hal)
  have HB0 := Lib.hid hal
  have HN := Lib.hid hn
  have hc0 : (w.alloc (.cells #[.slice (some ⟨g, 0, none⟩) n cap] 29)).cell? ⟨w.heap.size, 0, none⟩ = some (.slice (some ⟨g, 0, none⟩) n cap) := by go_simp
  have HC0 := Lib.hid hc0
  have HR := Lib.hid hr
  clear hr hn hal hc0
  cases h : archV js
  · have HV := Lib.hid (strV_no h)
    have H := Lib.hid h
    clear h
    go_enter Try.func5, Try.ntmps5
    go_wp2_with fail
    refine (specArchOk _ _ _ _ _ js HR0.out HN.out h8).mono ?_
    rintro e w1 ⟨rfl, hb1⟩
    rw [H.out]
    have HB1 := Lib.hid (HB0.out.trans (hb1.mono HB0.out.size))
    clear hb1
    go_wp2_with fail
    go_ret
    exact ⟨ret_bool HV.out.symm, HB1.out⟩
  have h38 := arch_size h
  rw [HN.out] at h38
  have H := Lib.hid h
  have HV := Lib.hid (fun b (k : allV (2 * js.length) (rowNo js) = b) => strV_yes h k)
  rw [HN.out] at HV
  have HOK := Lib.hid (fun i (hi : i < 2 * js.length) => ends_ok h hi)
  have HAO := Lib.hid (fun i (hi : i < js.length) => arch_ok h hi)
  clear h
  go_enter Try.func5, Try.ntmps5
  go_wp2_with fail
  refine (specArchOk _ _ _ _ _ js HR0.out HN.out h8).mono ?_
  rintro e w1 ⟨rfl, hb1⟩
  rw [H.out]
  have HB1 := Lib.hid (HB0.out.trans (hb1.mono HB0.out.size))
  have c1 := cell_kept HC0.out hb1
  have hw1 : w.heap.size + 1 ≤ w1.heap.size := cell_block_lt c1
  have HE1 := Lib.hid (owns_emptyZ w1 (w.heap.size + 1) hw1)
  have hal1 := alZ w1 (.cells #[] 36)
  have HB2 := Lib.hid (HB1.out.trans (hal1.mono HB1.out.size))
  have C2 := Lib.hid (cell_kept c1 hal1)
  clear hb1 c1 hw1 hal1 HB1 HB0 HC0 HR0
  go_wp2_with fail
  go_loopw [3, 4] (fun q t wr => ∃ (k N : Nat) (sa : Option Addr) (cc : Nat), k ≤ n ∧ N = 2 * k ∧ t = .int .i64 k ∧ q = .slice sa N cc ∧ wr.ownsRow (w.heap.size + 1) 36 2 (.slice sa N cc) N (flat (endsTo js k)) ∧ Below w.heap.size w wr ∧
      wr.cell? ⟨w.heap.size, 0, none⟩ = some (.slice (some ⟨g, 0, none⟩) n cap))
    (fun _ t _ => n - (intOf t).toNat)
  case atStart => exact ⟨0, 0, some ⟨w1.heap.size, 0, none⟩, 0, Nat.zero_le _, rfl, rfl, rfl, HE1.out, HB2.out, C2.out⟩
  case round =>
    clear HB2 HE1 C2
    obtain ⟨k, N, sa, cc, hk, hNk, rfl, rfl, hown, hbw, c0⟩ := hrel
    have HB := Lib.hid hbw
    have HO := Lib.hid hown
    obtain ⟨hcc, hcm2⟩ := own_capZ hown
    unfold maxLen at hcm2
    have hN16 : N ≤ 16 := by omega
    have HNK := Lib.hid hNk
    clear hown hNk
    by_cases hlt : k < n
    · obtain ⟨a0, a1, a2, a3⟩ := (JRowAt.below HR.out hbw).cells k (by have := HN.out; omega)
      have hnx := endsTo_next (js := js) (k := k) (by have := HN.out; omega)
      obtain ⟨⟨⟨px, py⟩, ⟨qx, qy⟩⟩, ej⟩ : ∃ p, jt js k = p := ⟨_, rfl⟩
      rw [ej] at a0 a1 a2 a3 hnx
      dsimp only at a0 a1 a2 a3 hnx
      have HNX := Lib.hid hnx
      have hwz := hbw.size
      have hk0 : (0 : Int) ≤ (k : Int) := Int.natCast_nonneg _
      have hkn : (k : Int) < (n : Int) := by omega
      have mg := Nat.ne_of_lt (cell_block_lt a0)
      have mw := Nat.ne_of_lt (cell_block_lt c0)
      dsimp only at mg mw
      clear hnx ej hbw
      go_wp2_with fail
      go_region_held3 (fun w' => w'.cell? ⟨w.heap.size, 0, none⟩ = some (.slice (some ⟨g, 0, none⟩) n cap) ∧ w'.cell? ⟨g, k * 4, none⟩ = some (.int .i64 px) ∧ w'.cell? ⟨g, k * 4 + 1, none⟩ = some (.int .i64 py) ∧ w'.cell? ⟨g, k * 4 + 2, none⟩ = some (.int .i64 qx) ∧ w'.cell? ⟨g, k * 4 + 3, none⟩ = some (.int .i64 qy))
        (first | (exact K6.out) | (exact ⟨c0, a0, a1, a2, a3⟩) | (exact ⟨cell_kept c0 (alZ _ _), cell_kept a0 (alZ _ _), cell_kept a1 (alZ _ _), cell_kept a2 (alZ _ _), cell_kept a3 (alZ _ _)⟩) | go_keep | trivial)
        ((refine step_append_lies _ (by rfl) _ _ _ (by rfl) (w.heap.size + 1) 36 i0 _ 2 16 Try.underlying34 hi0 hz0 hz1 hz2 rfl (by omega) (.slice sa N cc) _ _ (by rfl) (World.ownsRow.alloc HO.out _)
              ⟨wr.heap.size, 0, none⟩ 2 2 [.int .i64 px, .int .i64 py, .int .i64 qx, .int .i64 qy] (by rfl) (by rfl) (World.news_of_block (cs := #[.int .i64 px, .int .i64 py, .int .i64 qx, .int .i64 qy]) (t := 36) (fr := (0, 0)) (heap_alloc_new wr _)) (by simp [Value.oneCell'])
              (by omega) (by unfold maxLen; omega) (by omega) (by simp; omega) (wr.heap.size + 1) (by simp) ?_; intro gg cp w6 hown6 hgrow6 hat hgl
          have hoy := World.ownsRow.drew (World.ownsRow.alloc HO.out (.cells #[.int .i64 px, .int .i64 py, .int .i64 qx, .int .i64 qy] 36))
          have K6 := Lib.hid (And.intro (far_lowZ hoy hgrow6 (Nat.lt_succ_self _) (cell_kept c0 (belowDZ (alZ wr _)))) (And.intro (far_lowZ hoy hgrow6 (by omega) (cell_kept a0 (belowDZ (alZ wr _)))) (And.intro (far_lowZ hoy hgrow6 (by omega) (cell_kept a1 (belowDZ (alZ wr _)))) (And.intro (far_lowZ hoy hgrow6 (by omega) (cell_kept a2 (belowDZ (alZ wr _)))) (far_lowZ hoy hgrow6 (by omega) (cell_kept a3 (belowDZ (alZ wr _)))))))) ))
      all_goals
        have HO6 : RowKit.Hid (w6.ownsRow (w.heap.size + 1) 36 2 (.slice (some ⟨gg, 0, none⟩) (N + 2) cp) (N + 2) (flat (endsTo js (k + 1)))) := Lib.hid (by rw [HNX.out, flat_two]; exact hown6)
        have HB6 : RowKit.Hid (Below w.heap.size w w6) := Lib.hid ((belowDZ (HB.out.alloc hwz _)).grown hgrow6 (by simp; omega) (fun j hj => by have := (World.ownsRow.lt hoy j hj).1; omega))
        have C6 := K6.out.1
        clear hoy hown6 hgrow6 hat hgl K6 a0 a1 a2 a3 c0
        go_wp2_with fail
        go_roundw
      all_goals first
        | exact ⟨k + 1, N + 2, _, _, by omega, by have := HNK.out; omega, by go_num, rfl, HO6.out, HB6.out, C6⟩
        | (simp [intOf]; omega)
    · obtain rfl : k = n := by omega
      have he : endsTo js k = endsJ js := by rw [← HN.out]; exact endsTo_all js
      have hel : (endsJ js).length = N := by rw [endsJ_length, HN.out, HNK.out]
      have hrow : Row wr (w.heap.size + 1) (.slice sa N cc) (endsJ js) := by
        unfold Row
        rw [hel, ← he]
        exact HO.out
      rcases hrow.cases with ⟨-, hcn⟩ | ⟨eg, ec, hg, r, -, hgw, hecap, hecm⟩
      · rw [hcn] at hel; have := HNK.out; simp at hel; omega
      simp only [Value.slice.injEq] at hg
      obtain ⟨rfl, -, rfl⟩ := hg
      rw [← HNK.out] at HV
      have HEND := Lib.hid r
      have HEL := Lib.hid hel
      have HRNO := Lib.hid (fun i => (show rowNo js i = allV N (pairNo js i) by unfold rowNo; rw [HN.out, HNK.out]))
      have HPAS := Lib.hid (fun p q => (show passAll p q js = allV k (beV p q js) by unfold passAll; rw [HN.out]))
      have hwz := hbw.size
      have HOKN := Lib.hid (show ∀ i, i < N → okP (pt (endsJ js) i).1 (pt (endsJ js) i).2 = true from fun i hi => HOK.out i (by rw [HN.out, ← HNK.out]; exact hi))
      clear he hel hrow r HO hgw hbw HOK
      go_wp2_with fail
      rename World => wo
      go_loopw [5] (fun t w2 => ∃ i : Nat, i ≤ N ∧ t = .int .i64 i ∧ allFrom N i (rowNo js) = allFrom N 0 (rowNo js) ∧ Below wo.heap.size wo w2)
        (fun t _ => N - (intOf t).toNat)
      case atStart => exact ⟨0, Nat.zero_le _, rfl, rfl, Below.refl _ _⟩
      case round =>
        obtain ⟨i, hi, rfl, hall, hbw⟩ := hrel
        have HBi := Lib.hid hbw
        have HA := Lib.hid hall
        clear hall hbw
        by_cases hlti : i < N
        · have hi0 : (0 : Int) ≤ (i : Int) := Int.natCast_nonneg _
          have hin : (i : Int) < (N : Int) := by omega
          go_wp2_with fail
          go_loopw [6] (fun t w2 => ∃ q : Nat, q ≤ N ∧ t = .int .i64 q ∧ allFrom N q (pairNo js i) = allFrom N 0 (pairNo js i) ∧ Below wo.heap.size wo w2)
            (fun t _ => N - (intOf t).toNat)
          case atStart => exact ⟨0, Nat.zero_le _, rfl, rfl, HBi.out⟩
          case round =>
            obtain ⟨q, hq, rfl, hall2, hbw⟩ := hrel
            have HBq := Lib.hid hbw
            have HA2 := Lib.hid hall2
            clear hall2
            by_cases hltq : q < N
            · obtain ⟨u0, u1⟩ := (HEND.out.below hbw).cells i (by rw [HEL.out]; exact hlti)
              obtain ⟨v0, v1⟩ := (HEND.out.below hbw).cells q (by rw [HEL.out]; exact hltq)
              have hpn : pairNo js i q = !(decide ((pt (endsJ js) i).1 < (pt (endsJ js) q).1) && passAll (pt (endsJ js) i) (pt (endsJ js) q) js) := rfl
              have hu := HOKN.out i hlti
              have hv := HOKN.out q hltq
              obtain ⟨⟨ux, uy⟩, eu⟩ : ∃ p, pt (endsJ js) i = p := ⟨_, rfl⟩
              obtain ⟨⟨vx, vy⟩, ev⟩ : ∃ p, pt (endsJ js) q = p := ⟨_, rfl⟩
              rw [eu] at u0 u1 hpn hu
              rw [ev] at v0 v1 hpn hv
              dsimp only at u0 u1 v0 v1 hpn hu hv
              have HPN := Lib.hid hpn
              have HU := Lib.hid hu
              have HVV := Lib.hid hv
              have c1 := cell_kept c0 hbw
              have hal := alZ wr (.cells #[.int .i64 ux, .int .i64 uy] 36)
              have hal2 := alZ (wr.alloc (.cells #[.int .i64 ux, .int .i64 uy] 36)) (.cells #[.int .i64 vx, .int .i64 vy] 36)
              have hb2 := hal.trans (hal2.mono hal.size)
              have d1 := cell_kept c1 hb2
              have p0 : ((wr.alloc (.cells #[.int .i64 ux, .int .i64 uy] 36)).alloc (.cells #[.int .i64 vx, .int .i64 vy] 36)).cell? ⟨wr.heap.size, 0, none⟩ = some (.int .i64 ux) := by go_simp
              have p1 : ((wr.alloc (.cells #[.int .i64 ux, .int .i64 uy] 36)).alloc (.cells #[.int .i64 vx, .int .i64 vy] 36)).cell? ⟨wr.heap.size, 1, none⟩ = some (.int .i64 uy) := by go_simp
              have p2 : ((wr.alloc (.cells #[.int .i64 ux, .int .i64 uy] 36)).alloc (.cells #[.int .i64 vx, .int .i64 vy] 36)).cell? ⟨wr.heap.size + 1, 0, none⟩ = some (.int .i64 vx) := by go_simp
              have p3 : ((wr.alloc (.cells #[.int .i64 ux, .int .i64 uy] 36)).alloc (.cells #[.int .i64 vx, .int .i64 vy] 36)).cell? ⟨wr.heap.size + 1, 1, none⟩ = some (.int .i64 vy) := by go_simp
              have HB5 := Lib.hid (HBq.out.trans (hb2.mono HBq.out.size))
              have P0 := Lib.hid (And.intro p0 (And.intro p1 (And.intro p2 (And.intro p3 d1))))
              have hq0 : (0 : Int) ≤ (q : Int) := Int.natCast_nonneg _
              have hqn : (q : Int) < (N : Int) := by omega
              have HSU := Lib.hid (fun X j (hj : j < k) => l02SideAt (ux, uy) (vx, vy) (jt js j).1 ux uy vx vy (jt js j).1.1 (jt js j).1.2 X rfl rfl rfl HU.out HVV.out (HAO.out j (by rw [HN.out]; exact hj)).1)
              have HSV := Lib.hid (fun X j (hj : j < k) => l02SideAt (ux, uy) (vx, vy) (jt js j).2 ux uy vx vy (jt js j).2.1 (jt js j).2.2 X rfl rfl rfl HU.out HVV.out (HAO.out j (by rw [HN.out]; exact hj)).2)
              have heg : eg < wr.heap.size := cell_block_lt v0
              clear hpn hu hv eu ev hbw c1 hal hal2 hb2 d1
              by_cases hx : vx ≤ ux
              · have hd : decide (vx ≤ ux) = true := decide_eq_true hx
                have HP1 := Lib.hid (show pairNo js i q = true by rw [HPN.out, decide_eq_false (by omega)]; rfl)
                clear hx
                go_wp2_with fail
                go_roundw
                case rel => exact ⟨q + 1, hltq, by go_num, by rw [← HA2.out]; exact allFrom_yes hltq HP1.out, HB5.out⟩
                case measure => simp [intOf]; omega
              · have hd : decide (vx ≤ ux) = false := decide_eq_false hx
                have HPP := Lib.hid (show pairNo js i q = !(allV k (beV (ux, uy) (vx, vy) js)) by rw [HPN.out, decide_eq_true (by omega), HPAS.out]; rfl)
                clear hx
                go_wp2_with fail
                rename World => wq
                go_loopw [9, 10] (fun b t w2 => ∃ (m : Nat) (gd : Bool), m ≤ k ∧ t = .int .i64 m ∧ b = .bool gd ∧ (gd && allFrom k m (beV (ux, uy) (vx, vy) js)) = allFrom k 0 (beV (ux, uy) (vx, vy) js) ∧ Below wo.heap.size wo w2 ∧
                    w2.cell? ⟨wq.heap.size, 0, none⟩ = some (.int .i64 ux) ∧ w2.cell? ⟨wq.heap.size, 1, none⟩ = some (.int .i64 uy) ∧ w2.cell? ⟨wq.heap.size + 1, 0, none⟩ = some (.int .i64 vx) ∧ w2.cell? ⟨wq.heap.size + 1, 1, none⟩ = some (.int .i64 vy) ∧ w2.cell? ⟨w.heap.size, 0, none⟩ = some (.slice (some ⟨g, 0, none⟩) k cap))
                  (fun _ t _ => k - (intOf t).toNat)
                case atStart => exact ⟨0, true, Nat.zero_le _, rfl, rfl, rfl, HB5.out, P0.out⟩
                case round =>
                  clear HB5 P0 p0 p1 p2 p3 u0 u1 v0 v1
                  obtain ⟨m, gd, hm, rfl, rfl, hgd, hbw, p0, p1, p2, p3, c1⟩ := hrel
                  have HGD := Lib.hid hgd
                  have HBm := Lib.hid hbw
                  clear hgd
                  by_cases hltm : m < k
                  · obtain ⟨a0, a1, a2, a3⟩ := (JRowAt.below HR.out (HB.out.trans (hbw.mono HB.out.size))).cells m (by rw [HN.out]; exact hltm)
                    have hG : beV (ux, uy) (vx, vy) js m = (decide (sid (ux, uy) (vx, vy) (jt js m).1 ≤ 0) && decide (0 ≤ sid (ux, uy) (vx, vy) (jt js m).2)) := rfl
                    have hS1 := fun X => HSU.out X m hltm
                    have hS2 := fun X => HSV.out X m hltm
                    obtain ⟨⟨⟨ix, iy⟩, ⟨ox, oy⟩⟩, ej⟩ : ∃ p, jt js m = p := ⟨_, rfl⟩
                    rw [ej] at a0 a1 a2 a3 hG hS1 hS2
                    dsimp only at a0 a1 a2 a3 hG hS1 hS2
                    generalize sid (ux, uy) (vx, vy) (ix, iy) = V1 at *
                    generalize sid (ux, uy) (vx, vy) (ox, oy) = V2 at *
                    have HS1 := Lib.hid hS1
                    have HS2 := Lib.hid hS2
                    have HG := Lib.hid hG
                    have hm0 : (0 : Int) ≤ (m : Int) := Int.natCast_nonneg _
                    have hmk : (m : Int) < (k : Int) := by omega
                    have hn1 := Since.nonempty wr
                    have s0 := fun (x : Since wr) => (x.cell _ _ (cell_block_lt p0)).trans p0
                    have s1 := fun (x : Since wr) => (x.cell _ _ (cell_block_lt p1)).trans p1
                    have s2 := fun (x : Since wr) => (x.cell _ _ (cell_block_lt p2)).trans p2
                    have s3 := fun (x : Since wr) => (x.cell _ _ (cell_block_lt p3)).trans p3
                    have s4 := fun (x : Since wr) => (x.cell _ _ (cell_block_lt c1)).trans c1
                    have s5 := fun (x : Since wr) => (x.cell _ _ (cell_block_lt a0)).trans a0
                    have s6 := fun (x : Since wr) => (x.cell _ _ (cell_block_lt a1)).trans a1
                    have s7 := fun (x : Since wr) => (x.cell _ _ (cell_block_lt a2)).trans a2
                    have s8 := fun (x : Since wr) => (x.cell _ _ (cell_block_lt a3)).trans a3
                    clear hS1 hS2 hG ej hbw
                    cases gd
                    · have HN1 := Lib.hid (show (false && allFrom k (m + 1) (beV (ux, uy) (vx, vy) js)) = allFrom k 0 (beV (ux, uy) (vx, vy) js) by rw [← HGD.out]; rfl)
                      go_wp2_with fail
                      refine wp_region_since (by kernel_rfl) (by kernel_rfl) ?_
                      repeat (go_big_quiet_step (first
                        | (go_at_call_of 11 (Value.agg #[Value.int .i64 ix, Value.int .i64 iy]); exact Since.call (HS1.out _))
                        | (go_at_call_of 11 (Value.agg #[Value.int .i64 ox, Value.int .i64 oy]); exact Since.call (HS2.out _))))
                      refine wpQuiet_nil ?_
                      rintro w8 ⟨⟨w8, hb8⟩, rfl⟩
                      have HB8 := Lib.hid (HBm.out.trans (hb8.mono HBm.out.size))
                      have p0 := cell_kept p0 hb8
                      have p1 := cell_kept p1 hb8
                      have p2 := cell_kept p2 hb8
                      have p3 := cell_kept p3 hb8
                      have c1 := cell_kept c1 hb8
                      clear hb8 s0 s1 s2 s3 s4 s5 s6 s7 s8 a0 a1 a2 a3
                      go_wp2_with fail
                      go_roundw
                      case rel => exact ⟨m + 1, false, hltm, by go_num, rfl, HN1.out, HB8.out, p0, p1, p2, p3, c1⟩
                      case measure => simp [intOf]; omega
                    · by_cases h1 : V1 ≤ 0
                      · have g1 : decide (V1 ≤ 0) = true := decide_eq_true h1
                        by_cases h2 : 0 ≤ V2
                        · have g2 : decide (0 ≤ V2) = true := decide_eq_true h2
                          have HG1 := Lib.hid (show beV (ux, uy) (vx, vy) js m = true by rw [HG.out, g1, g2]; rfl)
                          have HN1 := Lib.hid (show (true && allFrom k (m + 1) (beV (ux, uy) (vx, vy) js)) = allFrom k 0 (beV (ux, uy) (vx, vy) js) by rw [← HGD.out, Bool.true_and, Bool.true_and]; exact allFrom_yes hltm HG1.out)
                          clear h1 h2
                          go_wp2_with fail
                          refine wp_region_since (by kernel_rfl) (by kernel_rfl) ?_
                          repeat (go_big_quiet_step (first
                            | (go_at_call_of 11 (Value.agg #[Value.int .i64 ix, Value.int .i64 iy]); exact Since.call (HS1.out _))
                            | (go_at_call_of 11 (Value.agg #[Value.int .i64 ox, Value.int .i64 oy]); exact Since.call (HS2.out _))))
                          refine wpQuiet_nil ?_
                          rintro w8 ⟨⟨w8, hb8⟩, rfl⟩
                          have HB8 := Lib.hid (HBm.out.trans (hb8.mono HBm.out.size))
                          have p0 := cell_kept p0 hb8
                          have p1 := cell_kept p1 hb8
                          have p2 := cell_kept p2 hb8
                          have p3 := cell_kept p3 hb8
                          have c1 := cell_kept c1 hb8
                          clear hb8 s0 s1 s2 s3 s4 s5 s6 s7 s8 a0 a1 a2 a3
                          go_wp2_with fail
                          go_roundw
                          case rel => exact ⟨m + 1, true, hltm, by go_num, rfl, HN1.out, HB8.out, p0, p1, p2, p3, c1⟩
                          case measure => simp [intOf]; omega
                        · have g2 : decide (0 ≤ V2) = false := decide_eq_false h2
                          have HG1 := Lib.hid (show beV (ux, uy) (vx, vy) js m = false by rw [HG.out, g2, Bool.and_false])
                          have HN1 := Lib.hid (show (false && allFrom k (m + 1) (beV (ux, uy) (vx, vy) js)) = allFrom k 0 (beV (ux, uy) (vx, vy) js) by rw [← HGD.out, Bool.true_and, allFrom_no hltm HG1.out]; rfl)
                          clear h1 h2
                          go_wp2_with fail
                          refine wp_region_since (by kernel_rfl) (by kernel_rfl) ?_
                          repeat (go_big_quiet_step (first
                            | (go_at_call_of 11 (Value.agg #[Value.int .i64 ix, Value.int .i64 iy]); exact Since.call (HS1.out _))
                            | (go_at_call_of 11 (Value.agg #[Value.int .i64 ox, Value.int .i64 oy]); exact Since.call (HS2.out _))))
                          refine wpQuiet_nil ?_
                          rintro w8 ⟨⟨w8, hb8⟩, rfl⟩
                          have HB8 := Lib.hid (HBm.out.trans (hb8.mono HBm.out.size))
                          have p0 := cell_kept p0 hb8
                          have p1 := cell_kept p1 hb8
                          have p2 := cell_kept p2 hb8
                          have p3 := cell_kept p3 hb8
                          have c1 := cell_kept c1 hb8
                          clear hb8 s0 s1 s2 s3 s4 s5 s6 s7 s8 a0 a1 a2 a3
                          go_wp2_with fail
                          go_roundw
                          case rel => exact ⟨m + 1, false, hltm, by go_num, rfl, HN1.out, HB8.out, p0, p1, p2, p3, c1⟩
                          case measure => simp [intOf]; omega
                      · have g1 : decide (V1 ≤ 0) = false := decide_eq_false h1
                        have HG1 := Lib.hid (show beV (ux, uy) (vx, vy) js m = false by rw [HG.out, g1, Bool.false_and])
                        have HN1 := Lib.hid (show (false && allFrom k (m + 1) (beV (ux, uy) (vx, vy) js)) = allFrom k 0 (beV (ux, uy) (vx, vy) js) by rw [← HGD.out, Bool.true_and, allFrom_no hltm HG1.out]; rfl)
                        clear h1
                        go_wp2_with fail
                        refine wp_region_since (by kernel_rfl) (by kernel_rfl) ?_
                        repeat (go_big_quiet_step (first
                          | (go_at_call_of 11 (Value.agg #[Value.int .i64 ix, Value.int .i64 iy]); exact Since.call (HS1.out _))
                          | (go_at_call_of 11 (Value.agg #[Value.int .i64 ox, Value.int .i64 oy]); exact Since.call (HS2.out _))))
                        refine wpQuiet_nil ?_
                        rintro w8 ⟨⟨w8, hb8⟩, rfl⟩
                        have HB8 := Lib.hid (HBm.out.trans (hb8.mono HBm.out.size))
                        have p0 := cell_kept p0 hb8
                        have p1 := cell_kept p1 hb8
                        have p2 := cell_kept p2 hb8
                        have p3 := cell_kept p3 hb8
                        have c1 := cell_kept c1 hb8
                        clear hb8 s0 s1 s2 s3 s4 s5 s6 s7 s8 a0 a1 a2 a3
                        go_wp2_with fail
                        go_roundw
                        case rel => exact ⟨m + 1, false, hltm, by go_num, rfl, HN1.out, HB8.out, p0, p1, p2, p3, c1⟩
                        case measure => simp [intOf]; omega
                  · obtain rfl : m = k := by omega
                    have hgv : gd = allV m (beV (ux, uy) (vx, vy) js) := by
                      have := HGD.out
                      rw [allFrom_end, Bool.and_true] at this
                      rw [this]; rfl
                    have HPG := Lib.hid (show pairNo js i q = !gd by rw [HPP.out, hgv])
                    clear hbw hgv
                    cases gd
                    · have HP1 := Lib.hid (show pairNo js i q = true from HPG.out)
                      go_wp2_with fail
                      go_roundw
                      case rel => exact ⟨q + 1, hltq, by go_num, by rw [← HA2.out]; exact allFrom_yes hltq HP1.out, HBm.out⟩
                      case measure => simp [intOf]; omega
                    · have HP1 := Lib.hid (show pairNo js i q = false from HPG.out)
                      have HR0 := Lib.hid (show rowNo js i = false by rw [HRNO.out, ← allFrom_zero, ← HA2.out, allFrom_no hltq HP1.out])
                      go_wp2_with fail
                      go_ret
                      exact ⟨ret_bool (by rw [HV.out false (by rw [← allFrom_zero, ← HA.out, allFrom_no hlti HR0.out])]; rfl), HB.out.trans (HBm.out.mono HB.out.size)⟩
            · obtain rfl : q = N := by omega
              have HR1 := Lib.hid (show rowNo js i = true by rw [HRNO.out, ← allFrom_zero, ← HA2.out, allFrom_end])
              clear hbw
              go_wp2_with fail
              go_roundw
              case rel => exact ⟨i + 1, hlti, by go_num, by rw [← HA.out]; exact allFrom_yes hlti HR1.out, HBq.out⟩
              case measure => simp [intOf]; omega
        · obtain rfl : i = N := by omega
          go_wp2_with fail
          go_ret
          exact ⟨ret_bool (by rw [HV.out true (by rw [← allFrom_zero, ← HA.out, allFrom_end])]; rfl), HB.out.trans (HBi.out.mono HB.out.size)⟩
end Go.Proofs.Ytoholdpobkgffaa
