/- The conditions of an arch under loads, plainly; The conditions of an arch under loads: what RowsOf answers; The conditions of an arch under loads: the model's RowsOf. -/
import Derived.Test.YtbmlcfdilopmgaaGCond
import Derived.Test.YtbmlcfdilopmgaaGPlain
import Derived.Test.YtbmlcfdilopmgaaGLoad

/- The conditions of an arch under loads, plainly. -/
namespace Go.Proofs.Ytbmlcfdilopmgaa
set_option maxRecDepth 100000

/-- The two conditions of joint k: about Inner, about Outer. -/
def cdI (js : List Jt) (ls : List Ld) (k : Nat) : Cd := ((jt js k).1.2, -(jt js k).1.1, 1, sumTo (mL js ls) k - (jt js k).1.1 * sumTo (wL js ls) k)
def cdO (js : List Jt) (ls : List Ld) (k : Nat) : Cd := (-(jt js k).2.2, (jt js k).2.1, -1, (jt js k).2.1 * sumTo (wL js ls) k - sumTo (mL js ls) k)
/-- Those of the first k joints; all of them, with the last one. -/
def cdsTo (js : List Jt) (ls : List Ld) (k : Nat) : List Cd := (List.range k).flatMap fun i => [cdI js ls i, cdO js ls i]
theorem cdsTo_next (js : List Jt) (ls : List Ld) (k : Nat) : cdsTo js ls (k + 1) = cdsTo js ls k ++ [cdI js ls k, cdO js ls k] := by
  unfold cdsTo; rw [List.range_succ, List.flatMap_append]; simp
theorem cdsTo_length (js : List Jt) (ls : List Ld) (k : Nat) : (cdsTo js ls k).length = 2 * k := by
  induction k with
  | zero => rfl
  | succ k ih => rw [cdsTo_next, List.length_append, ih]; simp; omega
def cdsV (js : List Jt) (ls : List Ld) : List Cd := cdsTo js ls js.length ++ [(-1, 0, 0, 0)]
theorem cdsV_length (js : List Jt) (ls : List Ld) : (cdsV js ls).length = 2 * js.length + 1 := by
  unfold cdsV; rw [List.length_append, cdsTo_length]; rfl
/-- What RowsOf answers. -/
def rowsV (js : List Jt) (ls : List Ld) : List Cd := if loadsV js ls && cdsOk (cdsV js ls) then cdsV js ls else []
theorem rowsV_l {js : List Jt} {ls : List Ld} (h : loadsV js ls = false) : rowsV js ls = [] := by unfold rowsV; rw [h]; rfl
theorem rowsV_c {js : List Jt} {ls : List Ld} (h : cdsOk (cdsV js ls) = false) : rowsV js ls = [] := by unfold rowsV; rw [h, Bool.and_false]; rfl
theorem rowsV_yes {js : List Jt} {ls : List Ld} (hl : loadsV js ls = true) (h : cdsOk (cdsV js ls) = true) : rowsV js ls = cdsV js ls := by unfold rowsV; rw [hl, h]; rfl
theorem rowsV_length (js : List Jt) (ls : List Ld) : (rowsV js ls).length ≤ 17 := by
  unfold rowsV
  split
  · rename_i h
    rw [Bool.and_eq_true] at h
    have := arch_size (loadsV_iff.1 h.1).1
    rw [cdsV_length]
    omega
  · simp

/-- The products of a joint's conditions are small. -/
structure CdIn (js : List Jt) (ls : List Ld) (k : Nat) : Prop where
  w : -32000000 ≤ sumTo (wL js ls) k ∧ sumTo (wL js ls) k ≤ 32000000
  m : -75000000 ≤ sumTo (mL js ls) k ∧ sumTo (mL js ls) k ≤ 75000000
  ax : -60 ≤ (jt js k).1.1 ∧ (jt js k).1.1 ≤ 60
  ay : -60 ≤ (jt js k).1.2 ∧ (jt js k).1.2 ≤ 60
  bx : -60 ≤ (jt js k).2.1 ∧ (jt js k).2.1 ≤ 60
  ly : -60 ≤ (jt js k).2.2 ∧ (jt js k).2.2 ≤ 60
theorem cd_in {js : List Jt} {ls : List Ld} (h : loadsV js ls = true) {k : Nat} (hk : k < js.length) : CdIn js ls k := by
  have h38 := arch_size (loadsV_iff.1 h).1
  obtain ⟨o1, o2⟩ := arch_ok (loadsV_iff.1 h).1 (i := k) hk
  have o1 := okP_iff.1 o1
  have o2 := okP_iff.1 o2
  exact ⟨wL_bd h k (by omega), mL_bd h k (by omega), by omega, by omega, by omega, by omega⟩
theorem xw_bd {x s : Int} (hx : -60 ≤ x ∧ x ≤ 60) (hs : -32000000 ≤ s ∧ s ≤ 32000000) : -1920000000 ≤ x * s ∧ x * s ≤ 1920000000 := by
  have := mulT_bd (x := x) (y := s) 60 32000000 (by omega) (by omega)
  omega
end Go.Proofs.Ytbmlcfdilopmgaa

/- The conditions of an arch under loads: what RowsOf answers. -/
namespace Go.Proofs.Ytbmlcfdilopmgaa
set_option maxRecDepth 100000
open Go.ChangeShapes Go.WideShapes Go.ChangeAt Go.RowKit

/-- The conditions were handed back, in new memory. -/
def RwAns (js : List Jt) (ls : List Ld) (w : World) (e : Ending) (w' : World) : Prop :=
  ∃ v, e = .returned v ∧ CdRow w' w.heap.size v (rowsV js ls) ∧ Below w.heap.size w w'
end Go.Proofs.Ytbmlcfdilopmgaa

/- The conditions of an arch under loads: the model's RowsOf. -/
namespace Go.Proofs.Ytbmlcfdilopmgaa
set_option maxRecDepth 100000
open Go.ChangeShapes Go.WideShapes Go.ChangeAt Go.RowKit

theorem cds_empty (w : World) (B : Nat) (hB : B ≤ w.heap.size) : CdRow (w.alloc (.cells #[] 104)) B (.slice (some ⟨w.heap.size, 0, none⟩) 0 0) [] :=
  World.ownsRow_lit (base := B) (e := 104) (size := 4) w #[] 0 hB (Nat.zero_le _) rfl

set_option maxRecDepth 100000 in
set_option maxHeartbeats 4000000 in
theorem specRowsOf (w : World) (B B2 g cap n : Nat) (la : Option Addr) (m lc : Nat) (js : List Jt) (ls : List Ld) (hr : JRowAt w B g cap js) (hn : js.length = n) (h8 : n ≤ 1048576) (hl : Lds w B2 la m lc ls) :
    Calls Try.prog 31 #[.agg #[.slice (some ⟨g, 0, none⟩) n cap], .slice la m lc] w (RwAns js ls w) := by
  obtain ⟨i0, hi0, hz0, hz1, hz2⟩ := info_parts Try.infoCd
  obtain ⟨-, hgw, hcap, hcm⟩ := hr.lt
  rw [hn] at hcap
  unfold maxLen at hcm
  have hal := cd_al w (.cells #[.slice (some ⟨g, 0, none⟩) n cap] 26)
  have hal2 := cd_al (w.alloc (.cells #[.slice (some ⟨g, 0, none⟩) n cap] 26)) (.cells #[] 104)
  have hb0 := hal.trans (hal2.mono hal.size)
  have HR0 := Lib.hid (JRowAt.below hr hb0)
  have HL0 := Lib.hid (hl.below hb0)
  have HB0 := Lib.hid hb0
  have HN := Lib.hid hn
  have hc0 : ((w.alloc (.cells #[.slice (some ⟨g, 0, none⟩) n cap] 26)).alloc (.cells #[] 104)).cell? ⟨w.heap.size, 0, none⟩ = some (.slice (some ⟨g, 0, none⟩) n cap) := by go_simp
  have HC0 := Lib.hid hc0
  have HE0 := Lib.hid (cds_empty (w.alloc (.cells #[.slice (some ⟨g, 0, none⟩) n cap] 26)) (w.heap.size + 1) (by simp))
  simp only [World.size_alloc] at HE0
  have HR := Lib.hid hr
  clear hr hn hl hal hal2 hb0 hc0
  cases h : loadsV js ls
  · have HV := Lib.hid (rowsV_l h)
    have H := Lib.hid h
    clear h
    go_enter Try.func31, Try.ntmps31
    go_wp2_with fail
    refine (specLoadsOk _ _ _ _ _ _ _ _ _ js ls HR0.out HN.out h8 HL0.out).mono ?_
    rintro e w1 ⟨rfl, hb1⟩
    rw [H.out]
    have HB1 := Lib.hid (HB0.out.trans (hb1.mono HB0.out.size))
    have HE1 := Lib.hid (CdRow.below HE0.out hb1)
    clear hb1
    go_wp2_with fail
    go_ret
    refine ⟨.slice (some ⟨w.heap.size + 1, 0, none⟩) 0 0, rfl, by rw [HV.out]; exact CdRow.base HE1.out (Nat.le_succ _), HB1.out⟩
  have h38 := arch_size (loadsV_iff.1 h).1
  rw [HN.out] at h38
  have H := Lib.hid h
  clear h
  go_enter Try.func31, Try.ntmps31
  go_wp2_with fail
  refine (specLoadsOk _ _ _ _ _ _ _ _ _ js ls HR0.out HN.out h8 HL0.out).mono ?_
  rintro e w1 ⟨rfl, hb1⟩
  rw [H.out]
  have HB1 := Lib.hid (HB0.out.trans (hb1.mono HB0.out.size))
  have HE1 := Lib.hid (CdRow.below HE0.out hb1)
  have c1 := tcell HC0.out hb1
  have HR1 := Lib.hid (JRowAt.below HR0.out hb1)
  have HL1 := Lib.hid (HL0.out.below hb1)
  clear hb1 HB0 HE0 HC0 HR0 HL0
  go_wp2_with fail
  refine (specLeft _ _ _ _ _ _ _ _ _ js ls HR1.out HN.out HL1.out H.out).mono ?_
  rintro e w2 ⟨g1, cc1, g2, cc2, rfl, hs1, hs2, hb2⟩
  have HB2 := Lib.hid (HB1.out.trans (hb2.mono HB1.out.size))
  have HE2 := Lib.hid (CdRow.below HE1.out hb2)
  have C2 := Lib.hid (tcell c1 hb2)
  have hw1 : w.heap.size + 1 ≤ w1.heap.size := cell_block_lt c1
  have S1 : RowKit.Hid (SumRow w2 (w.heap.size + 1) g1 cc1 n (wL js ls)) := Lib.hid (owns_base hs1 hw1)
  have S2 : RowKit.Hid (SumRow w2 (w.heap.size + 1) g2 cc2 n (mL js ls)) := Lib.hid (owns_base hs2 hw1)
  clear hb2 hs1 hs2 c1 hw1 HB1 HE1 HR1 HL1
  have hcc1 := S1.out.lt
  have hcc2 := S2.out.lt
  unfold maxLen at hcc1 hcc2
  go_wp2_with fail
  go_loopw [5, 8] (fun q t wr => ∃ (k N : Nat) (sa : Option Addr) (cc : Nat), k ≤ n ∧ N = 2 * k ∧ t = .int .i64 k ∧ q = .slice sa N cc ∧ wr.ownsRow (w.heap.size + 1) 104 4 (.slice sa N cc) N (flat4 (cdsTo js ls k)) ∧ Below w.heap.size w wr ∧
      wr.cell? ⟨w.heap.size, 0, none⟩ = some (.slice (some ⟨g, 0, none⟩) n cap) ∧ SumRow wr (w.heap.size + 1) g1 cc1 n (wL js ls) ∧ SumRow wr (w.heap.size + 1) g2 cc2 n (mL js ls))
    (fun _ t _ => n - (intOf t).toNat)
  case atStart => exact ⟨0, 0, some ⟨w.heap.size + 1, 0, none⟩, 0, Nat.zero_le _, rfl, rfl, rfl, HE2.out, HB2.out, C2.out, S1.out, S2.out⟩
  case round =>
    clear HB2 HE2 C2 S1 S2
    obtain ⟨k, N, sa, cc, hk, hNk, rfl, rfl, hown, hbw, c0, s1, s2⟩ := hrel
    have HB := Lib.hid hbw
    have HO := Lib.hid hown
    have R1 := Lib.hid s1
    have R2 := Lib.hid s2
    obtain ⟨hcc, hcm2⟩ := own_cap hown
    unfold maxLen at hcm2
    have hN16 : N ≤ 16 := by omega
    have HNK := Lib.hid hNk
    clear hown hNk
    by_cases hlt : k < n
    · have hlN := HN.out
      obtain ⟨a0, a1, a2, a3⟩ := (JRowAt.below HR.out hbw).cells k (by omega)
      have e1 := s1.cell k hlt
      have e2 := s2.cell k hlt
      obtain ⟨hw, hm, hax, hay, hbx, hby⟩ := cd_in H.out (k := k) (by omega)
      have HNX := Lib.hid (cdsTo_next js ls k)
      have HI : RowKit.Hid (cdI js ls k = ((jt js k).1.2, -(jt js k).1.1, 1, sumTo (mL js ls) k - (jt js k).1.1 * sumTo (wL js ls) k)) := Lib.hid rfl
      have HOO : RowKit.Hid (cdO js ls k = (-(jt js k).2.2, (jt js k).2.1, -1, (jt js k).2.1 * sumTo (wL js ls) k - sumTo (mL js ls) k)) := Lib.hid rfl
      generalize (jt js k).1.1 = px at *
      generalize (jt js k).1.2 = py at *
      generalize (jt js k).2.1 = qx at *
      generalize (jt js k).2.2 = qy at *
      generalize sumTo (wL js ls) k = S at *
      generalize sumTo (mL js ls) k = M at *
      have hp1 := xw_bd hax hw
      have hp2 := xw_bd hbx hw
      obtain ⟨P1, hP1⟩ : ∃ q, q = px * S := ⟨_, rfl⟩
      obtain ⟨P2, hP2⟩ : ∃ q, q = qx * S := ⟨_, rfl⟩
      obtain ⟨npx, hnpx⟩ : ∃ q, q = -px := ⟨_, rfl⟩
      obtain ⟨d1, hd1⟩ : ∃ q, q = M - P1 := ⟨_, rfl⟩
      obtain ⟨nqy, hnqy⟩ : ∃ q, q = -qy := ⟨_, rfl⟩
      obtain ⟨nd2, hnd2⟩ : ∃ q, q = P2 - M := ⟨_, rfl⟩
      have x1 : IntKind.i64.wrap (px * S) = P1 := by rw [hP1]; exact IntWalk.i64_in _ (by omega)
      have x2 : IntKind.i64.wrap (qx * S) = P2 := by rw [hP2]; exact IntWalk.i64_in _ (by omega)
      have x3 : IntKind.i64.wrap (-px) = npx := by rw [hnpx]; exact IntWalk.i64_in _ (by omega)
      have x4 : IntKind.i64.wrap (-qy) = nqy := by rw [hnqy]; exact IntWalk.i64_in _ (by omega)
      have x5 : IntKind.i64.wrap (M - P1) = d1 := by rw [hd1]; exact IntWalk.i64_in _ (by omega)
      have x6 : IntKind.i64.wrap (P2 - M) = nd2 := by rw [hnd2]; exact IntWalk.i64_in _ (by omega)
      rw [← hP1, ← hnpx, ← hd1] at HI
      rw [← hP2, ← hnqy, ← hnd2] at HOO
      rw [HI.out, HOO.out] at HNX
      have hk0 : (0 : Int) ≤ (k : Int) := Int.natCast_nonneg _
      have hkn : (k : Int) < (n : Int) := by omega
      have lg := cell_block_lt a0
      have lw := cell_block_lt c0
      dsimp only at lg lw
      have mg := Nat.ne_of_lt (cell_block_lt a0)
      have mw := Nat.ne_of_lt (cell_block_lt c0)
      have m1 := Nat.ne_of_lt (cell_block_lt e1)
      have m2 := Nat.ne_of_lt (cell_block_lt e2)
      have HLT := Lib.hid (cell_block_lt c0)
      dsimp only at mg mw m1 m2
      have ng := Ne.symm mg
      have nw := Ne.symm mw
      have n1 := Ne.symm m1
      have n2 := Ne.symm m2
      have hal1 := cd_al wr (.cells #[.int .i64 px, .int .i64 py] 100)
      have hal2 := cd_al (wr.alloc (.cells #[.int .i64 px, .int .i64 py] 100)) (.cells #[.int .i64 qx, .int .i64 qy] 100)
      have hal := hal1.trans (hal2.mono hal1.size)
      have p0 : ((wr.alloc (.cells #[.int .i64 px, .int .i64 py] 100)).alloc (.cells #[.int .i64 qx, .int .i64 qy] 100)).cell? ⟨wr.heap.size, 0, none⟩ = some (.int .i64 px) := by go_simp
      have p1 : ((wr.alloc (.cells #[.int .i64 px, .int .i64 py] 100)).alloc (.cells #[.int .i64 qx, .int .i64 qy] 100)).cell? ⟨wr.heap.size, 1, none⟩ = some (.int .i64 py) := by go_simp
      have q0 : ((wr.alloc (.cells #[.int .i64 px, .int .i64 py] 100)).alloc (.cells #[.int .i64 qx, .int .i64 qy] 100)).cell? ⟨wr.heap.size + 1, 0, none⟩ = some (.int .i64 qx) := by go_simp
      have q1 : ((wr.alloc (.cells #[.int .i64 px, .int .i64 py] 100)).alloc (.cells #[.int .i64 qx, .int .i64 qy] 100)).cell? ⟨wr.heap.size + 1, 1, none⟩ = some (.int .i64 qy) := by go_simp
      have HBZ := Lib.hid (HB.out.trans (hal.mono HB.out.size))
      have HOZ := Lib.hid (owns_below HO.out hal)
      have RZ1 := Lib.hid (R1.out.below hal)
      have RZ2 := Lib.hid (R2.out.below hal)
      have CZ := Lib.hid (tcell c0 hal)
      have E1 := Lib.hid (tcell e1 hal)
      have E2 := Lib.hid (tcell e2 hal)
      have P0 := Lib.hid p0
      have P1' := Lib.hid p1
      have Q0 := Lib.hid q0
      have Q1 := Lib.hid q1
      clear HI HOO hP1 hP2 hnpx hd1 hnqy hnd2 hp1 hp2 hw hm hax hay hbx hby hbw hlN s1 s2 hal hal1 hal2 p0 p1 q0 q1 R1 R2
      go_upto_region 10 with (fail)
      generalize hZ : (wr.alloc (.cells #[.int .i64 px, .int .i64 py] 100)).alloc (.cells #[.int .i64 qx, .int .i64 qy] 100) = Z at *
      clear hZ a0 a1 a2 a3 c0 e1 e2 lg lw mg mw m1 m2 ng nw n1 n2
      have p0 := P0.out
      have p1 := P1'.out
      have q0 := Q0.out
      have q1 := Q1.out
      have e1 := E1.out
      have e2 := E2.out
      have hzy := HBZ.out.size
      have m1 := Nat.ne_of_lt (cell_block_lt p0)
      have m2 := Nat.ne_of_lt (cell_block_lt q0)
      have m3 := Nat.ne_of_lt (cell_block_lt e1)
      have m4 := Nat.ne_of_lt (cell_block_lt e2)
      dsimp only at m1 m2 m3 m4
      have o1 := own_other (RZ1.out : Z.ownsRow _ _ _ _ _ _) HOZ.out (by decide)
      have o2 := own_other (RZ2.out : Z.ownsRow _ _ _ _ _ _) HOZ.out (by decide)
      have O1 : RowKit.Hid (some g1 ≠ (Value.slice sa N cc).ownBlock) := Lib.hid (by rcases o1 with h | h <;> simp [Value.ownBlock] at h ⊢ <;> exact h)
      have O2 : RowKit.Hid (some g2 ≠ (Value.slice sa N cc).ownBlock) := Lib.hid (by rcases o2 with h | h <;> simp [Value.ownBlock] at h ⊢ <;> exact h)
      have hzz := HLT.out
      clear o1 o2 P0 P1' Q0 Q1
      go_region_held3 (fun w' => w'.cell? ⟨wr.heap.size, 0, none⟩ = some (.int .i64 px) ∧ w'.cell? ⟨wr.heap.size, 1, none⟩ = some (.int .i64 py) ∧ w'.cell? ⟨wr.heap.size + 1, 0, none⟩ = some (.int .i64 qx) ∧ w'.cell? ⟨wr.heap.size + 1, 1, none⟩ = some (.int .i64 qy) ∧ w'.cell? ⟨g1, k, none⟩ = some (.int .i64 S) ∧ w'.cell? ⟨g2, k, none⟩ = some (.int .i64 M))
        (first | (exact K6.out) | (exact ⟨p0, p1, q0, q1, e1, e2⟩) | (exact ⟨cell_kept p0 (cd_al _ _), cell_kept p1 (cd_al _ _), cell_kept q0 (cd_al _ _), cell_kept q1 (cd_al _ _), cell_kept e1 (cd_al _ _), cell_kept e2 (cd_al _ _)⟩) | go_keep | trivial)
        ((refine step_append_lies _ (by rfl) _ _ _ (by rfl) (w.heap.size + 1) 104 i0 _ 4 32 Try.underlying66 hi0 hz0 hz1 hz2 rfl (by omega) (.slice sa N cc) _ _ (by rfl) (World.ownsRow.alloc HOZ.out _)
              ⟨Z.heap.size, 0, none⟩ 2 2 [.int .i64 py, .int .i64 npx, .int .i64 1, .int .i64 d1, .int .i64 nqy, .int .i64 qx, .int .i64 (-1), .int .i64 nd2] (by rfl) (by rfl) (World.news_of_block (cs := #[.int .i64 py, .int .i64 npx, .int .i64 1, .int .i64 d1, .int .i64 nqy, .int .i64 qx, .int .i64 (-1), .int .i64 nd2]) (t := 104) (fr := (0, 0)) (heap_alloc_new Z _)) (by simp [Value.oneCell'])
              (by omega) (by unfold maxLen; omega) (by omega) (by simp; omega) (Z.heap.size + 1) (by simp) ?_; intro gg cp w6 hown6 hgrow6 hat hgl; have K6 := Lib.hid (And.intro (far_high HO.out hgrow6 (Nat.le_refl _) (cell_kept p0 (tbelowD (cd_al Z _)))) (And.intro (far_high HO.out hgrow6 (Nat.le_refl _) (cell_kept p1 (tbelowD (cd_al Z _)))) (And.intro (far_high HO.out hgrow6 (Nat.le_succ _) (cell_kept q0 (tbelowD (cd_al Z _)))) (And.intro (far_high HO.out hgrow6 (Nat.le_succ _) (cell_kept q1 (tbelowD (cd_al Z _)))) (And.intro ((World.grownBy.cell_far hgrow6 ⟨g1, k, none⟩ (cell_block_lt (cell_kept e1 (tbelowD (cd_al Z _)))) O1.out).trans (cell_kept e1 (tbelowD (cd_al Z _)))) ((World.grownBy.cell_far hgrow6 ⟨g2, k, none⟩ (cell_block_lt (cell_kept e2 (tbelowD (cd_al Z _)))) O2.out).trans (cell_kept e2 (tbelowD (cd_al Z _)))))))))))
      all_goals
        have HO6 : RowKit.Hid (w6.ownsRow (w.heap.size + 1) 104 4 (.slice (some ⟨gg, 0, none⟩) (N + 2) cp) (N + 2) (flat4 (cdsTo js ls (k + 1)))) := Lib.hid (by rw [HNX.out, flat4_two]; exact hown6)
        have hoy := World.ownsRow.drew (World.ownsRow.alloc HOZ.out (.cells #[.int .i64 py, .int .i64 npx, .int .i64 1, .int .i64 d1, .int .i64 nqy, .int .i64 qx, .int .i64 (-1), .int .i64 nd2] 104))
        have HB6 : RowKit.Hid (Below w.heap.size w w6) := Lib.hid ((tbelowD (HBZ.out.alloc hzy _)).grown hgrow6 (by simp; omega) (fun j hj => by have := (World.ownsRow.lt hoy j hj).1; omega))
        have C6 := Lib.hid (far_low hoy hgrow6 (Nat.lt_succ_self _) (cell_kept CZ.out (tbelowD (cd_al Z _))))
        have R61 : RowKit.Hid (SumRow w6 (w.heap.size + 1) g1 cc1 n (wL js ls)) := Lib.hid (SumRow.kept (World.ownsRow.drew (World.ownsRow.alloc RZ1.out _)) hgrow6 O1.out)
        have R62 : RowKit.Hid (SumRow w6 (w.heap.size + 1) g2 cc2 n (mL js ls)) := Lib.hid (SumRow.kept (World.ownsRow.drew (World.ownsRow.alloc RZ2.out _)) hgrow6 O2.out)
        clear hoy hown6 hgrow6 hat hgl K6 p0 p1 q0 q1 e1 e2
        go_wp2_with fail
        go_roundw
      all_goals first
        | exact ⟨k + 1, N + 2, _, _, by omega, by have := HNK.out; omega, by go_num, rfl, HO6.out, HB6.out, C6.out, R61.out, R62.out⟩
        | (simp [intOf]; omega)
    · obtain rfl : k = n := by omega
      have hwz := HB.out.size
      clear hbw s1 s2
      have HV := Lib.hid (show cdsV js ls = cdsTo js ls k ++ [(-1, 0, 0, 0)] by unfold cdsV; rw [HN.out])
      go_upto_region 12 with (at_builtin; refine wpList_append_lies _ rfl _ _ _ rfl (w.heap.size + 1) 104 i0 _ 4 32 Try.underlying66 hi0 hz0 hz1 hz2 rfl (by omega) (.slice sa N cc) N (flat4 (cdsTo js ls k)) (by rfl) (World.ownsRow.alloc HO.out _) ⟨wr.heap.size, 0, none⟩ 1 1 [.int .i64 (-1), .int .i64 0, .int .i64 0, .int .i64 0] (by rfl) (by rfl) (World.news_of_block (cs := #[.int .i64 (-1), .int .i64 0, .int .i64 0, .int .i64 0]) (t := 104) (fr := (0, 0)) (heap_alloc_new wr _)) (by simp [Value.oneCell']) (by omega) (by unfold maxLen; omega) (by omega) (by simp; omega) (wr.heap.size + 1) (by simp) ?_; intro gg cp w4 hown4 hgrow4 hat4 hgl4; have HO4 := Lib.hid hown4; have HG4 := Lib.hid hgrow4; clear hown4 hgrow4)
      have hb4 : Below w.heap.size w w4 := (HB.out.alloc HB.out.size _).grown HG4.out (by simp; omega) (fun j hj => by have := (World.ownsRow.lt HO.out j hj).1; omega)
      have hrow4 : CdRow w4 (w.heap.size + 1) (.slice (some ⟨gg, 0, none⟩) (N + 1) cp) (cdsV js ls) := by
        unfold CdRow
        rw [cdsV_length, HN.out, ← HNK.out, HV.out, flat4_one]
        exact HO4.out
      have hlv : (cdsV js ls).length = N + 1 := by rw [cdsV_length, HN.out, ← HNK.out]
      have HB4 := Lib.hid hb4
      have HRW := Lib.hid (show Cds w4 (w.heap.size + 1) (some ⟨gg, 0, none⟩) (N + 1) cp (cdsV js ls) from ⟨hrow4, hlv⟩)
      have HLV := Lib.hid hlv
      obtain ⟨hcp, hcpm⟩ := HRW.out.cap
      unfold maxLen at hcpm
      have HOKV := Lib.hid (show cdsOk (cdsV js ls) = allFrom (N + 1) 0 (cdOkAt (cdsV js ls)) by unfold cdsOk; rw [hlv]; rfl)
      have HVY := Lib.hid (fun (hc : cdsOk (cdsV js ls) = true) => rowsV_yes H.out hc)
      have HVN := Lib.hid (fun (hc : cdsOk (cdsV js ls) = false) => rowsV_c (js := js) (ls := ls) hc)
      obtain ⟨Q, hQ⟩ : ∃ Q, Q = N + 1 := ⟨_, rfl⟩
      have hQ16 : Q ≤ 17 := by omega
      rw [← hQ] at HOKV HRW HLV hcp
      generalize cdsV js ls = rs at *
      have hqi : (N : Int) + 1 = (Q : Int) := by omega
      clear hb4 hrow4 hlv HV HO4 HG4 hat4 hgl4 HO c0
      rw [← hQ]
      clear hQ
      go_wp2_with fail
      go_loopw [11] (fun t wr => ∃ k : Nat, k ≤ Q ∧ t = .int .i64 k ∧ allFrom Q k (cdOkAt rs) = allFrom Q 0 (cdOkAt rs) ∧ Below w4.heap.size w4 wr)
        (fun t _ => Q - (intOf t).toNat)
      case atStart => exact ⟨0, Nat.zero_le _, rfl, rfl, Below.refl _ _⟩
      case round =>
        obtain ⟨i, hi, rfl, hall, hbi⟩ := hrel
        have HBI := Lib.hid (HB4.out.trans (hbi.mono HB4.out.size))
        have HBJ := Lib.hid hbi
        have HA := Lib.hid hall
        clear hall
        by_cases hlt2 : i < Q
        · obtain ⟨gr, hgr, -, a0, a1, a2, a3⟩ := (HRW.out.below hbi).at i hlt2
          simp only [Option.some.injEq, Addr.mk.injEq, and_true] at hgr
          subst hgr
          have HP := Lib.hid (show cdOkAt rs i = cdOk (cd rs i).1 (cd rs i).2.1 (cd rs i).2.2.1 (cd rs i).2.2.2 from rfl)
          generalize (cd rs i).1 = x at *
          generalize (cd rs i).2.1 = y at *
          generalize (cd rs i).2.2.1 = z at *
          generalize (cd rs i).2.2.2 = u at *
          have HC := Lib.hid (fun w => specRowOk x y z u w)
          clear hbi
          cases hf : cdOk x y z u
          · have HX := Lib.hid (HVN.out (by rw [HOKV.out, ← HA.out]; exact allFrom_no hlt2 (HP.out.trans hf)))
            go_wp2_with fail
            refine (HC.out _).mono ?_
            rintro e w5 ⟨rfl, hb5⟩
            rw [hf]
            have HB5 := Lib.hid (HBI.out.trans (hb5.mono HBI.out.size))
            clear hb5
            go_wp2_with fail
            go_ret
            refine ⟨.slice (some ⟨w5.heap.size, 0, none⟩) 0 0, rfl, by rw [HX.out]; exact cds_empty _ _ HB5.out.size, cal HB5.out _⟩
          · have HX := Lib.hid (show allFrom Q (i + 1) (cdOkAt rs) = allFrom Q 0 (cdOkAt rs) by rw [← HA.out]; exact allFrom_yes hlt2 (HP.out.trans hf))
            go_wp2_with fail
            refine (HC.out _).mono ?_
            rintro e w5 ⟨rfl, hb5⟩
            rw [hf]
            have HB5 := Lib.hid (HBJ.out.trans (hb5.mono HBJ.out.size))
            clear hb5
            go_wp2_with fail
            go_roundw
            case rel => exact ⟨i + 1, by omega, by go_num, HX.out, HB5.out⟩
            case measure => simp [intOf]; omega
        · obtain rfl : i = Q := by omega
          have HX := Lib.hid (HVY.out (by rw [HOKV.out, ← HA.out, allFrom_end]))
          have HRE := Lib.hid (HRW.out.below hbi)
          clear hbi
          go_wp2_with fail
          go_ret
          refine ⟨.slice (some ⟨gg, 0, none⟩) i cp, rfl, by rw [HX.out]; exact CdRow.base HRE.out.1 (Nat.le_succ _), HBI.out⟩
end Go.Proofs.Ytbmlcfdilopmgaa
