/- Arches: the contracts of the model's SameArch (of an arch and its like) and, without loads, of LoadsOk, l07Left, WeightLeft, TotalOf. -/
import Derived.Test.YtggkodhfhhjihaaDoorArchL
import Derived.Test.YtggkodhfhhjihaaDoorArchB
import Derived.Test.YtggkodhfhhjihaaDoorArchE
import Derived.Test.YtggkodhfhhjihaaDoorArchH
import Derived.Test.YtggkodhfhhjihaaDoorWeightS
import Derived.Deep.AppendLies
namespace Go.Proofs.YtggkodhfhhjihaaDoor
set_option maxRecDepth 100000
open Go.ChangeShapes Go.WideShapes Go.ChangeAt Go.RowKit

set_option maxHeartbeats 2000000 in
theorem sameArch (w : World) (B1 g1 cap1 B2 g2 cap2 n : Nat) (js : List Jt) (h1 : JRowAt w B1 g1 cap1 js) (h2 : JRowAt w B2 g2 cap2 js) (hn : js.length = n) :
    Calls Tryd.prog 16 #[.agg #[.slice (some ⟨g1, 0, none⟩) n cap1], .agg #[.slice (some ⟨g2, 0, none⟩) n cap2]] w fun e w' => e = .returned (.bool true) ∧ Below w.heap.size w w' := by
  have hb0 := ((Below.refl w.heap.size w).alloc (Nat.le_refl _) (.cells #[.slice (some ⟨g1, 0, none⟩) n cap1] 26)).alloc (by simp) (.cells #[.slice (some ⟨g2, 0, none⟩) n cap2] 26)
  obtain ⟨-, hg1, hc1, hm1⟩ := h1.lt
  obtain ⟨-, hg2, hc2, hm2⟩ := h2.lt
  rw [hn] at hc1 hc2
  unfold maxLen at hm1 hm2
  have s0 : ((w.alloc (.cells #[.slice (some ⟨g1, 0, none⟩) n cap1] 26)).alloc (.cells #[.slice (some ⟨g2, 0, none⟩) n cap2] 26)).cell? ⟨w.heap.size, 0, none⟩ = some (.slice (some ⟨g1, 0, none⟩) n cap1) := by go_simp
  have s1 : ((w.alloc (.cells #[.slice (some ⟨g1, 0, none⟩) n cap1] 26)).alloc (.cells #[.slice (some ⟨g2, 0, none⟩) n cap2] 26)).cell? ⟨w.heap.size + 1, 0, none⟩ = some (.slice (some ⟨g2, 0, none⟩) n cap2) := by go_simp
  have H1 := Lib.hid h1
  have H2 := Lib.hid h2
  have HN := Lib.hid hn
  have HB0 := Lib.hid hb0
  have S0 := Lib.hid s0
  have S1 := Lib.hid s1
  clear h1 h2 hn hb0 s0 s1
  go_enter Tryd.func16, Tryd.ntmps16
  go_wp2_with fail
  go_loopw [5] (fun t wr => ∃ k : Nat, k ≤ n ∧ t = .int .i64 k ∧ Below w.heap.size w wr ∧ wr.cell? ⟨w.heap.size, 0, none⟩ = some (.slice (some ⟨g1, 0, none⟩) n cap1) ∧ wr.cell? ⟨w.heap.size + 1, 0, none⟩ = some (.slice (some ⟨g2, 0, none⟩) n cap2))
    (fun t _ => n - (intOf t).toNat)
  case atStart => exact ⟨0, Nat.zero_le _, rfl, HB0.out, S0.out, S1.out⟩
  case round =>
    obtain ⟨k, hk, rfl, hbw, s0, s1⟩ := hrel
    have HB := Lib.hid hbw
    by_cases hlt : k < n
    · have hlN := HN.out
      obtain ⟨a0, a1, a2, a3⟩ := (H1.out.below hbw).cells k (by omega)
      obtain ⟨b0, b1, b2, b3⟩ := (H2.out.below hbw).cells k (by omega)
      generalize (jt js k).1.1 = px at *
      generalize (jt js k).1.2 = py at *
      generalize (jt js k).2.1 = pz at *
      generalize (jt js k).2.2 = pu at *
      clear hbw hlN
      go_wp2_with fail
      have hn1 := Since.nonempty wr
      have hz := HB.out.size
      have t0 := fun (x : Since wr) => (x.cell w.heap.size 0 (cell_block_lt s0)).trans s0
      have t1 := fun (x : Since wr) => (x.cell (w.heap.size + 1) 0 (cell_block_lt s1)).trans s1
      have sa0 := fun (x : Since wr) => (x.cell g1 (k * 4) (by omega)).trans a0
      have sa1 := fun (x : Since wr) => (x.cell g1 (k * 4 + 1) (by omega)).trans a1
      have sa2 := fun (x : Since wr) => (x.cell g1 (k * 4 + 2) (by omega)).trans a2
      have sa3 := fun (x : Since wr) => (x.cell g1 (k * 4 + 3) (by omega)).trans a3
      have sb0 := fun (x : Since wr) => (x.cell g2 (k * 4) (by omega)).trans b0
      have sb1 := fun (x : Since wr) => (x.cell g2 (k * 4 + 1) (by omega)).trans b1
      have sb2 := fun (x : Since wr) => (x.cell g2 (k * 4 + 2) (by omega)).trans b2
      have sb3 := fun (x : Since wr) => (x.cell g2 (k * 4 + 3) (by omega)).trans b3
      refine wp_region_since (by kernel_rfl) (by kernel_rfl) ?_
      repeat (go_big_quiet_step (fail))
      refine wpQuiet_nil ?_
      rintro w2 ⟨⟨_, hb2⟩, rfl⟩
      have HB2 := Lib.hid (HB.out.trans (hb2.mono hz))
      have T0 := Lib.hid (cell_kept s0 hb2)
      have T1 := Lib.hid (cell_kept s1 hb2)
      clear t0 t1 sa0 sa1 sa2 sa3 sb0 sb1 sb2 sb3 hb2 a0 a1 a2 a3 b0 b1 b2 b3 s0 s1
      go_wp2_with fail
      go_roundw
      case rel => exact ⟨k + 1, by omega, by go_num, HB2.out, T0.out, T1.out⟩
      case measure => simp [intOf]; omega
    · obtain rfl : k = n := by omega
      clear hbw
      go_wp2_with fail
      go_ret
      exact ⟨rfl, HB.out⟩

theorem loadsOkNil (w : World) (B g cap n : Nat) (js : List Jt) (hr : JRowAt w B g cap js) (hn : js.length = n) (h8 : n ≤ 1048576) :
    Calls Tryd.prog 54 #[.agg #[.slice (some ⟨g, 0, none⟩) n cap], .slice none 0 0] w fun e w' => e = .returned (.bool (archV js)) ∧ Below w.heap.size w w' := by
  have hb0 := (Below.refl w.heap.size w).alloc (Nat.le_refl _) (.cells #[.slice (some ⟨g, 0, none⟩) n cap] 26)
  have HR := Lib.hid (hr.below hb0)
  have HB0 := Lib.hid hb0
  have HN := Lib.hid hn
  clear hr hn hb0
  go_enter Tryd.func54, Tryd.ntmps54
  go_wp2_with fail
  refine wp_loop_rounds 1 ?_
  rw [rounds_succ]
  go_wp2_with fail
  refine (specArchOk _ _ _ _ _ js HR.out HN.out h8).mono ?_
  rintro e w1 ⟨rfl, hb1⟩
  have HB1 := Lib.hid (HB0.out.trans (hb1.mono HB0.out.size))
  clear hb1
  cases h : archV js
  all_goals
    go_wp2_with fail
    go_ret
    exact ⟨ret_bool (by simp [h]), HB1.out⟩

theorem Tryd.infoIn : (Tryd.prog.info? 3).map (fun i => (i.zero, i.size, i.bytes)) = some (some (.int .i64 0), 1, 8) := by kernel_rfl
/-- The cells of the first k of these numbers. -/
def sums (f : Nat → Int) (k : Nat) : List Value := (List.range k).map fun i => .int .i64 (sumTo f i)
theorem sums_length (f : Nat → Int) (k : Nat) : (sums f k).length = k := by simp [sums]
theorem sums_next (f : Nat → Int) (k : Nat) : sums f (k + 1) = sums f k ++ [.int .i64 (sumTo f k)] := by unfold sums; rw [List.range_succ, List.map_append]; rfl
theorem sums_at (f : Nat → Int) (k i : Nat) (h : i < k) : (sums f k)[i]? = some (.int .i64 (sumTo f i)) := by
  unfold sums
  rw [List.getElem?_map, List.getElem?_range h]
  rfl
/-- A row of sums of the call's own. -/
def SumRow (w : World) (H : Nat) (g c k : Nat) (f : Nat → Int) : Prop := w.ownsRow H 3 1 (.slice (some ⟨g, 0, none⟩) k c) k (sums f k)
theorem SumRow.below {w w' : World} {H g c k : Nat} {f : Nat → Int} (h : SumRow w H g c k f) (hb : Below w.heap.size w w') : SumRow w' H g c k f := owns_below h hb
theorem SumRow.lt {w : World} {H g c k : Nat} {f : Nat → Int} (h : SumRow w H g c k f) : H ≤ g ∧ g < w.heap.size ∧ k ≤ c ∧ c ≤ maxLen := by
  rcases h.2 with ⟨h1, -⟩ | ⟨g', cap', cur, h1, hB, hg, hc, hm, -⟩
  · simp at h1
  · simp at h1; obtain ⟨rfl, rfl⟩ := h1; exact ⟨hB, (Array.getElem?_eq_some_iff.1 hg).1, hc, hm⟩
theorem SumRow.cell {w : World} {H g c k : Nat} {f : Nat → Int} (h : SumRow w H g c k f) (i : Nat) (hi : i < k) : w.cell? ⟨g, i, none⟩ = some (.int .i64 (sumTo f i)) := by
  rw [World.ownsRow.cellAt h i (by omega)]
  exact sums_at f k i hi
theorem SumRow.kept {w w' : World} {H g c k : Nat} {f : Nat → Int} {row : Option Nat} (h : SumRow w H g c k f) (hg : w.grownBy w' row) (hne : some g ≠ row) : SumRow w' H g c k f :=
  World.ownsRow.kept h hg (.inr (by show some g ≠ row; exact hne))
theorem sum_one (w : World) (H : Nat) (f : Nat → Int) (hH : H ≤ w.heap.size) : SumRow (w.alloc (.cells #[.int .i64 0] 3)) H w.heap.size 1 1 f := by
  have := World.ownsRow_lit (base := H) (e := 3) (size := 1) w #[.int .i64 0] 1 hH (by unfold maxLen; omega) rfl
  exact this

/-- The sums of weights and moments were handed back, in new memory. -/
def LeftAns (js : List Jt) (n : Nat) (w : World) (e : Ending) (w' : World) : Prop :=
  ∃ g1 c1 g2 c2, e = .returned (.tuple #[.slice (some ⟨g1, 0, none⟩) n c1, .slice (some ⟨g2, 0, none⟩) n c2]) ∧ SumRow w' w.heap.size g1 c1 n (wK js) ∧ Below w.heap.size w w'

set_option maxHeartbeats 4000000 in
theorem leftNil (w : World) (B g cap n : Nat) (js : List Jt) (hr : JRowAt w B g cap js) (hn : js.length = n) (hv : archV js = true) :
    Calls Tryd.prog 55 #[.agg #[.slice (some ⟨g, 0, none⟩) n cap], .slice none 0 0] w (LeftAns js n w) := by
  obtain ⟨i0, hi0, hz0, hz1, hz2⟩ := info_parts Tryd.infoIn
  have hb0 := (Below.refl w.heap.size w).alloc (Nat.le_refl _) (.cells #[.slice (some ⟨g, 0, none⟩) n cap] 26)
  have h38 := arch_size hv
  rw [hn] at h38
  obtain ⟨h3, h8⟩ := h38
  obtain ⟨-, hgw, hcap, hcm⟩ := hr.lt
  rw [hn] at hcap
  unfold maxLen at hcm
  have hr1 := sum_one (w.alloc (.cells #[.slice (some ⟨g, 0, none⟩) n cap] 26)) (w.heap.size + 1) (wK js) (by simp)
  have hal : Below (w.alloc (.cells #[.slice (some ⟨g, 0, none⟩) n cap] 26)).heap.size (w.alloc (.cells #[.slice (some ⟨g, 0, none⟩) n cap] 26)) ((w.alloc (.cells #[.slice (some ⟨g, 0, none⟩) n cap] 26)).alloc (.cells #[.int .i64 0] 3)) := (Below.refl _ _).alloc (Nat.le_refl _) _
  have hr2 := sum_one ((w.alloc (.cells #[.slice (some ⟨g, 0, none⟩) n cap] 26)).alloc (.cells #[.int .i64 0] 3)) (w.heap.size + 1) (mK js) (by simp <;> omega)
  have hr1' := hr1.below ((Below.refl ((w.alloc (.cells #[.slice (some ⟨g, 0, none⟩) n cap] 26)).alloc (.cells #[.int .i64 0] 3)).heap.size _).alloc (Nat.le_refl _) (.cells #[.int .i64 0] 3))
  simp only [World.size_alloc] at hr1' hr2
  have hb2 := (hb0.alloc (by simp) (.cells #[.int .i64 0] 3)).alloc (by simp <;> omega) (.cells #[.int .i64 0] 3)
  have hs2 : (((w.alloc (.cells #[.slice (some ⟨g, 0, none⟩) n cap] 26)).alloc (.cells #[.int .i64 0] 3)).alloc (.cells #[.int .i64 0] 3)).cell? ⟨w.heap.size, 0, none⟩ = some (.slice (some ⟨g, 0, none⟩) n cap) := by go_simp
  have HR := Lib.hid hr
  have HN := Lib.hid hn
  have HV := Lib.hid hv
  have R1 := Lib.hid hr1'
  have R2 := Lib.hid hr2
  have HB2 := Lib.hid hb2
  have HS2 := Lib.hid hs2
  clear hr hn hv hb0 hr1 hr1' hr2 hal hb2 hs2
  go_enter Tryd.func55, Tryd.ntmps55
  go_wp2_with fail
  go_loopw [6, 7, 8] (fun p q t wr => ∃ k g1 c1 g2 c2 : Nat, 1 ≤ k ∧ k ≤ n ∧ t = .int .i64 k ∧ p = .slice (some ⟨g1, 0, none⟩) k c1 ∧ q = .slice (some ⟨g2, 0, none⟩) k c2 ∧ g1 ≠ g2 ∧
      SumRow wr (w.heap.size + 1) g1 c1 k (wK js) ∧ SumRow wr (w.heap.size + 1) g2 c2 k (mK js) ∧ Below w.heap.size w wr ∧ wr.cell? ⟨w.heap.size, 0, none⟩ = some (.slice (some ⟨g, 0, none⟩) n cap))
    (fun _ _ t _ => n - (intOf t).toNat)
  case atStart => exact ⟨1, w.heap.size + 1, 1, w.heap.size + 1 + 1, 1, Nat.le_refl _, by omega, rfl, rfl, rfl, by omega, R1.out, R2.out, HB2.out, HS2.out⟩
  case round =>
    clear R1 R2 HB2 HS2
    obtain ⟨k, g1, c1, g2, c2, hk1, hk, rfl, rfl, rfl, hne, r1, r2, hbw, hsw⟩ := hrel
    have HB := Lib.hid hbw
    have R1 := Lib.hid r1
    have R2 := Lib.hid r2
    obtain ⟨-, hl1, hkc1, hm1⟩ := r1.lt
    obtain ⟨-, hl2, hkc2, hm2⟩ := r2.lt
    unfold maxLen at hm1 hm2
    by_cases hlt : k < n
    · have hlN := HN.out
      obtain ⟨j, hj⟩ : ∃ j : Nat, j + 1 = k := ⟨k - 1, by omega⟩
      have hrw := JRowAt.below HR.out hbw
      obtain ⟨a0, a1, a2, a3⟩ := hrw.cells j (by omega)
      obtain ⟨d0, d1, d2, d3⟩ := hrw.cells k (by omega)
      have hS := arch_bet HV.out (i := j) (by omega)
      rw [hj] at hS
      have hwk : wK js j = weightV (betw (jt js j) (jt js k)) := by unfold wK; rw [hj]
      have hmk : mK js j = momV (betw (jt js j) (jt js k)) := by unfold mK; rw [hj]
      obtain ⟨⟨⟨ax, ay⟩, ⟨bx, by_⟩⟩, ea⟩ : ∃ p, jt js j = p := ⟨_, rfl⟩
      obtain ⟨⟨⟨cx, cy⟩, ⟨dx, dy⟩⟩, ec⟩ : ∃ p, jt js k = p := ⟨_, rfl⟩
      rw [ea] at a0 a1 a2 a3
      rw [ec] at d0 d1 d2 d3
      rw [ea, ec] at hS hwk hmk
      dsimp only at a0 a1 a2 a3 d0 d1 d2 d3
      have hSB := fun W => specStoneBetween ax ay bx by_ cx cy dx dy W
      unfold BetAns at hSB
      rw [betV_yes hS, hS] at hSB
      generalize betw ((ax, ay), (bx, by_)) ((cx, cy), (dx, dy)) = V at *
      have HSB := Lib.hid hSB
      have HWK := Lib.hid hwk
      have HMK := Lib.hid hmk
      have HJ := Lib.hid hj
      have e1 : IntKind.i64.wrap ((k : Int) - 1) = (j : Int) := by rw [IntWalk.i64_in _ (by omega)]; omega
      have hj0 : (0 : Int) ≤ (j : Int) := Int.natCast_nonneg _
      have hjn : (j : Int) < (n : Int) := by omega
      have hjk : (j : Int) < (k : Int) := by omega
      have hk0 : (0 : Int) ≤ (k : Int) := Int.natCast_nonneg _
      have hkn : (k : Int) < (n : Int) := by omega
      have mg := Nat.ne_of_lt (cell_block_lt a0)
      have mw := Nat.ne_of_lt (cell_block_lt hsw)
      dsimp only at mg mw
      have ng := Ne.symm mg
      have nw := Ne.symm mw
      clear hSB hwk hmk hj ea ec hrw hlN hbw hS r1 r2
      go_wp2_with fail
      go_cut [9, 10] from 20 to 37 (fun p r wx => ∃ (b : Nat) (ua : Option Addr) (uc : Nat), p = .pointer (some ⟨b, 0, none⟩) ∧ r = .bool true ∧ wx.cell? ⟨b, 0, none⟩ = some (.slice ua V.length uc) ∧ Row wx wr.heap.size (.slice ua V.length uc) V ∧ Below wr.heap.size wr wx)
      case first =>
        go_region_held3 (fun w' => w'.cell? ⟨w.heap.size, 0, none⟩ = some (.slice (some ⟨g, 0, none⟩) n cap) ∧ w'.cell? ⟨g, j * 4, none⟩ = some (.int .i64 ax) ∧ w'.cell? ⟨g, j * 4 + 1, none⟩ = some (.int .i64 ay) ∧ w'.cell? ⟨g, j * 4 + 2, none⟩ = some (.int .i64 bx) ∧ w'.cell? ⟨g, j * 4 + 3, none⟩ = some (.int .i64 by_) ∧ w'.cell? ⟨g, k * 4, none⟩ = some (.int .i64 cx) ∧ w'.cell? ⟨g, k * 4 + 1, none⟩ = some (.int .i64 cy) ∧ w'.cell? ⟨g, k * 4 + 2, none⟩ = some (.int .i64 dx) ∧ w'.cell? ⟨g, k * 4 + 3, none⟩ = some (.int .i64 dy))
          (first | (refine ⟨?_, ?_, ?_, ?_, ?_, ?_, ?_, ?_, ?_⟩ <;> exact cell_sf3 (by assumption) (by assumption)) | go_keep | trivial)
          (first
            | (go_at_call 56; refine (HSB.out _).mono ?_; rintro e w4 ⟨u4, rfl, hr4, hb4⟩; obtain ⟨sa4, sc4, hu4, -⟩ := row_sliceS hr4; have hs4 : Below wr.heap.size wr w4 := (by first | exact hb4 | exact st_drew3 hb4 | exact st_al3 hb4 | exact st_dal3 hb4); have hrb4 : Row w4 wr.heap.size u4 V := hr4.base (by simp); have R4 := Lib.hid hrb4; have D1 := Lib.hid (row_lt3 hr4); (first | (have D2 := Lib.hid (row_al3 (w := wr) hr4)) | (have D2 := Lib.hid (row_al3 (w := wr.drewN _) hr4)) | skip); have s4 : w4.cell? ⟨w.heap.size, 0, none⟩ = some (.slice (some ⟨g, 0, none⟩) n cap) := cell_kept hsw hs4; have a04 : w4.cell? ⟨g, j * 4, none⟩ = some (.int .i64 ax) := cell_kept a0 hs4; have a14 : w4.cell? ⟨g, j * 4 + 1, none⟩ = some (.int .i64 ay) := cell_kept a1 hs4; have a24 : w4.cell? ⟨g, j * 4 + 2, none⟩ = some (.int .i64 bx) := cell_kept a2 hs4; have a34 : w4.cell? ⟨g, j * 4 + 3, none⟩ = some (.int .i64 by_) := cell_kept a3 hs4; have d04 : w4.cell? ⟨g, k * 4, none⟩ = some (.int .i64 cx) := cell_kept d0 hs4; have d14 : w4.cell? ⟨g, k * 4 + 1, none⟩ = some (.int .i64 cy) := cell_kept d1 hs4; have d24 : w4.cell? ⟨g, k * 4 + 2, none⟩ = some (.int .i64 dx) := cell_kept d2 hs4; have d34 : w4.cell? ⟨g, k * 4 + 3, none⟩ = some (.int .i64 dy) := cell_kept d3 hs4; (first | (have z4 := fr_dal3 (w := wr) hb4) | (have z4 := fr_al3 (w := wr) hb4) | skip); (try (obtain ⟨zc4, zf4, zl4⟩ := z4)); have mg4 := Nat.ne_of_lt (cell_block_lt a04); have mw4 := Nat.ne_of_lt (cell_block_lt s4); dsimp only at mg4 mw4; have ng4 := Ne.symm mg4; have nw4 := Ne.symm mw4; have HB4 := Lib.hid hs4; clear hr4 hb4 hs4 hrb4; subst hu4))
        all_goals
          go_wp2_with fail
          go_meet
          refine ⟨_, sa4, sc4, rfl, rfl, by go_simp, ?_, ?_⟩
        all_goals first
          | exact ownsRow_setCell_other R4.out (a := ⟨wr.heap.size, 0, none⟩) D2.out _
          | exact World.ownsRow.alloc R4.out _
          | exact ownsRow_setCell_other (World.ownsRow.alloc R4.out _) (a := ⟨w4.heap.size, 0, none⟩) D1.out _
          | (repeat (first | refine Below.setCell ?_ (by first | exact Nat.le_refl _ | exact HB4.out.size) _ | exact HB4.out | exact below_al3 HB4.out _))
      case rest =>
        obtain ⟨b, ua, uc, rfl, rfl, hbx, hrx, hX⟩ := hcut
        have hz := HB.out.size
        have HB5 := Lib.hid (HB.out.trans (hX.mono hz))
        have s5 := cell_kept hsw hX
        have R15 := Lib.hid (R1.out.below hX)
        have R25 := Lib.hid (R2.out.below hX)
        have HRX := Lib.hid hrx
        have x5 := R15.out.cell j (by have := HJ.out; omega)
        have y5 := R25.out.cell j (by have := HJ.out; omega)
        have hsj := (wK_bd js j j (by omega)).2
        have hsk := (wK_bd js j k (by omega)).2
        have hmj := (mK_bd js j j (by omega)).2
        have hmk2 := (mK_bd js j k (by omega)).2
        have hn1 : sumTo (wK js) k = sumTo (wK js) j + weightV V := by rw [← HJ.out]; show sumTo (wK js) j + wK js j = _; rw [HWK.out]
        have hn2 : sumTo (mK js) k = sumTo (mK js) j + momV V := by rw [← HJ.out]; show sumTo (mK js) j + mK js j = _; rw [HMK.out]
        have hw5 := weightV_bd V
        have hm5 := momV_bd V
        have hCW := fun W h => specWeightOf W wr.heap.size (.slice ua V.length uc) V h
        have hCM := fun W h => specMomentOf W wr.heap.size (.slice ua V.length uc) V h
        have HS1 := Lib.hid (sums_next (wK js) k)
        have HS2 := Lib.hid (sums_next (mK js) k)
        generalize sumTo (wK js) j = Sj at *
        generalize sumTo (mK js) j = Mj at *
        generalize sumTo (wK js) k = Sk at *
        generalize sumTo (mK js) k = Mk at *
        generalize weightV V = Wv at *
        generalize momV V = Mv at *
        have HN1 := Lib.hid hn1
        have HN2 := Lib.hid hn2
        have HCW := Lib.hid hCW
        have HCM := Lib.hid hCM
        clear hX hrx mg mw ng nw a0 a1 a2 a3 d0 d1 d2 d3 HB R1 R2 hn1 hn2 hCW hCM hsw
        go_wp2_with fail
        have hn1 := Since.nonempty wc
        have t0 := fun (x : Since wc) => (x.cell g1 j (cell_block_lt x5)).trans x5
        have t1 := fun (x : Since wc) => (x.cell b 0 (cell_block_lt hbx)).trans hbx
        refine wp_region_since (by kernel_rfl) (by kernel_rfl) ?_
        repeat (go_big_quiet_step (first
          | (go_at_call 14; exact Since.call (HCW.out _ (HRX.out.below (Since.below _))))))
        refine wpQuiet_nil ?_
        rintro w6 ⟨⟨w6, hb6⟩, rfl⟩
        have y6 := cell_kept y5 hb6
        have b6 := cell_kept hbx hb6
        have s6 := cell_kept s5 hb6
        have HB6 := Lib.hid (HB5.out.trans (hb6.mono HB5.out.size))
        have R16 := Lib.hid (R15.out.below hb6)
        have R26 := Lib.hid (R25.out.below hb6)
        have HRX6 := Lib.hid (HRX.out.below hb6)
        clear t0 t1 hn1 hb6 x5 y5 hbx s5 HB5 R15 R25 HRX
        go_wp2_with fail
        have hn1 := Since.nonempty w6
        have t0 := fun (x : Since w6) => (x.cell g2 j (cell_block_lt y6)).trans y6
        have t1 := fun (x : Since w6) => (x.cell b 0 (cell_block_lt b6)).trans b6
        refine wp_region_since (by kernel_rfl) (by kernel_rfl) ?_
        repeat (go_big_quiet_step (first
          | (go_at_call 69; exact Since.call (HCM.out _ (HRX6.out.below (Since.below _))))))
        refine wpQuiet_nil ?_
        rintro w7 ⟨⟨w7, hb7⟩, rfl⟩
        have s7 := cell_kept s6 hb7
        have HB7 := Lib.hid (HB6.out.trans (hb7.mono HB6.out.size))
        have R17 := Lib.hid (R16.out.below hb7)
        have R27 := Lib.hid (R26.out.below hb7)
        have hh1 := (R16.out.below hb7).lt
        have hh2 := (R26.out.below hb7).lt
        have hwz := HB7.out.size
        clear t0 t1 hn1 hb7 y6 b6 s6 HB6 R16 R26 HRX6
        rw [← HN1.out, ← HN2.out]
        go_wp2_with fail
        refine wp_loop_rounds 1 ?_
        rw [rounds_succ]
        go_upto_region 16 with (at_builtin; refine wpList_append_lies _ rfl _ _ _ rfl (w.heap.size + 1) 3 i0 _ 1 8 Tryd.underlying97 hi0 hz0 hz1 hz2 rfl (by omega) (.slice (some ⟨g1, 0, none⟩) k c1) k (sums (wK js) k) (by rfl) (World.ownsRow.alloc R17.out _) ⟨w7.heap.size, 0, none⟩ 1 1 [.int .i64 Sk] (by rfl) (by rfl) (World.news_of_block (cs := #[.int .i64 Sk]) (t := 3) (fr := (0, 0)) (heap_alloc_new w7 _)) (by simp [Value.oneCell']) (by omega) (by unfold maxLen; omega) (by omega) (by simp; omega) (w7.heap.size + 1) (by simp) ?_; intro g3 c3 w8 hown8 hgrow8 hat8 hgl8; have HO8 := Lib.hid hown8; have HG8 := Lib.hid hgrow8; clear hown8 hgrow8)
        have hx1 := hh1.1
        have hx2 := hh2.1
        have hl71 := hh1.2.1
        have hl72 := hh2.2.1
        have h23 : g2 ≠ g3 := by
          rcases hat8 with h | h
          · simp [Value.ownBlock] at h; omega
          · omega
        have r18 : SumRow w8 (w.heap.size + 1) g3 c3 (k + 1) (wK js) := by
          have := HO8.out
          rw [← HS1.out] at this
          exact this
        have r28 : SumRow w8 (w.heap.size + 1) g2 c2 k (mK js) := SumRow.kept (World.ownsRow.alloc R27.out _) HG8.out (by simp [Value.ownBlock]; omega)
        have s8 : w8.cell? ⟨w.heap.size, 0, none⟩ = some (.slice (some ⟨g, 0, none⟩) n cap) := by
          have l7 := cell_block_lt s7
          dsimp only at l7
          rw [World.grownBy.cell_far HG8.out ⟨w.heap.size, 0, none⟩ (by simp; omega) (by simp [Value.ownBlock]; omega), World.cell?_alloc_lt _ _ _ (by simpa using l7)]
          exact s7
        have hb8 : Below w.heap.size w w8 := (HB7.out.alloc hwz _).grown HG8.out (by simp; omega) (fun i hi => by simp [Value.ownBlock] at hi; omega)
        have R18 := Lib.hid r18
        have R28 := Lib.hid r28
        have HB8 := Lib.hid hb8
        have hw8 := hb8.size
        have hl82 := r28.lt.2.1
        clear r18 r28 hb8 s7 R17 R27 HO8 HG8 HB7 hat8
        go_wp2_with (at_builtin; refine wpList_append_lies _ rfl _ _ _ rfl (w.heap.size + 1) 3 i0 _ 1 8 Tryd.underlying97 hi0 hz0 hz1 hz2 rfl (by omega) (.slice (some ⟨g2, 0, none⟩) k c2) k (sums (mK js) k) (by rfl) (World.ownsRow.alloc R28.out _) ⟨w8.heap.size, 0, none⟩ 1 1 [.int .i64 Mk] (by rfl) (by rfl) (World.news_of_block (cs := #[.int .i64 Mk]) (t := 3) (fr := (0, 0)) (heap_alloc_new w8 _)) (by simp [Value.oneCell']) (by omega) (by unfold maxLen; omega) (by omega) (by simp; omega) (w8.heap.size + 1) (by simp) ?_; intro g4 c4 w9 hown9 hgrow9 hat9 hgl9; have HO9 := Lib.hid hown9; have HG9 := Lib.hid hgrow9; clear hown9 hgrow9)
        have h34 : g3 ≠ g4 := by
          rcases hat9 with h | h
          · simp [Value.ownBlock] at h; omega
          · omega
        have r19 : SumRow w9 (w.heap.size + 1) g3 c3 (k + 1) (wK js) := SumRow.kept (World.ownsRow.alloc R18.out _) HG9.out (by simp [Value.ownBlock]; omega)
        have r29 : SumRow w9 (w.heap.size + 1) g4 c4 (k + 1) (mK js) := by
          have := HO9.out
          rw [← HS2.out] at this
          exact this
        have s9 : w9.cell? ⟨w.heap.size, 0, none⟩ = some (.slice (some ⟨g, 0, none⟩) n cap) := by
          have l8 := cell_block_lt s8
          dsimp only at l8
          rw [World.grownBy.cell_far HG9.out ⟨w.heap.size, 0, none⟩ (by simp; omega) (by simp [Value.ownBlock]; omega), World.cell?_alloc_lt _ _ _ (by simpa using l8)]
          exact s8
        have hb9 : Below w.heap.size w w9 := (HB8.out.alloc hw8 _).grown HG9.out (by simp; omega) (fun i hi => by simp [Value.ownBlock] at hi; omega)
        have R19 := Lib.hid r19
        have R29 := Lib.hid r29
        have HB9 := Lib.hid hb9
        have S9 := Lib.hid s9
        clear r19 r29 hb9 s8 s9 R18 R28 HO9 HG9 HB8 hat9
        go_roundw
        case rel => exact ⟨k + 1, g3, c3, g4, c4, by omega, by omega, by go_num, rfl, rfl, h34, R19.out, R29.out, HB9.out, S9.out⟩
        case measure => simp [intOf]; omega
    · obtain rfl : k = n := by omega
      clear hbw
      go_wp2_with fail
      refine bodyPost_ret (v := .tuple #[.slice (some ⟨g1, 0, none⟩) k c1, .slice (some ⟨g2, 0, none⟩) k c2]) (by simp [results, Tryd.results55, go_sem]) rfl ⟨g1, c1, g2, c2, rfl, owns_base R1.out (Nat.le_succ _), HB.out⟩

theorem l01In0 (n : Nat) (w : World) (h : 1 ≤ n) :
    Calls Tryd.prog 32 #[.int .i64 ((n : Int) - 1), .int .i64 0, .int .i64 ((n : Int) - 1)] w fun e w' => e = .returned (.bool true) ∧ w = w' := by
  go_enter Tryd.func32, Tryd.ntmps32
  go_wp2
  go_ret
  exact ⟨ret_bool (by simp <;> omega), rfl⟩

set_option maxHeartbeats 1000000 in
theorem weightLeftNil (w : World) (B g cap n : Nat) (js : List Jt) (hr : JRowAt w B g cap js) (hn : js.length = n) (hv : archV js = true) :
    Calls Tryd.prog 35 #[.agg #[.slice (some ⟨g, 0, none⟩) n cap], .slice none 0 0, .int .i64 ((n : Int) - 1)] w fun e w' => e = .returned (.int .i64 (sumTo (wK js) (n - 1))) ∧ Below w.heap.size w w' := by
  have h38 := arch_size hv
  rw [hn] at h38
  obtain ⟨h3, h8⟩ := h38
  have hb0 := (Below.refl w.heap.size w).alloc (Nat.le_refl _) (.cells #[.slice (some ⟨g, 0, none⟩) n cap] 26)
  have hs0 : (w.alloc (.cells #[.slice (some ⟨g, 0, none⟩) n cap] 26)).cell? ⟨w.heap.size, 0, none⟩ = some (.slice (some ⟨g, 0, none⟩) n cap) := by go_simp
  have HR := Lib.hid (hr.below hb0)
  have HB0 := Lib.hid hb0
  have HS0 := Lib.hid hs0
  have HN := Lib.hid hn
  have HV := Lib.hid hv
  obtain ⟨m, hm⟩ : ∃ m, m = n - 1 := ⟨_, rfl⟩
  rw [← hm]
  have e1 : IntKind.i64.wrap ((n : Int) - 1) = (n : Int) - 1 := IntWalk.i64_in _ (by omega)
  have e2 : (n : Int) - 1 = (m : Int) := by omega
  have E2 := Lib.hid e2
  have hmn : m < n := by omega
  clear hr hn hv hb0 hs0 hm e2
  go_enter Tryd.func35, Tryd.ntmps35
  go_wp2_with fail
  refine (loadsOkNil _ _ _ _ _ js HR.out HN.out (by omega)).mono ?_
  rintro e w1 ⟨rfl, hb1⟩
  rw [HV.out]
  have s1 := cell_kept HS0.out hb1
  have HR1 := Lib.hid (HR.out.below hb1)
  have HB1 := Lib.hid (HB0.out.trans (hb1.mono HB0.out.size))
  clear hb1
  go_wp2_with fail
  refine (l01In0 n _ (by omega)).mono ?_
  rintro e w2 ⟨rfl, rfl⟩
  go_wp2_with fail
  refine (leftNil _ _ _ _ _ js HR1.out HN.out HV.out).mono ?_
  rintro e w3 ⟨g1, c1, g2, c2, rfl, hr3, hb3⟩
  have x3 := hr3.cell m hmn
  have hlt3 := hr3.lt
  have HB3 := Lib.hid (HB1.out.trans (hb3.mono HB1.out.size))
  obtain ⟨-, -, hnc, hcm⟩ := hlt3
  unfold maxLen at hcm
  generalize hSS : sumTo (wK js) m = S at *
  have HSS := Lib.hid hSS
  have hm0 : (0 : Int) ≤ (m : Int) := Int.natCast_nonneg _
  have hmn' : (m : Int) < (n : Int) := by omega
  clear hb3 hr3 s1 hSS
  rw [E2.out]
  go_wp2_with fail
  go_ret
  exact ⟨ret_i64 HSS.out.symm, HB3.out⟩

theorem totalNil (w : World) (B g cap n : Nat) (js : List Jt) (hr : JRowAt w B g cap js) (hn : js.length = n) (hv : archV js = true) :
    Calls Tryd.prog 17 #[.agg #[.slice (some ⟨g, 0, none⟩) n cap], .slice none 0 0] w fun e w' => e = .returned (.int .i64 (sumTo (wK js) (n - 1))) ∧ Below w.heap.size w w' := by
  have h38 := arch_size hv
  rw [hn] at h38
  obtain ⟨h3, h8⟩ := h38
  have hb0 := (Below.refl w.heap.size w).alloc (Nat.le_refl _) (.cells #[.slice (some ⟨g, 0, none⟩) n cap] 26)
  have HR := Lib.hid (hr.below hb0)
  have HB0 := Lib.hid hb0
  have HN := Lib.hid hn
  have HV := Lib.hid hv
  clear hr hn hv hb0
  go_enter Tryd.func17, Tryd.ntmps17
  go_wp2_with fail
  refine (weightLeftNil _ _ _ _ _ js HR.out HN.out HV.out).mono ?_
  rintro e w1 ⟨rfl, hb1⟩
  go_wp2_with fail
  go_ret
  exact ⟨rfl, HB0.out.trans (hb1.mono HB0.out.size)⟩
end Go.Proofs.YtggkodhfhhjihaaDoor
