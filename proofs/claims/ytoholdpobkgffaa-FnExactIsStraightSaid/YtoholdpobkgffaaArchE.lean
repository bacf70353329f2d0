/- Arches: the contract of the model's ArchOk. -/
import Derived.Test.YtoholdpobkgffaaArchC
import Derived.Test.YtoholdpobkgffaaJointD
namespace Go.Proofs.Ytoholdpobkgffaa
set_option maxRecDepth 100000
open Go.ChangeShapes Go.WideShapes Go.ChangeAt Go.RowKit

theorem l01In38 (n : Nat) (w : World) :
    Calls Try.prog 18 #[.int .i64 n, .int .i64 3, .int .i64 8] w fun e w' => e = .returned (.bool (decide (3 ≤ n ∧ n ≤ 8))) ∧ w = w' := by
  have h := l01InM (n : Int) 3 8 3 8 w (by decide) (by decide)
  have he : amid (n : Int) 3 8 = decide (3 ≤ n ∧ n ≤ 8) := by
    unfold amid
    rw [Bool.eq_iff_iff, decide_eq_true_iff, decide_eq_true_iff]
    omega
  rw [he] at h
  exact h

theorem st_drew2 {w w' : World} {n : Nat} (h : Below (w.drewN n).heap.size (w.drewN n) w') : Below w.heap.size w w' := (below_drewN (Below.refl w.heap.size w) n).trans h
theorem st_al2 {w w' : World} {o : Obj} (h : Below (w.alloc o).heap.size (w.alloc o) w') : Below w.heap.size w w' := ((Below.refl w.heap.size w).alloc (Nat.le_refl _) o).trans (h.mono (by simp))
theorem st_dal2 {w w' : World} {n : Nat} {o : Obj} (h : Below ((w.drewN n).alloc o).heap.size ((w.drewN n).alloc o) w') : Below w.heap.size w w' := (below_drewN (Below.refl w.heap.size w) n).trans (st_al2 h)
theorem fr_al2 {w w' : World} {v : Value} {t : TypeId} (h : Below (w.alloc (.cells #[v] t)).heap.size (w.alloc (.cells #[v] t)) w') : w'.cell? ⟨w.heap.size, 0, none⟩ = some v ∧ w'.frozen? ⟨w.heap.size, 0, none⟩ = false ∧ w.heap.size < w'.heap.size :=
  ⟨cell_kept (w := w.alloc (.cells #[v] t)) (by go_simp) h, (h.frozen (p := ⟨w.heap.size, 0, none⟩) (by simp)).trans (by go_simp), by have := h.size; simp at this; omega⟩
theorem fr_dal2 {w w' : World} {n : Nat} {v : Value} {t : TypeId} (h : Below ((w.drewN n).alloc (.cells #[v] t)).heap.size ((w.drewN n).alloc (.cells #[v] t)) w') : w'.cell? ⟨w.heap.size, 0, none⟩ = some v ∧ w'.frozen? ⟨w.heap.size, 0, none⟩ = false ∧ w.heap.size < w'.heap.size := fr_al2 (w := w.drewN n) h
theorem cell_sf2 {w : World} {b o c d : Nat} {v u : Value} (h : w.cell? ⟨b, o, none⟩ = some v) (hb : b ≠ c) : (w.setCell ⟨c, d, none⟩ u).cell? ⟨b, o, none⟩ = some v := by
  rw [World.cell?_of_block (w := w) (Below.heap_setCell w ⟨c, d, none⟩ u b (fun e => hb e))]; exact h
theorem below_al2 {a w : World} (h : Below a.heap.size a w) (o : Obj) : Below a.heap.size a (w.alloc o) := h.alloc h.size o

theorem arch_no {n k j : Nat} {js : List Jt} (hn : js.length = n) (hl : linksV js = allFrom (n - 1) 0 (linkV js)) (ha : allFrom (n - 1) (k - 1) (linkV js) = allFrom (n - 1) 0 (linkV js)) (hj : j + 1 = k) (hk : k < n) (h : linkV js j = false) : archV js = false := by
  unfold archV
  rw [hl, ← ha, show k - 1 = j by omega, allFrom_no (by omega) h, Bool.false_and]

set_option maxRecDepth 100000 in
set_option maxHeartbeats 2000000 in
theorem specArchOk (w : World) (B g cap n : Nat) (js : List Jt) (hr : JRowAt w B g cap js) (hn : js.length = n) (h8 : n ≤ 1048576) :
    Calls Try.prog 10 #[.agg #[.slice (some ⟨g, 0, none⟩) n cap]] w fun e w' => e = .returned (.bool (archV js)) ∧ Below w.heap.size w w' := by
  have hlt := hr.lt
  have HR := Lib.hid hr
  have hb0 := (Below.refl w.heap.size w).alloc (Nat.le_refl _) (.cells #[.slice (some ⟨g, 0, none⟩) n cap] 29)
  have hs0 : (w.alloc (.cells #[.slice (some ⟨g, 0, none⟩) n cap] 29)).cell? ⟨w.heap.size, 0, none⟩ = some (.slice (some ⟨g, 0, none⟩) n cap) := by go_simp
  have HB0 := Lib.hid hb0
  have HS0 := Lib.hid hs0
  have HN := Lib.hid hn
  have hlv : linksV js = allFrom (n - 1) 0 (linkV js) := by rw [← hn]; rfl
  have HLV := Lib.hid hlv
  obtain ⟨-, hgw, hcap, hcm⟩ := hlt
  rw [hn] at hcap
  unfold maxLen at hcm
  clear hr hb0 hs0 hn hlv
  go_enter Try.func10, Try.ntmps10
  go_wp2_with fail
  go_loopw [3] (fun t wr => ∃ k : Nat, 1 ≤ k ∧ (k ≤ n ∨ k = 1) ∧ t = .int .i64 k ∧ allFrom (n - 1) (k - 1) (linkV js) = allFrom (n - 1) 0 (linkV js) ∧ Below w.heap.size w wr ∧ wr.cell? ⟨w.heap.size, 0, none⟩ = some (.slice (some ⟨g, 0, none⟩) n cap))
    (fun t _ => n - (intOf t).toNat)
  case atStart => exact ⟨1, Nat.le_refl _, .inr rfl, rfl, rfl, HB0.out, HS0.out⟩
  case round =>
    obtain ⟨k, hk1, hkn, rfl, hall, hbw, hsw⟩ := hrel
    have HB := Lib.hid hbw
    have HA := Lib.hid hall
    clear hbw hall
    by_cases hlt : k < n
    · have hlN := HN.out
      obtain ⟨j, hj⟩ : ∃ j : Nat, j + 1 = k := ⟨k - 1, by omega⟩
      have hrw := JRowAt.below HR.out HB.out
      obtain ⟨a0, a1, a2, a3⟩ := hrw.cells j (by omega)
      obtain ⟨c0, c1, c2, c3⟩ := hrw.cells k (by omega)
      obtain ⟨⟨⟨ax, ay⟩, ⟨bx, by_⟩⟩, ea⟩ : ∃ p, jt js j = p := ⟨_, rfl⟩
      obtain ⟨⟨⟨cx, cy⟩, ⟨dx, dy⟩⟩, ec⟩ : ∃ p, jt js k = p := ⟨_, rfl⟩
      rw [ea] at a0 a1 a2 a3
      rw [ec] at c0 c1 c2 c3
      dsimp only at a0 a1 a2 a3 c0 c1 c2 c3
      have hL : linkV js j = (stoneV (betw ((ax, ay), (bx, by_)) ((cx, cy), (dx, dy))) && decide (ax < cx)) := by unfold linkV; rw [hj, ea, ec]
      have hSB := fun W => specStoneBetween ax ay bx by_ cx cy dx dy W
      unfold BetAns at hSB
      generalize stoneV (betw ((ax, ay), (bx, by_)) ((cx, cy), (dx, dy))) = S at *
      generalize betV ((ax, ay), (bx, by_)) ((cx, cy), (dx, dy)) = V at *
      have HSB := Lib.hid hSB
      have HL := Lib.hid hL
      have HJ := Lib.hid hj
      have hj0 : (0 : Int) ≤ (j : Int) := Int.natCast_nonneg _
      have hjn : (j : Int) < (n : Int) := by omega
      have hk0 : (0 : Int) ≤ (k : Int) := Int.natCast_nonneg _
      have hkn' : (k : Int) < (n : Int) := by omega
      have e1 : IntKind.i64.wrap ((k : Int) - 1) = (j : Int) := by rw [IntWalk.i64_in _ (by omega)]; omega
      have mw := Nat.ne_of_lt (cell_block_lt hsw)
      have mg := Nat.ne_of_lt (cell_block_lt a0)
      dsimp only at mw mg
      have nw := Ne.symm mw
      have ng := Ne.symm mg
      clear hSB hL hj ea ec hrw hlN
      go_wp2_with fail
      go_cut [4, 5] from 13 to 27 (fun p q wx => ∃ b : Nat, p = .pointer (some ⟨b, 0, none⟩) ∧ q = .bool S ∧ Below wr.heap.size wr wx)
      case first =>
        go_region_held3 (fun w' => w'.cell? ⟨w.heap.size, 0, none⟩ = some (.slice (some ⟨g, 0, none⟩) n cap) ∧ w'.cell? ⟨g, j * 4, none⟩ = some (.int .i64 ax) ∧ w'.cell? ⟨g, j * 4 + 1, none⟩ = some (.int .i64 ay) ∧ w'.cell? ⟨g, j * 4 + 2, none⟩ = some (.int .i64 bx) ∧ w'.cell? ⟨g, j * 4 + 3, none⟩ = some (.int .i64 by_) ∧ w'.cell? ⟨g, k * 4, none⟩ = some (.int .i64 cx) ∧ w'.cell? ⟨g, k * 4 + 1, none⟩ = some (.int .i64 cy) ∧ w'.cell? ⟨g, k * 4 + 2, none⟩ = some (.int .i64 dx) ∧ w'.cell? ⟨g, k * 4 + 3, none⟩ = some (.int .i64 dy))
          (first | (refine ⟨?_, ?_, ?_, ?_, ?_, ?_, ?_, ?_, ?_⟩ <;> exact cell_sf2 (by assumption) (by assumption)) | go_keep | trivial)
          (first
            | (go_at_call 17; refine (HSB.out _).mono ?_; rintro e w4 ⟨u4, rfl, hr4, hb4⟩; obtain ⟨sa, sc, hu4, -⟩ := row_sliceS hr4; have hs4 : Below wr.heap.size wr w4 := (by first | exact hb4 | exact st_drew2 hb4 | exact st_al2 hb4 | exact st_dal2 hb4); have s4 : w4.cell? ⟨w.heap.size, 0, none⟩ = some (.slice (some ⟨g, 0, none⟩) n cap) := cell_kept hsw hs4; have a04 : w4.cell? ⟨g, j * 4, none⟩ = some (.int .i64 ax) := cell_kept a0 hs4; have a14 : w4.cell? ⟨g, j * 4 + 1, none⟩ = some (.int .i64 ay) := cell_kept a1 hs4; have a24 : w4.cell? ⟨g, j * 4 + 2, none⟩ = some (.int .i64 bx) := cell_kept a2 hs4; have a34 : w4.cell? ⟨g, j * 4 + 3, none⟩ = some (.int .i64 by_) := cell_kept a3 hs4; have c04 : w4.cell? ⟨g, k * 4, none⟩ = some (.int .i64 cx) := cell_kept c0 hs4; have c14 : w4.cell? ⟨g, k * 4 + 1, none⟩ = some (.int .i64 cy) := cell_kept c1 hs4; have c24 : w4.cell? ⟨g, k * 4 + 2, none⟩ = some (.int .i64 dx) := cell_kept c2 hs4; have c34 : w4.cell? ⟨g, k * 4 + 3, none⟩ = some (.int .i64 dy) := cell_kept c3 hs4; (first | (have z4 := fr_dal2 (w := wr) hb4) | (have z4 := fr_al2 (w := wr) hb4) | skip); (try (obtain ⟨zc4, zf4, zl4⟩ := z4)); have mw4 := Nat.ne_of_lt (cell_block_lt s4); have mg4 := Nat.ne_of_lt (cell_block_lt a04); dsimp only at mw4 mg4; have nw4 := Ne.symm mw4; have ng4 := Ne.symm mg4; have HB4 := Lib.hid hs4; clear hr4 hb4 hs4; subst hu4))
        all_goals
          go_wp2_with fail
          go_meet
          refine ⟨_, rfl, rfl, ?_⟩
        all_goals
          repeat (first | refine Below.setCell ?_ (by first | exact Nat.le_refl _ | exact HB4.out.size) _ | exact HB4.out | exact below_al2 HB4.out _)
      case rest =>
        obtain ⟨b, rfl, rfl, hX⟩ := hcut
        have HB5 := Lib.hid (HB.out.trans (hX.mono HB.out.size))
        have s5 : wc.cell? ⟨w.heap.size, 0, none⟩ = some (.slice (some ⟨g, 0, none⟩) n cap) := cell_kept hsw hX
        have a05 : wc.cell? ⟨g, j * 4, none⟩ = some (.int .i64 ax) := cell_kept a0 hX
        have a15 : wc.cell? ⟨g, j * 4 + 1, none⟩ = some (.int .i64 ay) := cell_kept a1 hX
        have a25 : wc.cell? ⟨g, j * 4 + 2, none⟩ = some (.int .i64 bx) := cell_kept a2 hX
        have a35 : wc.cell? ⟨g, j * 4 + 3, none⟩ = some (.int .i64 by_) := cell_kept a3 hX
        have c05 : wc.cell? ⟨g, k * 4, none⟩ = some (.int .i64 cx) := cell_kept c0 hX
        have c15 : wc.cell? ⟨g, k * 4 + 1, none⟩ = some (.int .i64 cy) := cell_kept c1 hX
        have c25 : wc.cell? ⟨g, k * 4 + 2, none⟩ = some (.int .i64 dx) := cell_kept c2 hX
        have c35 : wc.cell? ⟨g, k * 4 + 3, none⟩ = some (.int .i64 dy) := cell_kept c3 hX
        clear hX mw mg nw ng
        cases S
        · have HL0 := Lib.hid (show linkV js j = false from HL.out)
          go_wp2_with fail
          have hn1 := Since.nonempty wc
          have t0 := fun (x : Since wc) => (x.cell w.heap.size 0 (cell_block_lt s5)).trans s5
          refine wp_region_since (by kernel_rfl) (by kernel_rfl) ?_
          repeat (go_big_quiet_step (fail))
          refine wpQuiet_nil ?_
          rintro w6 ⟨⟨w6, hb6⟩, rfl⟩
          go_wp2_with fail
          go_ret
          exact ⟨ret_bool (arch_no HN.out HLV.out HA.out HJ.out hlt HL0.out).symm, HB5.out.trans (hb6.mono HB5.out.size)⟩
        · by_cases hx : cx ≤ ax
          · have HL0 := Lib.hid (show linkV js j = false by rw [HL.out, decide_eq_false (by omega)]; rfl)
            have hd : decide (cx ≤ ax) = true := decide_eq_true hx
            clear hx
            go_wp2_with fail
            have hn1 := Since.nonempty wc
            have t0 := fun (x : Since wc) => (x.cell w.heap.size 0 (cell_block_lt s5)).trans s5
            have t1 := fun (x : Since wc) => (x.cell g (j * 4) (cell_block_lt a05)).trans a05
            have t2 := fun (x : Since wc) => (x.cell g (k * 4) (cell_block_lt c05)).trans c05
            refine wp_region_since (by kernel_rfl) (by kernel_rfl) ?_
            repeat (go_big_quiet_step (fail))
            refine wpQuiet_nil ?_
            rintro w6 ⟨⟨w6, hb6⟩, rfl⟩
            go_wp2_with fail
            go_ret
            exact ⟨ret_bool (arch_no HN.out HLV.out HA.out HJ.out hlt HL0.out).symm, HB5.out.trans (hb6.mono HB5.out.size)⟩
          · have HL0 := Lib.hid (show linkV js j = true by rw [HL.out, decide_eq_true (by omega)]; rfl)
            have hd : decide (cx ≤ ax) = false := decide_eq_false hx
            clear hx
            go_wp2_with fail
            have hn1 := Since.nonempty wc
            have t0 := fun (x : Since wc) => (x.cell w.heap.size 0 (cell_block_lt s5)).trans s5
            have t1 := fun (x : Since wc) => (x.cell g (j * 4) (cell_block_lt a05)).trans a05
            have t2 := fun (x : Since wc) => (x.cell g (k * 4) (cell_block_lt c05)).trans c05
            refine wp_region_since (by kernel_rfl) (by kernel_rfl) ?_
            repeat (go_big_quiet_step (fail))
            refine wpQuiet_nil ?_
            rintro w6 ⟨⟨w6, hb6⟩, rfl⟩
            go_wp2_with fail
            have HB7 := Lib.hid (HB5.out.trans (hb6.mono HB5.out.size))
            have s7 := cell_kept s5 hb6
            clear hb6
            go_roundw
            case rel => exact ⟨k + 1, by omega, by omega, by go_num, by have h1 := HJ.out; rw [← HA.out, show k + 1 - 1 = j + 1 by omega, show k - 1 = j by omega]; exact allFrom_yes (by omega) HL0.out, HB7.out, s7⟩
            case measure => simp [intOf]; omega
    · have hk : k - 1 = n - 1 := by omega
      have HK := Lib.hid hk
      clear hk
      go_wp2_with fail
      refine (l01In38 _ _).mono ?_
      rintro e w1 ⟨rfl, rfl⟩
      go_wp2_with fail
      go_ret
      exact ⟨ret_bool (by unfold archV; rw [HLV.out, ← HA.out, HK.out, allFrom_end, HN.out, Bool.true_and]; simp), HB.out⟩
end Go.Proofs.Ytoholdpobkgffaa
