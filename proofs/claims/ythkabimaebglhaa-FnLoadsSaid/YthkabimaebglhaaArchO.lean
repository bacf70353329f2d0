/- Arches: the contracts of the model's StoneOf, MirrorArch. -/
import Derived.Test.YthkabimaebglhaaArchJ
import Derived.Test.YthkabimaebglhaaArchN
import Derived.Deep.RegionLaw
import Derived.Deep.AppendLies
namespace Go.Proofs.Ythkabimaebglhaa
set_option maxRecDepth 100000
open Go.ChangeShapes Go.WideShapes Go.ChangeAt Go.RowKit

/-- Behind an append to a row of the call's own: what lies below the rows is as it was. -/
theorem far4_cell {w5 w6 : World} {o : Obj} {B n size b off : Nat} {e : TypeId} {u v : Value} {xs : List Value} (hr : w5.ownsRow B e size u n xs) (hg : (w5.alloc o).grownBy w6 u.ownBlock) (hb : b < B) (hc : w5.cell? ⟨b, off, none⟩ = some v) : w6.cell? ⟨b, off, none⟩ = some v := by
  have hlt : b < w5.heap.size := cell_block_lt hc
  have hne : some b ≠ u.ownBlock := fun he => by have := (World.ownsRow.lt hr _ he.symm).1; omega
  rw [World.grownBy.cell_far hg ⟨b, off, none⟩ (by simp; omega) hne, World.cell?_alloc_lt _ _ _ (by simpa using hlt)]
  exact hc
theorem far4_frozen {w5 w6 : World} {o : Obj} {B n size b off : Nat} {e : TypeId} {u v : Value} {xs : List Value} (hr : w5.ownsRow B e size u n xs) (hg : (w5.alloc o).grownBy w6 u.ownBlock) (hb : b < B) (hc : w5.cell? ⟨b, off, none⟩ = some v) (hf : w5.frozen? ⟨b, off, none⟩ = false) : w6.frozen? ⟨b, off, none⟩ = false := by
  have hlt : b < w5.heap.size := cell_block_lt hc
  have hne : some b ≠ u.ownBlock := fun he => by have := (World.ownsRow.lt hr _ he.symm).1; omega
  rw [World.grownBy.frozen_far hg ⟨b, off, none⟩ (by simp; omega) hne]
  exact ((Below.refl w5.heap.size w5).alloc (Nat.le_refl _) o).frozen (p := ⟨b, off, none⟩) hlt |>.trans hf
theorem far4_below {w w5 w6 : World} {o : Obj} {B n size : Nat} {e : TypeId} {u : Value} {xs : List Value} (hr : w5.ownsRow B e size u n xs) (hg : (w5.alloc o).grownBy w6 u.ownBlock) (hb : w.heap.size ≤ B) (hw : Below w.heap.size w w5) : Below w.heap.size w w6 :=
  (hw.alloc hw.size o).grown hg (by have := hw.size; simp; omega) (fun k hk => Nat.le_trans hb (World.ownsRow.lt hr _ hk).1)
theorem cell_far4 {w : World} {b o : Nat} {v : Value} (h : w.cell? ⟨b, o, none⟩ = some v) (c d : Nat) (hb : b ≠ c) (u : Value) : (w.setCell ⟨c, d, none⟩ u).cell? ⟨b, o, none⟩ = some v := by
  rw [World.cell?_of_block (w := w) (Below.heap_setCell w ⟨c, d, none⟩ u b (fun e => hb e))]; exact h
theorem owns_after4 {w w' : World} {B n size k : Nat} {e : TypeId} {v : Value} {xs : List Value} (h : w.ownsRow B e size v n xs) (hb : Below (w.drewN k).heap.size (w.drewN k) w') : w'.ownsRow B e size v n xs := owns_below (w := w.drewN k) h hb
theorem Try.infoJo : (Try.prog.info? 78).map (fun i => (i.zero, i.size, i.bytes)) = some (some (.agg #[.int .i64 0, .int .i64 0, .int .i64 0, .int .i64 0]), 4, 32) := by kernel_rfl

set_option maxHeartbeats 2000000 in
theorem specStoneOf (w : World) (B g cap n : Nat) (js : List Jt) (k : Int) (hr : JRowAt w B g cap js) (hn : js.length = n) (h8 : n ≤ 1048576) :
    Calls Try.prog 13 #[.agg #[.slice (some ⟨g, 0, none⟩) n cap], .int .i64 k] w (SoAns js k w) := by
  have hb0 := two_below w #[.slice (some ⟨g, 0, none⟩) n cap] #[.slice none 0 0] 26 33
  have hlt := hr.lt
  have HR := Lib.hid (hr.below hb0)
  have HB0 := Lib.hid hb0
  have HN := Lib.hid hn
  obtain ⟨-, hgw, hcap, hcm⟩ := hlt
  rw [hn] at hcap
  unfold maxLen at hcm
  clear hr hn hb0
  cases h : archV js
  · have HV := Lib.hid (soV_arch h k)
    go_enter Try.func13, Try.ntmps13
    go_wp2_with fail
    refine (specArchOk _ _ _ _ _ js HR.out HN.out h8).mono ?_
    rintro e w1 ⟨rfl, hb1⟩
    rw [h]
    have c0 : w1.cell? ⟨w.heap.size + 1, 0, none⟩ = some (.slice none 0 0) := (hb1.cell (p := ⟨w.heap.size + 1, 0, none⟩) (by simp)).trans (by go_simp)
    have f0 : w1.frozen? ⟨w.heap.size + 1, 0, none⟩ = false := (hb1.frozen (p := ⟨w.heap.size + 1, 0, none⟩) (by simp)).trans (by go_simp)
    have HB1 := Lib.hid (HB0.out.trans (hb1.mono HB0.out.size))
    clear hb1
    go_wp2_with fail
    refine bodyPost_ret (v := .agg #[.slice none 0 0]) (by simp [results, Try.results13, go_sem, c0]) rfl ⟨.slice none 0 0, rfl, by rw [HV.out]; exact Row.nil _ _, ?_⟩
    exact HB1.out.setCell (p := ⟨w.heap.size + 1, 0, none⟩) (by show w.heap.size ≤ w.heap.size + 1; omega) _
  · have h3 := arch_size h
    rw [HN.out] at h3
    have hs0 : ((w.alloc (.cells #[.slice (some ⟨g, 0, none⟩) n cap] 26)).alloc (.cells #[.slice none 0 0] 33)).cell? ⟨w.heap.size, 0, none⟩ = some (.slice (some ⟨g, 0, none⟩) n cap) := by go_simp
    have HS0 := Lib.hid hs0
    have e2 : IntKind.i64.wrap ((n : Int) - 2) = (n : Int) - 2 := IntWalk.i64_in _ (by omega)
    have ham : amid k 0 ((n : Int) - 2) = decide (0 ≤ k ∧ k < (n : Int) - 1) := by
      unfold amid
      rw [Bool.eq_iff_iff, decide_eq_true_iff, decide_eq_true_iff]
      omega
    have HAM := Lib.hid ham
    clear hs0 ham
    by_cases hin : 0 ≤ k ∧ k < (n : Int) - 1
    · obtain ⟨i, hi⟩ : ∃ i : Nat, k = (i : Int) := ⟨k.toNat, by omega⟩
      subst hi
      have HV := Lib.hid (soV_yes h (k := i) (by rw [HN.out]; omega))
      have HH := Lib.hid h
      have HIN := Lib.hid (decide_eq_true hin)
      obtain ⟨hin0, hin1⟩ := hin
      go_enter Try.func13, Try.ntmps13
      go_wp2_with fail
      refine (specArchOk _ _ _ _ _ js HR.out HN.out h8).mono ?_
      rintro e w1 ⟨rfl, hb1⟩
      rw [h]
      have s1 := cell_kept HS0.out hb1
      have c0 : w1.cell? ⟨w.heap.size + 1, 0, none⟩ = some (.slice none 0 0) := (hb1.cell (p := ⟨w.heap.size + 1, 0, none⟩) (by simp)).trans (by go_simp)
      have f0 : w1.frozen? ⟨w.heap.size + 1, 0, none⟩ = false := (hb1.frozen (p := ⟨w.heap.size + 1, 0, none⟩) (by simp)).trans (by go_simp)
      have hrw := HR.out.below hb1
      have HB1 := Lib.hid (HB0.out.trans (hb1.mono HB0.out.size))
      have C0 := Lib.hid c0
      have F0 := Lib.hid f0
      have l1 := cell_block_lt c0
      dsimp only at l1
      clear hb1 h c0 f0
      go_wp2_with fail
      refine (l01InM _ 0 ((n : Int) - 2) _ _ _ (by omega) (by omega)).mono ?_
      rintro e w2 ⟨rfl, rfl⟩
      rw [HAM.out, HIN.out]
      have hlN := HN.out
      obtain ⟨a0, a1, a2, a3⟩ := hrw.cells i (by omega)
      obtain ⟨q, hq⟩ : ∃ q : Nat, q = i + 1 := ⟨_, rfl⟩
      obtain ⟨d0, d1, d2, d3⟩ := hrw.cells q (by omega)
      have hHV := HV.out
      rw [← hq] at hHV
      have hS := arch_bet HH.out (i := i) (by omega)
      rw [← hq] at hS
      obtain ⟨⟨⟨ax, ay⟩, ⟨bx, by_⟩⟩, ea⟩ : ∃ p, jt js i = p := ⟨_, rfl⟩
      obtain ⟨⟨⟨cx, cy⟩, ⟨dx, dy⟩⟩, ec⟩ : ∃ p, jt js q = p := ⟨_, rfl⟩
      rw [ea] at a0 a1 a2 a3
      rw [ec] at d0 d1 d2 d3
      rw [ea, ec] at hHV hS
      dsimp only at a0 a1 a2 a3 d0 d1 d2 d3
      have hSB := fun W => specStoneBetween ax ay bx by_ cx cy dx dy W
      unfold BetAns at hSB
      rw [betV_yes hS, hS, ← hHV] at hSB
      generalize hVE : soV js (i : Int) = V at *
      have HVE := Lib.hid hVE
      have HSB := Lib.hid hSB
      have e1 : IntKind.i64.wrap ((i : Int) + 1) = (q : Int) := by rw [IntWalk.i64_in _ (by omega)]; omega
      have hq0 : (0 : Int) ≤ (q : Int) := Int.natCast_nonneg _
      have hqn : (q : Int) < (n : Int) := by omega
      have hi0 : (0 : Int) ≤ (i : Int) := Int.natCast_nonneg _
      have hin2 : (i : Int) < (n : Int) := by omega
      have mg := Nat.ne_of_lt (cell_block_lt a0)
      have mw := Nat.ne_of_lt (cell_block_lt s1)
      dsimp only at mg mw
      have ng := Ne.symm mg
      have nw := Ne.symm mw
      clear hSB ea ec hrw hlN hHV hS HV HAM HIN hq hin0 hin1 e2 hVE
      go_wp2_with fail
      go_cut [5, 6] from 19 to 34 (fun p r wx => ∃ (b : Nat) (ua : Option Addr) (uc : Nat), p = .pointer (some ⟨b, 0, none⟩) ∧ r = .bool true ∧ wx.cell? ⟨b, 0, none⟩ = some (.slice ua V.length uc) ∧ Row wx w1.heap.size (.slice ua V.length uc) V ∧ Below w1.heap.size w1 wx)
      case first =>
        go_region_held3 (fun w' => w'.cell? ⟨w.heap.size, 0, none⟩ = some (.slice (some ⟨g, 0, none⟩) n cap) ∧ w'.cell? ⟨g, i * 4, none⟩ = some (.int .i64 ax) ∧ w'.cell? ⟨g, i * 4 + 1, none⟩ = some (.int .i64 ay) ∧ w'.cell? ⟨g, i * 4 + 2, none⟩ = some (.int .i64 bx) ∧ w'.cell? ⟨g, i * 4 + 3, none⟩ = some (.int .i64 by_) ∧ w'.cell? ⟨g, q * 4, none⟩ = some (.int .i64 cx) ∧ w'.cell? ⟨g, q * 4 + 1, none⟩ = some (.int .i64 cy) ∧ w'.cell? ⟨g, q * 4 + 2, none⟩ = some (.int .i64 dx) ∧ w'.cell? ⟨g, q * 4 + 3, none⟩ = some (.int .i64 dy))
          (first | (refine ⟨?_, ?_, ?_, ?_, ?_, ?_, ?_, ?_, ?_⟩ <;> exact cell_sf3 (by assumption) (by assumption)) | go_keep | trivial)
          (first
            | (go_at_call 39; refine (HSB.out _).mono ?_; rintro e w4 ⟨u4, rfl, hr4, hb4⟩; obtain ⟨sa4, sc4, hu4, -⟩ := row_sliceS hr4; have hs4 : Below w1.heap.size w1 w4 := (by first | exact hb4 | exact st_drew3 hb4 | exact st_al3 hb4 | exact st_dal3 hb4); have hrb4 : Row w4 w1.heap.size u4 V := hr4.base (by simp); have R4 := Lib.hid hrb4; have D1 := Lib.hid (row_lt3 hr4); (first | (have D2 := Lib.hid (row_al3 (w := w1) hr4)) | (have D2 := Lib.hid (row_al3 (w := w1.drewN _) hr4)) | skip); have s4 : w4.cell? ⟨w.heap.size, 0, none⟩ = some (.slice (some ⟨g, 0, none⟩) n cap) := cell_kept s1 hs4; have a04 : w4.cell? ⟨g, i * 4, none⟩ = some (.int .i64 ax) := cell_kept a0 hs4; have a14 : w4.cell? ⟨g, i * 4 + 1, none⟩ = some (.int .i64 ay) := cell_kept a1 hs4; have a24 : w4.cell? ⟨g, i * 4 + 2, none⟩ = some (.int .i64 bx) := cell_kept a2 hs4; have a34 : w4.cell? ⟨g, i * 4 + 3, none⟩ = some (.int .i64 by_) := cell_kept a3 hs4; have d04 : w4.cell? ⟨g, q * 4, none⟩ = some (.int .i64 cx) := cell_kept d0 hs4; have d14 : w4.cell? ⟨g, q * 4 + 1, none⟩ = some (.int .i64 cy) := cell_kept d1 hs4; have d24 : w4.cell? ⟨g, q * 4 + 2, none⟩ = some (.int .i64 dx) := cell_kept d2 hs4; have d34 : w4.cell? ⟨g, q * 4 + 3, none⟩ = some (.int .i64 dy) := cell_kept d3 hs4; (first | (have z4 := fr_dal3 (w := w1) hb4) | (have z4 := fr_al3 (w := w1) hb4) | skip); (try (obtain ⟨zc4, zf4, zl4⟩ := z4)); have mg4 := Nat.ne_of_lt (cell_block_lt a04); have mw4 := Nat.ne_of_lt (cell_block_lt s4); dsimp only at mg4 mw4; have ng4 := Ne.symm mg4; have nw4 := Ne.symm mw4; have HB4 := Lib.hid hs4; clear hr4 hb4 hs4 hrb4; subst hu4))
        all_goals
          go_wp2_with fail
          go_meet
          refine ⟨_, sa4, sc4, rfl, rfl, by go_simp, ?_, ?_⟩
        all_goals first
          | exact ownsRow_setCell_other R4.out (a := ⟨w1.heap.size, 0, none⟩) D2.out _
          | exact World.ownsRow.alloc R4.out _
          | exact ownsRow_setCell_other (World.ownsRow.alloc R4.out _) (a := ⟨w4.heap.size, 0, none⟩) D1.out _
          | (repeat (first | refine Below.setCell ?_ (by first | exact Nat.le_refl _ | exact HB4.out.size) _ | exact HB4.out | exact below_al3 HB4.out _))
      case rest =>
        obtain ⟨b, ua, uc, rfl, rfl, hbx, hrx, hX⟩ := hcut
        have c5 := cell_kept C0.out hX
        have f5 : wc.frozen? ⟨w.heap.size + 1, 0, none⟩ = false := (hX.frozen (p := ⟨w.heap.size + 1, 0, none⟩) l1).trans F0.out
        have HB5 := Lib.hid (HB1.out.trans (hX.mono HB1.out.size))
        have HRX := Lib.hid hrx
        have hne : (Value.slice ua V.length uc).ownBlock ≠ some (w.heap.size + 1) := fun he => by
          have := (World.ownsRow.lt hrx _ he).1
          omega
        have HNE := Lib.hid hne
        clear hX hrx hne mg mw ng nw a0 a1 a2 a3 d0 d1 d2 d3
        go_wp2_with fail
        refine bodyPost_ret (v := .agg #[.slice ua V.length uc]) (by simp [results, Try.results13, go_sem, c5]) rfl ⟨_, rfl, ?_, ?_⟩
        · rw [HVE.out]
          exact owns_base (B := w1.heap.size) (ownsRow_setCell_other HRX.out (a := ⟨w.heap.size + 1, 0, none⟩) HNE.out _) (show w.heap.size ≤ w1.heap.size by omega)
        · exact HB5.out.setCell (p := ⟨w.heap.size + 1, 0, none⟩) (by show w.heap.size ≤ w.heap.size + 1; omega) _
    · have HV := Lib.hid (soV_no (js := js) (k := k) (by rw [HN.out]; exact hin))
      have HIN := Lib.hid (decide_eq_false hin)
      go_enter Try.func13, Try.ntmps13
      go_wp2_with fail
      refine (specArchOk _ _ _ _ _ js HR.out HN.out h8).mono ?_
      rintro e w1 ⟨rfl, hb1⟩
      rw [h]
      have s1 := cell_kept HS0.out hb1
      have c0 : w1.cell? ⟨w.heap.size + 1, 0, none⟩ = some (.slice none 0 0) := (hb1.cell (p := ⟨w.heap.size + 1, 0, none⟩) (by simp)).trans (by go_simp)
      have f0 : w1.frozen? ⟨w.heap.size + 1, 0, none⟩ = false := (hb1.frozen (p := ⟨w.heap.size + 1, 0, none⟩) (by simp)).trans (by go_simp)
      have HB1 := Lib.hid (HB0.out.trans (hb1.mono HB0.out.size))
      clear hb1 h
      go_wp2_with fail
      refine (l01InM _ 0 ((n : Int) - 2) _ _ _ (by omega) (by omega)).mono ?_
      rintro e w2 ⟨rfl, rfl⟩
      rw [HAM.out, HIN.out]
      clear HAM HIN e2
      go_wp2_with fail
      refine bodyPost_ret (v := .agg #[.slice none 0 0]) (by simp [results, Try.results13, go_sem, c0]) rfl ⟨.slice none 0 0, rfl, by rw [HV.out]; exact Row.nil _ _, ?_⟩
      exact HB1.out.setCell (p := ⟨w.heap.size + 1, 0, none⟩) (by show w.heap.size ≤ w.heap.size + 1; omega) _
end Go.Proofs.Ythkabimaebglhaa
