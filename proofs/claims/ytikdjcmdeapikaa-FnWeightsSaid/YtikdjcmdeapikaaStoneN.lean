/- The contract of the model's MirrorStone. -/
import Derived.Test.YtikdjcmdeapikaaStoneM
import Derived.Deep.RegionLaw
namespace Go.Proofs.Ytikdjcmdeapikaa
open Go.ChangeShapes Go.WideShapes Go.ChangeAt Go.RowKit

/-- Behind an append to a row of the call's own: what lies below the rows is as it was. -/
theorem far_cell {w5 w6 : World} {o : Obj} {B n size b off : Nat} {e : TypeId} {u v : Value} {xs : List Value} (hr : w5.ownsRow B e size u n xs) (hg : (w5.alloc o).grownBy w6 u.ownBlock) (hb : b < B) (hc : w5.cell? ⟨b, off, none⟩ = some v) : w6.cell? ⟨b, off, none⟩ = some v := by
  have hlt : b < w5.heap.size := cell_block_lt hc
  have hne : some b ≠ u.ownBlock := fun he => by have := (World.ownsRow.lt hr _ he.symm).1; omega
  rw [World.grownBy.cell_far hg ⟨b, off, none⟩ (by simp; omega) hne, World.cell?_alloc_lt _ _ _ (by simpa using hlt)]
  exact hc
theorem far_frozen {w5 w6 : World} {o : Obj} {B n size b off : Nat} {e : TypeId} {u v : Value} {xs : List Value} (hr : w5.ownsRow B e size u n xs) (hg : (w5.alloc o).grownBy w6 u.ownBlock) (hb : b < B) (hc : w5.cell? ⟨b, off, none⟩ = some v) (hf : w5.frozen? ⟨b, off, none⟩ = false) : w6.frozen? ⟨b, off, none⟩ = false := by
  have hlt : b < w5.heap.size := cell_block_lt hc
  have hne : some b ≠ u.ownBlock := fun he => by have := (World.ownsRow.lt hr _ he.symm).1; omega
  rw [World.grownBy.frozen_far hg ⟨b, off, none⟩ (by simp; omega) hne]
  exact ((Below.refl w5.heap.size w5).alloc (Nat.le_refl _) o).frozen (p := ⟨b, off, none⟩) hlt |>.trans hf
theorem far_below {w w5 w6 : World} {o : Obj} {B n size : Nat} {e : TypeId} {u : Value} {xs : List Value} (hr : w5.ownsRow B e size u n xs) (hg : (w5.alloc o).grownBy w6 u.ownBlock) (hb : w.heap.size ≤ B) (hw : Below w.heap.size w w5) : Below w.heap.size w w6 :=
  (hw.alloc hw.size o).grown hg (by have := hw.size; simp; omega) (fun k hk => Nat.le_trans hb (World.ownsRow.lt hr _ hk).1)

theorem cell_far_set {w : World} {b o : Nat} {v : Value} (h : w.cell? ⟨b, o, none⟩ = some v) (c d : Nat) (hb : b ≠ c) (u : Value) : (w.setCell ⟨c, d, none⟩ u).cell? ⟨b, o, none⟩ = some v := by
  rw [World.cell?_of_block (w := w) (Below.heap_setCell w ⟨c, d, none⟩ u b (fun e => hb e))]; exact h

set_option maxHeartbeats 1000000 in
theorem specMirrorStone (w : World) (B : Nat) (v : Value) (cs : List (Int × Int)) (x : Int) (hr : Row w B v cs) :
    Calls Try.prog 13 #[.agg #[v], .int .i64 x] w (MirAns cs x w) := by
  have HR := Lib.hid hr
  obtain ⟨a, cap, hv, hm⟩ := row_sliceS hr
  generalize hN : cs.length = n at hv hm
  subst hv
  clear hr
  unfold maxLen at hm
  have hb0 := ((Below.refl w.heap.size w).alloc (by simp <;> omega) (.cells #[.slice a n cap] 26) |>.alloc (by simp <;> omega) (.cells #[.slice none 0 0] 26) |>.alloc (by simp <;> omega) (.cells #[.slice none 0 0] 26))
  have HB0 := Lib.hid hb0
  have HN := Lib.hid hN
  clear hb0 hN
  cases hs : stoneV cs
  · have hz : mirV cs x = [] := by unfold mirV; rw [hs]; rfl
    have HZ := Lib.hid hz
    have HS := Lib.hid hs
    clear hz hs
    go_enter Try.func13, Try.ntmps13
    go_wp2_with fail
    refine wp_loop_rounds 1 ?_
    rw [rounds_succ]
    by_cases h0 : n = 0
    · subst h0
      go_wp2_with fail
      refine (specStoneOk _ 0 _ [] (Row.nil _ _)).mono ?_
      rintro e w1 ⟨rfl, hb1⟩
      rw [show stoneV [] = false from rfl]
      have c1 : w1.cell? ⟨w.heap.size + 1, 0, none⟩ = some (.slice none 0 0) := (hb1.cell (p := ⟨w.heap.size + 1, 0, none⟩) (by simp <;> omega)).trans (by go_simp)
      have f1 : w1.frozen? ⟨w.heap.size + 1, 0, none⟩ = false := (hb1.frozen (p := ⟨w.heap.size + 1, 0, none⟩) (by simp <;> omega)).trans (by go_simp)
      have HB1 := Lib.hid (HB0.out.trans (hb1.mono (by simp <;> omega)))
      clear hb1
      go_wp2_with fail
      refine bodyPost_ret (v := .agg #[.slice none 0 0]) (by simp [results, Try.results13, go_sem, c1]) rfl ⟨_, rfl, ?_, ?_⟩
      · rw [HZ.out]; exact Row.nil _ _
      · exact HB1.out.setCell (p := ⟨w.heap.size + 1, 0, none⟩) (Nat.le_succ _) _
    · go_wp2_with fail
      refine (specStoneOk _ B _ cs (HR.out.below HB0.out)).mono ?_
      rintro e w1 ⟨rfl, hb1⟩
      rw [HS.out]
      have c0 : w1.cell? ⟨w.heap.size + 1 + 1, 0, none⟩ = some (.slice none 0 0) := (hb1.cell (p := ⟨w.heap.size + 1 + 1, 0, none⟩) (by simp <;> omega)).trans (by go_simp)
      have c1 : w1.cell? ⟨w.heap.size + 1, 0, none⟩ = some (.slice none 0 0) := (hb1.cell (p := ⟨w.heap.size + 1, 0, none⟩) (by simp <;> omega)).trans (by go_simp)
      have f1 : w1.frozen? ⟨w.heap.size + 1, 0, none⟩ = false := (hb1.frozen (p := ⟨w.heap.size + 1, 0, none⟩) (by simp <;> omega)).trans (by go_simp)
      have HB1 := Lib.hid (HB0.out.trans (hb1.mono (by simp <;> omega)))
      have F1 := Lib.hid f1
      have C1 := Lib.hid c1
      clear hb1 f1 c1
      go_wp2_with fail
      refine (specStoneOk _ 0 _ [] (Row.nil _ _)).mono ?_
      rintro e w2 ⟨rfl, hb2⟩
      rw [show stoneV [] = false from rfl]
      have c2 := cell_kept C1.out hb2
      have f2 : w2.frozen? ⟨w.heap.size + 1, 0, none⟩ = false := (hb2.frozen (p := ⟨w.heap.size + 1, 0, none⟩) (cell_block_lt C1.out)).trans F1.out
      have HB2 := Lib.hid (HB1.out.trans (hb2.mono HB1.out.size))
      clear hb2 c0
      go_wp2_with fail
      refine bodyPost_ret (v := .agg #[.slice none 0 0]) (by simp [results, Try.results13, go_sem, c2]) rfl ⟨_, rfl, ?_, ?_⟩
      · rw [HZ.out]; exact Row.nil _ _
      · exact HB2.out.setCell (p := ⟨w.heap.size + 1, 0, none⟩) (Nat.le_succ _) _
  · obtain ⟨g3, g6⟩ := stone_size hs
    rcases (HR.out.cases) with ⟨hz, hcn⟩ | ⟨g, cap', hg, r, -, hgw, hcap, hcm⟩
    · rw [hcn] at g3; simp at g3
    simp only [Value.slice.injEq] at hg
    obtain ⟨rfl, -, rfl⟩ := hg
    obtain ⟨i0, hi0, hz0, hz1, hz2⟩ := info_parts Try.infoPt
    rw [HN.out] at g3 g6 hcap
    unfold maxLen at hcm
    have HR1 := Lib.hid r
    have HS := Lib.hid hs
    clear r hs
    have hc0 : (((w.alloc (.cells #[.slice (some ⟨g, 0, none⟩) n cap] 26)).alloc (.cells #[.slice none 0 0] 26)).alloc (.cells #[.slice none 0 0] 26)).cell? ⟨w.heap.size, 0, none⟩ = some (.slice (some ⟨g, 0, none⟩) n cap) := by go_simp
    have hc1 : (((w.alloc (.cells #[.slice (some ⟨g, 0, none⟩) n cap] 26)).alloc (.cells #[.slice none 0 0] 26)).alloc (.cells #[.slice none 0 0] 26)).cell? ⟨w.heap.size + 1, 0, none⟩ = some (.slice none 0 0) := by go_simp
    have hf1 : (((w.alloc (.cells #[.slice (some ⟨g, 0, none⟩) n cap] 26)).alloc (.cells #[.slice none 0 0] 26)).alloc (.cells #[.slice none 0 0] 26)).frozen? ⟨w.heap.size + 1, 0, none⟩ = false := by go_simp
    have hc2 : (((w.alloc (.cells #[.slice (some ⟨g, 0, none⟩) n cap] 26)).alloc (.cells #[.slice none 0 0] 26)).alloc (.cells #[.slice none 0 0] 26)).cell? ⟨w.heap.size + 1 + 1, 0, none⟩ = some (.slice none 0 0) := by go_simp
    have hf2 : (((w.alloc (.cells #[.slice (some ⟨g, 0, none⟩) n cap] 26)).alloc (.cells #[.slice none 0 0] 26)).alloc (.cells #[.slice none 0 0] 26)).frozen? ⟨w.heap.size + 1 + 1, 0, none⟩ = false := by go_simp
    have C0 := Lib.hid hc0
    have C1 := Lib.hid hc1
    have F1 := Lib.hid hf1
    have C2 := Lib.hid hc2
    have F2 := Lib.hid hf2
    have hz : w.heap.size + 1 + 1 + 1 = (((w.alloc (.cells #[.slice (some ⟨g, 0, none⟩) n cap] 26)).alloc (.cells #[.slice none 0 0] 26)).alloc (.cells #[.slice none 0 0] 26)).heap.size := by simp
    have HZ := Lib.hid hz
    clear hc0 hc1 hf1 hc2 hf2 hz
    go_enter Try.func13, Try.ntmps13
    go_wp2_with fail
    go_loopw [6] (fun t w3 => ∃ (m : Nat) (u : Value), m ≤ n ∧ t = .int .i64 ((m : Int) - 1) ∧ Row w3 (w.heap.size + 3) u (mirTo cs x m) ∧ Below w.heap.size w w3 ∧
      w3.cell? ⟨w.heap.size, 0, none⟩ = some (.slice (some ⟨g, 0, none⟩) n cap) ∧ w3.cell? ⟨w.heap.size + 1, 0, none⟩ = some (.slice none 0 0) ∧ w3.frozen? ⟨w.heap.size + 1, 0, none⟩ = false ∧ w3.cell? ⟨w.heap.size + 1 + 1, 0, none⟩ = some u ∧ w3.frozen? ⟨w.heap.size + 1 + 1, 0, none⟩ = false)
      (fun t _ => (intOf t + 1).toNat)
    case atStart => exact ⟨n, .slice none 0 0, Nat.le_refl _, rfl, by rw [← HN.out, mirTo_end]; exact Row.nil _ _, HB0.out, C0.out, C1.out, F1.out, C2.out, F2.out⟩
    case round =>
      obtain ⟨m, u, hm', rfl, hrow, hbw, c0, c1, f1, c2, f2⟩ := hrel
      obtain ⟨ua, un, uc, rfl⟩ : ∃ ua un uc, u = .slice ua un uc := by obtain ⟨a, b, h, -⟩ := row_sliceS hrow; exact ⟨_, _, _, h⟩
      have HRW := Lib.hid hrow
      have HB := Lib.hid hbw
      have hlN := HN.out
      by_cases hm0 : m = 0
      · subst hm0
        have hlm := mirL_length cs x
        rw [mirTo_all] at hrow
        have HRL := Lib.hid hrow
        have C1' := Lib.hid c1
        have F1' := Lib.hid f1
        clear hbw hlN hrow HRW c1 f1 hlm
        go_wp2_with fail
        refine (specStoneOk _ _ _ _ HRL.out).mono ?_
        rintro e w4 ⟨rfl, hb4⟩
        have c24 := cell_kept c2 hb4
        have r4 := cell_kept C1'.out hb4
        have f4 : w4.frozen? ⟨w.heap.size + 1, 0, none⟩ = false := (hb4.frozen (p := ⟨w.heap.size + 1, 0, none⟩) (cell_block_lt C1'.out)).trans F1'.out
        have HR4 := Lib.hid (HRL.out.below hb4)
        have HB4 := Lib.hid (HB.out.trans (hb4.mono HB.out.size))
        clear hb4 c2 f2 c0
        cases hm2 : stoneV (mirL cs x)
        · have hz : mirV cs x = [] := by unfold mirV; rw [HS.out, hm2]; rfl
          have HY := Lib.hid hz
          clear hz hm2
          go_wp2_with fail
          refine bodyPost_ret (v := .agg #[.slice none 0 0]) (by simp [results, Try.results13, go_sem, r4]) rfl ⟨_, rfl, ?_, ?_⟩
          · rw [HY.out]; exact Row.nil _ _
          · exact HB4.out.setCell (p := ⟨w.heap.size + 1, 0, none⟩) (Nat.le_succ _) _
        · have hz : mirV cs x = mirL cs x := by unfold mirV; rw [HS.out, hm2]; rfl
          have HY := Lib.hid hz
          clear hz hm2
          go_wp2_with fail
          refine bodyPost_ret (v := .agg #[.slice ua un uc]) (by simp [results, Try.results13, go_sem, r4]) rfl ⟨_, rfl, ?_, ?_⟩
          · rw [HY.out]
            refine owns_base (ownsRow_setCell_other HR4.out (a := ⟨w.heap.size + 1, 0, none⟩) (fun he => ?_) (.slice ua un uc)) (show w.heap.size ≤ w.heap.size + 3 by omega)
            have := (World.ownsRow.lt HR4.out _ he).1
            simp at this
          · exact HB4.out.setCell (p := ⟨w.heap.size + 1, 0, none⟩) (Nat.le_succ _) _
      · obtain ⟨k, rfl⟩ : ∃ k, m = k + 1 := ⟨m - 1, by omega⟩
        have hk : ((k + 1 : Nat) : Int) - 1 = (k : Int) := by omega
        rw [hk]
        have hkn : k < n := by omega
        have hr := HR1.out.below hbw
        clear hbw hk
        go_wp2_with fail
        refine (specStoneOk _ B _ cs (by have := hr.row; rw [hlN] at this; exact this)).mono ?_
        rintro e w4 ⟨rfl, hb4⟩
        rw [HS.out]
        obtain ⟨a0, a1⟩ := (hr.below hb4).cells k (by omega)
        have d0 := cell_kept c0 hb4
        have D1 := Lib.hid (cell_kept c1 hb4)
        have hg1 : w4.frozen? ⟨w.heap.size + 1, 0, none⟩ = false := (hb4.frozen (p := ⟨w.heap.size + 1, 0, none⟩) (cell_block_lt c1)).trans f1
        have G1 := Lib.hid hg1
        have d2 := cell_kept c2 hb4
        have g2 : w4.frozen? ⟨w.heap.size + 1 + 1, 0, none⟩ = false := (hb4.frozen (p := ⟨w.heap.size + 1 + 1, 0, none⟩) (cell_block_lt c2)).trans f2
        have G2 := Lib.hid g2
        have D2 := Lib.hid d2
        have HR4 := Lib.hid (HRW.out.below hb4)
        have HB4 := Lib.hid (HB.out.trans (hb4.mono HB.out.size))
        have HM := Lib.hid (mirTo_next cs x k (by omega))
        have hll := mirTo_length cs x (k + 1)
        have hl6 : (mirTo cs x (k + 1)).length ≤ 6 := by omega
        obtain ⟨⟨px, py⟩, ep⟩ : ∃ p, pt cs k = p := ⟨_, rfl⟩
        rw [ep] at a0 a1
        have EP := Lib.hid ep
        clear hb4 c0 c1 f1 c2 f2 HRW HB hr hlN ep hll hg1 g2
        have l4 : w.heap.size + 2 < w4.heap.size := cell_block_lt d2
        go_wp2_with fail
        go_region_law
          (first
            | (go_simp; go_at_call 36
               refine (specMirrorPoint _ _ _ _).mono ?_
               rintro e w5 ⟨rfl, hb5⟩
               have e0 : w5.cell? ⟨w.heap.size, 0, none⟩ = some (.slice (some ⟨g, 0, none⟩) n cap) := cell_after d0 hb5
               have e1 : w5.cell? ⟨g, k * 2, none⟩ = some (.int .i64 px) := cell_after a0 hb5
               have e2 : w5.cell? ⟨g, k * 2 + 1, none⟩ = some (.int .i64 py) := cell_after a1 hb5
               have e3 : w5.cell? ⟨w.heap.size + 1 + 1, 0, none⟩ = some (.slice ua un uc) := cell_after D2.out hb5
               have g5 : w5.frozen? ⟨w.heap.size + 1 + 1, 0, none⟩ = false := (hb5.frozen (p := ⟨w.heap.size + 1 + 1, 0, none⟩) (cell_block_lt d2)).trans G2.out
               have E1 := Lib.hid (cell_after D1.out hb5)
               have G5 : RowKit.Hid (w5.frozen? ⟨w.heap.size + 1, 0, none⟩ = false) := Lib.hid ((hb5.frozen (p := ⟨w.heap.size + 1, 0, none⟩) (cell_block_lt D1.out)).trans G1.out)
               have HR5 := Lib.hid (owns_after HR4.out hb5)
               have HB5 := Lib.hid (below_after HB4.out hb5)
               have l5 : w.heap.size + 2 < w5.heap.size := cell_block_lt e3
               clear hb5)
            | (refine step_append_lies _ (by rfl) _ _ _ (by rfl) (w.heap.size + 3) 31 i0 _ 2 16 Try.underlying24 hi0 hz0 hz1 hz2 rfl (by omega) (.slice ua un uc) _ _ (by rfl) (HR5.out.alloc _)
                ⟨w5.heap.size, 0, none⟩ 1 1 [.int .i64 (mirX px py x), .int .i64 py] (by rfl) (by rfl) (World.news_of_block (cs := #[.int .i64 (mirX px py x), .int .i64 py]) (t := 31) (fr := (0, 0)) (heap_alloc_new w5 _)) (by simp [Value.oneCell'])
                (by omega) (by unfold maxLen; omega) (by omega) (by simp; omega) (w5.heap.size + 1) (by simp) ?_; intro gg cap2 w6 hown6 hgrow6 hat hgl
               have z2 : w6.cell? ⟨w.heap.size + 1 + 1, 0, none⟩ = some (.slice ua un uc) := far_cell HR5.out hgrow6 (by omega) e3
               have z3 : w6.frozen? ⟨w.heap.size + 1 + 1, 0, none⟩ = false := far_frozen HR5.out hgrow6 (by omega) e3 g5))
        all_goals
          have x0 := cell_far_set (far_cell HR5.out hgrow6 (by omega) e0) (w.heap.size + 1 + 1) 0 (by omega) (.slice (some ⟨gg, 0, none⟩) ((mirTo cs x (k + 1)).length + 1) cap2)
          have x1 := cell_far_set (far_cell HR5.out hgrow6 (by omega) E1.out) (w.heap.size + 1 + 1) 0 (by omega) (.slice (some ⟨gg, 0, none⟩) ((mirTo cs x (k + 1)).length + 1) cap2)
          have y1 : (w6.setCell ⟨w.heap.size + 1 + 1, 0, none⟩ (.slice (some ⟨gg, 0, none⟩) ((mirTo cs x (k + 1)).length + 1) cap2)).frozen? ⟨w.heap.size + 1, 0, none⟩ = false := by
            rw [World.frozen?_setCell]; exact far_frozen HR5.out hgrow6 (by omega) E1.out G5.out
          have y2 : (w6.setCell ⟨w.heap.size + 1 + 1, 0, none⟩ (.slice (some ⟨gg, 0, none⟩) ((mirTo cs x (k + 1)).length + 1) cap2)).frozen? ⟨w.heap.size + 1 + 1, 0, none⟩ = false := by
            rw [World.frozen?_setCell]; exact z3
          have x2 : (w6.setCell ⟨w.heap.size + 1 + 1, 0, none⟩ (.slice (some ⟨gg, 0, none⟩) ((mirTo cs x (k + 1)).length + 1) cap2)).cell? ⟨w.heap.size + 1 + 1, 0, none⟩ = some (.slice (some ⟨gg, 0, none⟩) ((mirTo cs x (k + 1)).length + 1) cap2) := by go_simp
          have hrow6 : Row (w6.setCell ⟨w.heap.size + 1 + 1, 0, none⟩ (.slice (some ⟨gg, 0, none⟩) ((mirTo cs x (k + 1)).length + 1) cap2)) (w.heap.size + 3) (.slice (some ⟨gg, 0, none⟩) ((mirTo cs x (k + 1)).length + 1) cap2) (mirTo cs x k) := by
            refine ownsRow_setCell_other ?_ (a := ⟨w.heap.size + 1 + 1, 0, none⟩) (fun he => ?_) _
            · rw [HM.out, List.length_append, flat_append, EP.out]
              exact hown6
            · have := (World.ownsRow.lt hown6 _ he).1
              dsimp only at this
              omega
          have hb6 := (far_below HR5.out hgrow6 (by omega) HB5.out).setCell (p := ⟨w.heap.size + 1 + 1, 0, none⟩) (Nat.le_add_right _ 2) (.slice (some ⟨gg, 0, none⟩) ((mirTo cs x (k + 1)).length + 1) cap2)
          have X0 := Lib.hid x0
          have X1 := Lib.hid x1
          have Y1 := Lib.hid y1
          have X2 := Lib.hid x2
          have Y2 := Lib.hid y2
          have HR6 := Lib.hid hrow6
          have HB6 := Lib.hid hb6
          clear x0 x1 y1 y2 x2 hrow6 hb6 hown6 hgrow6 z2 z3 e0 e1 e2 e3 g5 d0 d2 a0 a1
          go_wp2_with fail
          go_roundw
        all_goals first
          | exact ⟨k, _, by omega, rfl, HR6.out, HB6.out, X0.out, X1.out, Y1.out, X2.out, Y2.out⟩
          | (show ((k : Int) - 1 + 1).toNat < ((k : Int) + 1).toNat; omega)
end Go.Proofs.Ytikdjcmdeapikaa
