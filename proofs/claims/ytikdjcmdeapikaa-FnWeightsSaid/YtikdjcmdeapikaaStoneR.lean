/- The draw of a valid stone. -/
import Derived.Test.YtikdjcmdeapikaaStoneH
import Derived.Test.YtikdjcmdeapikaaStoneL
import Derived.Test.YtikdjcmdeapikaaDrawC
import Derived.Deep.AppendLies
namespace Go.Proofs.Ytikdjcmdeapikaa
open Go.ChangeShapes Go.WideShapes Go.ChangeAt Go.RowKit

/-- A stone was drawn, in new memory; of what was there the cursor alone was written. -/
def DrawnStone (bc : Nat) (w : World) (e : Ending) (w' : World) : Prop :=
  ∃ (u : Value) (cs : List (Int × Int)), Good cs ∧ e = .returned (.agg #[u]) ∧ Row w' w.heap.size u cs ∧ w.grownBy w' (some bc)

/-- The first k of a row. -/
theorem owns_take {w : World} {B n size g cap k : Nat} {e : TypeId} {xs : List Value} (h : w.ownsRow B e size (.slice (some ⟨g, 0, none⟩) n cap) n xs) (hk : k ≤ n) : w.ownsRow B e size (.slice (some ⟨g, 0, none⟩) k cap) k (xs.take (k * size)) := by
  have hk2 : k * size ≤ n * size := Nat.mul_le_mul_right _ hk
  refine ⟨by rw [List.length_take, h.1]; omega, .inr ?_⟩
  rcases h.2 with ⟨h', _⟩ | ⟨g', cap', cur, h', hB, hg, hc, hm, hs, ht⟩
  · simp at h'
  · simp at h'
    obtain ⟨rfl, rfl⟩ := h'
    refine ⟨g, cap, cur, rfl, hB, hg, by omega, hm, hs, ?_⟩
    rw [← ht, List.take_take, Nat.min_eq_left hk2]

theorem cell_set_far {w : World} {b o : Nat} {v : Value} (h : w.cell? ⟨b, o, none⟩ = some v) (c d : Nat) (hb : b ≠ c) (u : Value) : (w.setCell ⟨c, d, none⟩ u).cell? ⟨b, o, none⟩ = some v := by
  rw [World.cell?_of_block (w := w) (Below.heap_setCell w ⟨c, d, none⟩ u b (fun e => hb e))]; exact h

set_option maxRecDepth 100000 in
set_option maxHeartbeats 2000000 in
theorem stone_any (w : World) (bc : Nat) (a : Option Addr) (n cap : Nat) (hc : CurOk w bc a n cap) :
    Calls Try.prog 33 #[.pointer (some ⟨bc, 0, none⟩)] w (DrawnStone bc w) := by
  have hlt := hc.lt
  have hcode := hc.code_lt
  obtain ⟨i0, hi0, hz0, hz1, hz2⟩ := info_parts Try.infoPt
  go_enter Try.func33, Try.ntmps33
  go_wp2_with fail
  refine (below_any _ _ _ _ _ _ (by omega) (hc.alloc _)).mono ?_
  rintro e w1 ⟨X, ⟨x0, x1, -⟩, rfl, hc1, hg1⟩
  have x2 := x1 (by omega)
  clear x1
  go_wp2_with fail
  refine (below_any _ _ _ _ _ _ (by omega) hc1).mono ?_
  rintro e w2 ⟨Y, ⟨y0, y1, -⟩, rfl, hc2, hg2⟩
  have y2 := y1 (by omega)
  clear y1
  go_wp2_with fail
  refine (below_any _ _ _ _ _ _ (by omega) hc2).mono ?_
  rintro e w3 ⟨W, ⟨w0, w1', -⟩, rfl, hc3, hg3⟩
  have w2' := w1' (by omega)
  clear w1'
  go_wp2_with fail
  refine (below_any _ _ _ _ _ _ (by omega) hc3).mono ?_
  rintro e w4 ⟨H, ⟨h0, h1, -⟩, rfl, hc4, hg4⟩
  have h2 := h1 (by omega)
  clear h1
  go_wp2_with fail
  refine (below_any _ _ _ _ _ _ (by omega) hc4).mono ?_
  rintro e w5 ⟨A, ⟨a0, a1, -⟩, rfl, hc5, hg5⟩
  have a2 := a1 (by omega)
  clear a1
  go_wp2_with fail
  refine (below_any _ _ _ _ _ _ (by omega) hc5).mono ?_
  rintro e w6 ⟨B, ⟨b0, b1, -⟩, rfl, hc6, hg6⟩
  have b2 := b1 (by omega)
  clear b1
  go_wp2_with fail
  refine (below_any _ _ _ _ _ _ (by omega) hc6).mono ?_
  rintro e w7 ⟨C, ⟨c0, c1, -⟩, rfl, hc7, hg7⟩
  have c2 := c1 (by omega)
  clear c1
  have HG := Lib.hid (grown_trans hg1 (grown_trans hg2 (grown_trans hg3 (grown_trans hg4 (grown_trans hg5 (grown_trans hg6 hg7))))))
  clear hg1 hg2 hg3 hg4 hg5 hg6 hg7 hc1 hc2 hc3 hc4 hc5 hc6
  go_wp2_with fail
  have hDims : Dims (X - 4) Y (1 + W) (1 + H) A B C := ⟨by omega, by omega, by omega, by omega, by omega, by omega, by omega, by omega, by omega, by omega, by omega, by omega, by omega, by omega⟩
  have HD := Lib.hid hDims
  have hsz7 := HG.out.size
  simp only [World.size_alloc] at hsz7
  have hrow7 : RowAt ((w7.alloc (.cells #[.int .i64 (X - 4), .int .i64 Y, .int .i64 (X - 4 + (1 + W)), .int .i64 (Y + A), .int .i64 (X - 4 + (1 + W) + B), .int .i64 (Y + (1 + H) + 1), .int .i64 (X - 4 - C), .int .i64 (Y + (1 + H))] 31)).alloc (.cells #[.slice (some ⟨w7.heap.size, 0, none⟩) 4 4] 26)) (w.heap.size + 1) w7.heap.size 4 (four (X - 4) Y (1 + W) (1 + H) A B C) :=
    World.ownsRow.alloc (World.ownsRow_lit (base := w.heap.size + 1) w7 #[.int .i64 (X - 4), .int .i64 Y, .int .i64 (X - 4 + (1 + W)), .int .i64 (Y + A), .int .i64 (X - 4 + (1 + W) + B), .int .i64 (Y + (1 + H) + 1), .int .i64 (X - 4 - C), .int .i64 (Y + (1 + H))] 4 hsz7 (by unfold maxLen; omega) rfl) _
  have bx7 : ((w7.alloc (.cells #[.int .i64 (X - 4), .int .i64 Y, .int .i64 (X - 4 + (1 + W)), .int .i64 (Y + A), .int .i64 (X - 4 + (1 + W) + B), .int .i64 (Y + (1 + H) + 1), .int .i64 (X - 4 - C), .int .i64 (Y + (1 + H))] 31)).alloc (.cells #[.slice (some ⟨w7.heap.size, 0, none⟩) 4 4] 26)).cell? ⟨w7.heap.size + 1, 0, none⟩ = some (.slice (some ⟨w7.heap.size, 0, none⟩) 4 4) := by go_simp
  have bf7 : ((w7.alloc (.cells #[.int .i64 (X - 4), .int .i64 Y, .int .i64 (X - 4 + (1 + W)), .int .i64 (Y + A), .int .i64 (X - 4 + (1 + W) + B), .int .i64 (Y + (1 + H) + 1), .int .i64 (X - 4 - C), .int .i64 (Y + (1 + H))] 31)).alloc (.cells #[.slice (some ⟨w7.heap.size, 0, none⟩) 4 4] 26)).frozen? ⟨w7.heap.size + 1, 0, none⟩ = false := by go_simp
  have rc0 : (w.alloc (.cells #[.slice none 0 0] 26)).cell? ⟨w.heap.size, 0, none⟩ = some (.slice none 0 0) := by go_simp
  have rf0 : (w.alloc (.cells #[.slice none 0 0] 26)).frozen? ⟨w.heap.size, 0, none⟩ = false := by go_simp
  have hnb : some w.heap.size ≠ some bc := by simp; omega
  have rc7 := (World.grownBy.cell_far HG.out ⟨w.heap.size, 0, none⟩ (by simp) hnb).trans rc0
  have rf7 := (World.grownBy.frozen_far HG.out ⟨w.heap.size, 0, none⟩ (by simp) hnb).trans rf0
  have rc7b : ((w7.alloc (.cells #[.int .i64 (X - 4), .int .i64 Y, .int .i64 (X - 4 + (1 + W)), .int .i64 (Y + A), .int .i64 (X - 4 + (1 + W) + B), .int .i64 (Y + (1 + H) + 1), .int .i64 (X - 4 - C), .int .i64 (Y + (1 + H))] 31)).alloc (.cells #[.slice (some ⟨w7.heap.size, 0, none⟩) 4 4] 26)).cell? ⟨w.heap.size, 0, none⟩ = some (.slice none 0 0) := by rw [World.cell?_alloc_lt _ _ _ (by simp; omega), World.cell?_alloc_lt _ _ _ (by simp; omega)]; exact rc7
  have rf7b : ((w7.alloc (.cells #[.int .i64 (X - 4), .int .i64 Y, .int .i64 (X - 4 + (1 + W)), .int .i64 (Y + A), .int .i64 (X - 4 + (1 + W) + B), .int .i64 (Y + (1 + H) + 1), .int .i64 (X - 4 - C), .int .i64 (Y + (1 + H))] 31)).alloc (.cells #[.slice (some ⟨w7.heap.size, 0, none⟩) 4 4] 26)).frozen? ⟨w.heap.size, 0, none⟩ = false := (((Below.refl w7.heap.size w7).alloc (Nat.le_refl _) (.cells #[.int .i64 (X - 4), .int .i64 Y, .int .i64 (X - 4 + (1 + W)), .int .i64 (Y + A), .int .i64 (X - 4 + (1 + W) + B), .int .i64 (Y + (1 + H) + 1), .int .i64 (X - 4 - C), .int .i64 (Y + (1 + H))] 31)).alloc (by simp) (.cells #[.slice (some ⟨w7.heap.size, 0, none⟩) 4 4] 26)).frozen (p := ⟨w.heap.size, 0, none⟩) (by show w.heap.size < _; omega) |>.trans rf7
  have hbc7 : bc < w7.heap.size := hc7.lt
  refine (below_any _ _ _ _ _ _ (by omega) ((hc7.alloc _).alloc _)).mono ?_
  rintro e w8 ⟨D, ⟨d0, d1, -⟩, rfl, -, hg8⟩
  have d2 := d1 (by omega)
  clear d1
  have hsz8 := hg8.size
  simp only [World.size_alloc] at hsz8
  have hrow8 := World.ownsRow.kept hrow7 hg8 (.inr (by simp [Value.ownBlock]; omega))
  have bx8 := (World.grownBy.cell_far hg8 ⟨w7.heap.size + 1, 0, none⟩ (by simp) (by simp; omega)).trans bx7
  have bf8 := (World.grownBy.frozen_far hg8 ⟨w7.heap.size + 1, 0, none⟩ (by simp) (by simp; omega)).trans bf7
  have rc8 := (World.grownBy.cell_far hg8 ⟨w.heap.size, 0, none⟩ (by simp; omega) hnb).trans rc7b
  have rf8 := (World.grownBy.frozen_far hg8 ⟨w.heap.size, 0, none⟩ (by simp; omega) hnb).trans rf7b
  have hg08 : w.grownBy w8 (some bc) := grown_trans (grown_trans (World.grownBy_alloc _ _ _) HG.out) (grown_trans (World.grownBy_alloc _ (.cells #[.int .i64 (X - 4), .int .i64 Y, .int .i64 (X - 4 + (1 + W)), .int .i64 (Y + A), .int .i64 (X - 4 + (1 + W) + B), .int .i64 (Y + (1 + H) + 1), .int .i64 (X - 4 - C), .int .i64 (Y + (1 + H))] 31) _) (grown_trans (World.grownBy_alloc _ (.cells #[.slice (some ⟨w7.heap.size, 0, none⟩) 4 4] 26) _) hg8))
  have HR8 := Lib.hid hrow8
  have BX8 := Lib.hid bx8
  have BF8 := Lib.hid bf8
  have RC8 := Lib.hid rc8
  have RF8 := Lib.hid rf8
  have HG8 := Lib.hid hg08
  have h87 : w7.heap.size + 1 < w8.heap.size := by omega
  clear hrow7 hrow8 bx7 bf7 rc0 rf0 rc7 rf7 rc7b rf7b hg08 hg8 HG hc7 hDims rc8 rf8
  have hw7 : w.heap.size ≠ w7.heap.size + 1 := by omega
  have hw8 : w.heap.size < w8.heap.size := by omega
  by_cases hd0 : D = 0
  · subst hd0
    have ROW : RowKit.Hid (Row (w8.setCell ⟨w7.heap.size + 1, 0, none⟩ (.slice (some ⟨w7.heap.size, 0, none⟩) 3 4)) (w.heap.size + 1) (.slice (some ⟨w7.heap.size, 0, none⟩) 3 4) (three (X - 4) Y (1 + W) (1 + H) A B C)) :=
      Lib.hid (ownsRow_setCell_other (owns_take HR8.out (show 3 ≤ 4 by omega)) (a := ⟨w7.heap.size + 1, 0, none⟩) (by simp [Value.ownBlock]) _)
    have RC := Lib.hid (cell_set_far RC8.out (w7.heap.size + 1) 0 hw7 (.slice (some ⟨w7.heap.size, 0, none⟩) 3 4))
    have RF : RowKit.Hid ((w8.setCell ⟨w7.heap.size + 1, 0, none⟩ (.slice (some ⟨w7.heap.size, 0, none⟩) 3 4)).frozen? ⟨w.heap.size, 0, none⟩ = false) := Lib.hid (by rw [World.frozen?_setCell]; exact RF8.out)
    have bxc : (w8.setCell ⟨w7.heap.size + 1, 0, none⟩ (.slice (some ⟨w7.heap.size, 0, none⟩) 3 4)).cell? ⟨w7.heap.size + 1, 0, none⟩ = some (.slice (some ⟨w7.heap.size, 0, none⟩) 3 4) := by go_simp
    have BXC := Lib.hid bxc
    have HGC := Lib.hid (grown_new HG8.out (grown_setCell w8 (w7.heap.size + 1) 0 (.slice (some ⟨w7.heap.size, 0, none⟩) 3 4)) (fun k hk => by cases hk; omega))
    clear bxc
    go_wp2_with fail
    refine (specStoneOk _ _ _ (three (X - 4) Y (1 + W) (1 + H) A B C) ROW.out).mono ?_
    rintro e w10 ⟨rfl, hb10⟩
    have r10 := cell_kept RC.out hb10
    have f10 := (hb10.frozen (p := ⟨w.heap.size, 0, none⟩) (cell_block_lt RC.out)).trans RF.out
    have bx10 := cell_kept BXC.out hb10
    have hg10 : w.grownBy w10 (some bc) := grown_trans HGC.out ⟨hb10.os, hb10.tape, hb10.output, hb10.size, fun k hk _ => hb10.block k hk⟩
    have ROW10 := Lib.hid (ROW.out.below hb10)
    have HG10 := Lib.hid hg10
    have hsz10 := hg10.size
    have hlt10 := cell_block_lt r10
    dsimp only at hlt10
    have hne10 := Nat.ne_of_lt hlt10
    have hne11 := Ne.symm hne10
    clear hb10 hg10
    cases hv : stoneV (three (X - 4) Y (1 + W) (1 + H) A B C)
    · go_wp2_with fail
      refine bodyPost_ret (v := .agg #[.slice (some ⟨w10.heap.size, 0, none⟩) 4 4]) (by simp [results, Try.results33, go_sem, r10, hlt10]) rfl ⟨_, rect (X - 4) Y (1 + W) (1 + H), good_rect HD.out, rfl, ?_, ?_⟩
      · have hro := World.ownsRow_lit (base := w.heap.size) (e := 31) (size := 2) (w10.setCell ⟨w.heap.size, 0, none⟩ (.slice (some ⟨w10.heap.size, 0, none⟩) 4 4)) #[.int .i64 (X - 4), .int .i64 Y, .int .i64 (X - 4 + (1 + W)), .int .i64 Y, .int .i64 (X - 4 + (1 + W)), .int .i64 (Y + (1 + H)), .int .i64 (X - 4), .int .i64 (Y + (1 + H))] 4 (by simp; omega) (by unfold maxLen; omega) rfl
        rw [World.size_setCell] at hro
        exact hro
      · exact grown_trans (grown_new HG10.out (grown_setCell _ _ _ _) (fun k hk => by cases hk; exact Nat.le_refl _)) (World.grownBy_alloc _ _ _)
    · have HV := Lib.hid hv
      clear hv
      go_wp2_with fail
      refine bodyPost_ret (v := .agg #[.slice (some ⟨w7.heap.size, 0, none⟩) 3 4]) (by simp [results, Try.results33, go_sem, r10]) rfl ⟨_, _, good_three HD.out HV.out, rfl, ?_, ?_⟩
      · refine owns_base (ownsRow_setCell_other ROW10.out (a := ⟨w.heap.size, 0, none⟩) (fun he => ?_) _) (show w.heap.size ≤ w.heap.size + 1 by omega)
        have := (World.ownsRow.lt ROW10.out _ he).1
        dsimp only at this
        omega
      · exact grown_new HG10.out (grown_setCell _ _ _ _) (fun k hk => by cases hk; exact Nat.le_refl _)
  by_cases hd1 : D = 1
  · subst hd1
    have RC8x := RC8.out
    have RF8x := RF8.out
    go_wp2_with (at_builtin; refine wpList_append_lies _ rfl _ _ _ rfl (w.heap.size + 1) 31 i0 _ 2 16 Try.underlying24 hi0 hz0 hz1 hz2 rfl (by omega) (.slice (some ⟨w7.heap.size, 0, none⟩) 4 4) _ _ (by rfl) (World.ownsRow.alloc HR8.out _) ⟨w8.heap.size, 0, none⟩ 1 1 [.int .i64 (X - 4 - 3), .int .i64 (Y + 1)] (by rfl) (by rfl) (World.news_of_block (cs := #[.int .i64 (X - 4 - 3), .int .i64 (Y + 1)]) (t := 31) (fr := (0, 0)) (heap_alloc_new w8 _)) (by simp [Value.oneCell']) (by omega) (by unfold maxLen four; simp) (by unfold four; simp) (by simp; omega) (w8.heap.size + 1) (by simp) ?_; intro gg cap2 w9 hown9 hgrow9 hat hgl; have bx9 : w9.cell? ⟨w7.heap.size + 1, 0, none⟩ = some (.slice (some ⟨w7.heap.size, 0, none⟩) 4 4) := (World.grownBy.cell_far hgrow9 ⟨w7.heap.size + 1, 0, none⟩ (by simp; omega) (by simp [Value.ownBlock])).trans (by rw [World.cell?_alloc_lt _ _ _ (by simpa using h87)]; exact BX8.out); have bf9 : w9.frozen? ⟨w7.heap.size + 1, 0, none⟩ = false := (World.grownBy.frozen_far hgrow9 ⟨w7.heap.size + 1, 0, none⟩ (by simp; omega) (by simp [Value.ownBlock])).trans (((Below.refl w8.heap.size w8).alloc (Nat.le_refl _) _).frozen (p := ⟨w7.heap.size + 1, 0, none⟩) h87 |>.trans BF8.out))
    have hg2 : gg ≠ w7.heap.size + 1 := by
      rcases hat with h | h
      · simp [Value.ownBlock] at h; omega
      · omega
    have hsz9 := hgrow9.size
    simp only [World.size_alloc] at hsz9
    have hfr : ∀ k, (Value.slice (some ⟨w7.heap.size, 0, none⟩) 4 4).ownBlock = some k → w.heap.size ≤ k := fun k hk => by simp [Value.ownBlock] at hk; omega
    have hg09 : w.grownBy w9 (some bc) := grown_new (grown_trans HG8.out (World.grownBy_alloc _ _ _)) hgrow9 hfr
    have rc9 : w9.cell? ⟨w.heap.size, 0, none⟩ = some (.slice none 0 0) := (World.grownBy.cell_far hgrow9 ⟨w.heap.size, 0, none⟩ (by simp; omega) (by simp [Value.ownBlock]; omega)).trans (by rw [World.cell?_alloc_lt _ _ _ (by simpa using hw8)]; exact RC8.out)
    have rf9 : w9.frozen? ⟨w.heap.size, 0, none⟩ = false := (World.grownBy.frozen_far hgrow9 ⟨w.heap.size, 0, none⟩ (by simp; omega) (by simp [Value.ownBlock]; omega)).trans (((Below.refl w8.heap.size w8).alloc (Nat.le_refl _) _).frozen (p := ⟨w.heap.size, 0, none⟩) hw8 |>.trans RF8.out)
    have hrow9 : Row w9 (w.heap.size + 1) (.slice (some ⟨gg, 0, none⟩) ((four (X - 4) Y (1 + W) (1 + H) A B C).length + 1) cap2) (five (X - 4) Y (1 + W) (1 + H) A B C) := hown9
    have ROW : RowKit.Hid (Row (w9.setCell ⟨w7.heap.size + 1, 0, none⟩ (.slice (some ⟨gg, 0, none⟩) ((four (X - 4) Y (1 + W) (1 + H) A B C).length + 1) cap2)) (w.heap.size + 1) (.slice (some ⟨gg, 0, none⟩) ((four (X - 4) Y (1 + W) (1 + H) A B C).length + 1) cap2) (five (X - 4) Y (1 + W) (1 + H) A B C)) :=
      Lib.hid (ownsRow_setCell_other hrow9 (a := ⟨w7.heap.size + 1, 0, none⟩) (by simp [Value.ownBlock]; exact hg2) _)
    have RC := Lib.hid (cell_set_far rc9 (w7.heap.size + 1) 0 hw7 (.slice (some ⟨gg, 0, none⟩) ((four (X - 4) Y (1 + W) (1 + H) A B C).length + 1) cap2))
    have RF : RowKit.Hid ((w9.setCell ⟨w7.heap.size + 1, 0, none⟩ (.slice (some ⟨gg, 0, none⟩) ((four (X - 4) Y (1 + W) (1 + H) A B C).length + 1) cap2)).frozen? ⟨w.heap.size, 0, none⟩ = false) := Lib.hid (by rw [World.frozen?_setCell]; exact rf9)
    have bxc : (w9.setCell ⟨w7.heap.size + 1, 0, none⟩ (.slice (some ⟨gg, 0, none⟩) ((four (X - 4) Y (1 + W) (1 + H) A B C).length + 1) cap2)).cell? ⟨w7.heap.size + 1, 0, none⟩ = some (.slice (some ⟨gg, 0, none⟩) ((four (X - 4) Y (1 + W) (1 + H) A B C).length + 1) cap2) := by go_simp
    have BXC := Lib.hid bxc
    have HGC := Lib.hid (grown_new hg09 (grown_setCell w9 (w7.heap.size + 1) 0 (.slice (some ⟨gg, 0, none⟩) ((four (X - 4) Y (1 + W) (1 + H) A B C).length + 1) cap2)) (fun k hk => by cases hk; omega))
    clear bxc hrow9 hown9 hgrow9 hat rc9 rf9 hg09 bx9 bf9 RC8x RF8x
    refine (specStoneOk _ _ _ (five (X - 4) Y (1 + W) (1 + H) A B C) ROW.out).mono ?_
    rintro e w10 ⟨rfl, hb10⟩
    have r10 := cell_kept RC.out hb10
    have f10 := (hb10.frozen (p := ⟨w.heap.size, 0, none⟩) (cell_block_lt RC.out)).trans RF.out
    have bx10 := cell_kept BXC.out hb10
    have hg10 : w.grownBy w10 (some bc) := grown_trans HGC.out ⟨hb10.os, hb10.tape, hb10.output, hb10.size, fun k hk _ => hb10.block k hk⟩
    have ROW10 := Lib.hid (ROW.out.below hb10)
    have HG10 := Lib.hid hg10
    have hsz10 := hg10.size
    have hlt10 := cell_block_lt r10
    dsimp only at hlt10
    have hne10 := Nat.ne_of_lt hlt10
    have hne11 := Ne.symm hne10
    clear hb10 hg10
    cases hv : stoneV (five (X - 4) Y (1 + W) (1 + H) A B C)
    · go_wp2_with fail
      refine bodyPost_ret (v := .agg #[.slice (some ⟨w10.heap.size, 0, none⟩) 4 4]) (by simp [results, Try.results33, go_sem, r10, hlt10]) rfl ⟨_, rect (X - 4) Y (1 + W) (1 + H), good_rect HD.out, rfl, ?_, ?_⟩
      · have hro := World.ownsRow_lit (base := w.heap.size) (e := 31) (size := 2) (w10.setCell ⟨w.heap.size, 0, none⟩ (.slice (some ⟨w10.heap.size, 0, none⟩) 4 4)) #[.int .i64 (X - 4), .int .i64 Y, .int .i64 (X - 4 + (1 + W)), .int .i64 Y, .int .i64 (X - 4 + (1 + W)), .int .i64 (Y + (1 + H)), .int .i64 (X - 4), .int .i64 (Y + (1 + H))] 4 (by simp; omega) (by unfold maxLen; omega) rfl
        rw [World.size_setCell] at hro
        exact hro
      · exact grown_trans (grown_new HG10.out (grown_setCell _ _ _ _) (fun k hk => by cases hk; exact Nat.le_refl _)) (World.grownBy_alloc _ _ _)
    · have HV := Lib.hid hv
      clear hv
      go_wp2_with fail
      refine bodyPost_ret (v := .agg #[.slice (some ⟨gg, 0, none⟩) ((four (X - 4) Y (1 + W) (1 + H) A B C).length + 1) cap2]) (by simp [results, Try.results33, go_sem, r10]) rfl ⟨_, _, good_five HD.out HV.out, rfl, ?_, ?_⟩
      · refine owns_base (ownsRow_setCell_other ROW10.out (a := ⟨w.heap.size, 0, none⟩) (fun he => ?_) _) (show w.heap.size ≤ w.heap.size + 1 by omega)
        have := (World.ownsRow.lt ROW10.out _ he).1
        dsimp only at this
        omega
      · exact grown_new HG10.out (grown_setCell _ _ _ _) (fun k hk => by cases hk; exact Nat.le_refl _)
  · have ROW : RowKit.Hid (Row w8 (w.heap.size + 1) (.slice (some ⟨w7.heap.size, 0, none⟩) 4 4) (four (X - 4) Y (1 + W) (1 + H) A B C)) := Lib.hid HR8.out
    have RC := RC8
    have RF := RF8
    have BXC := BX8
    have HGC := HG8
    go_wp2_with fail
    refine (specStoneOk _ _ _ (four (X - 4) Y (1 + W) (1 + H) A B C) ROW.out).mono ?_
    rintro e w10 ⟨rfl, hb10⟩
    have r10 := cell_kept RC.out hb10
    have f10 := (hb10.frozen (p := ⟨w.heap.size, 0, none⟩) (cell_block_lt RC.out)).trans RF.out
    have bx10 := cell_kept BXC.out hb10
    have hg10 : w.grownBy w10 (some bc) := grown_trans HGC.out ⟨hb10.os, hb10.tape, hb10.output, hb10.size, fun k hk _ => hb10.block k hk⟩
    have ROW10 := Lib.hid (ROW.out.below hb10)
    have HG10 := Lib.hid hg10
    have hsz10 := hg10.size
    have hlt10 := cell_block_lt r10
    dsimp only at hlt10
    have hne10 := Nat.ne_of_lt hlt10
    have hne11 := Ne.symm hne10
    clear hb10 hg10
    cases hv : stoneV (four (X - 4) Y (1 + W) (1 + H) A B C)
    · go_wp2_with fail
      refine bodyPost_ret (v := .agg #[.slice (some ⟨w10.heap.size, 0, none⟩) 4 4]) (by simp [results, Try.results33, go_sem, r10, hlt10]) rfl ⟨_, rect (X - 4) Y (1 + W) (1 + H), good_rect HD.out, rfl, ?_, ?_⟩
      · have hro := World.ownsRow_lit (base := w.heap.size) (e := 31) (size := 2) (w10.setCell ⟨w.heap.size, 0, none⟩ (.slice (some ⟨w10.heap.size, 0, none⟩) 4 4)) #[.int .i64 (X - 4), .int .i64 Y, .int .i64 (X - 4 + (1 + W)), .int .i64 Y, .int .i64 (X - 4 + (1 + W)), .int .i64 (Y + (1 + H)), .int .i64 (X - 4), .int .i64 (Y + (1 + H))] 4 (by simp; omega) (by unfold maxLen; omega) rfl
        rw [World.size_setCell] at hro
        exact hro
      · exact grown_trans (grown_new HG10.out (grown_setCell _ _ _ _) (fun k hk => by cases hk; exact Nat.le_refl _)) (World.grownBy_alloc _ _ _)
    · have HV := Lib.hid hv
      clear hv
      go_wp2_with fail
      refine bodyPost_ret (v := .agg #[.slice (some ⟨w7.heap.size, 0, none⟩) 4 4]) (by simp [results, Try.results33, go_sem, r10]) rfl ⟨_, _, good_four HD.out HV.out, rfl, ?_, ?_⟩
      · refine owns_base (ownsRow_setCell_other ROW10.out (a := ⟨w.heap.size, 0, none⟩) (fun he => ?_) _) (show w.heap.size ≤ w.heap.size + 1 by omega)
        have := (World.ownsRow.lt ROW10.out _ he).1
        dsimp only at this
        omega
      · exact grown_new HG10.out (grown_setCell _ _ _ _) (fun k hk => by cases hk; exact Nat.le_refl _)

set_option maxHeartbeats 400000 in
theorem drawStone (w : World) (a : Option Addr) (n cap : Nat) (zs : List Int) (hr : IsCode w a n cap zs) :
    Calls Try.prog 11 #[.slice a n cap] w fun e w' => ∃ (u : Value) (cs : List (Int × Int)), Good cs ∧ e = .returned (.agg #[u]) ∧ Row w' w.heap.size u cs ∧ Below w.heap.size w w' := by
  have hb0 := (Below.refl w.heap.size w).alloc (Nat.le_refl _) (.cells #[.slice none 0 0] 26)
  have hr1 : IsCode (w.alloc (.cells #[.slice none 0 0] 26)) a n cap zs := hr.below hb0
  have HB0 := Lib.hid hb0
  clear hr hb0
  go_enter Try.func11, Try.ntmps11
  go_wp2_with fail
  refine (new_any _ _ _ _ zs hr1).mono ?_
  rintro e w1 ⟨rfl, hc1, hb1, hz1⟩
  simp only [World.size_alloc] at hc1 hz1
  have rc1 : w1.cell? ⟨w.heap.size, 0, none⟩ = some (.slice none 0 0) := (hb1.cell (p := ⟨w.heap.size, 0, none⟩) (by simp)).trans (by go_simp)
  have rf1 : w1.frozen? ⟨w.heap.size, 0, none⟩ = false := (hb1.frozen (p := ⟨w.heap.size, 0, none⟩) (by simp)).trans (by go_simp)
  have HB1 := Lib.hid (HB0.out.trans (hb1.mono (by simp)))
  have RC1 := Lib.hid rc1
  have RF1 := Lib.hid rf1
  clear hr1 hb1 rc1 rf1
  go_wp2_with fail
  refine (stone_any _ _ _ _ _ hc1).mono ?_
  rintro e w2 ⟨u, cs, hg, rfl, hrow, hgr⟩
  obtain ⟨ua, uc, hu, -⟩ := row_sliceS hrow
  subst hu
  have rc2 := (World.grownBy.cell_far hgr ⟨w.heap.size, 0, none⟩ (by simp; omega) (by simp)).trans RC1.out
  have rf2 := (World.grownBy.frozen_far hgr ⟨w.heap.size, 0, none⟩ (by simp; omega) (by simp)).trans RF1.out
  have HR := Lib.hid hrow
  have HG := Lib.hid hg
  have HB2 := Lib.hid (HB1.out.grown hgr HB1.out.size (fun k hk => by cases hk; omega))
  clear hgr hrow hg hc1
  go_wp2_with fail
  refine bodyPost_ret (v := .agg #[.slice ua cs.length uc]) (by simp [results, Try.results11, go_sem, rc2]) rfl ⟨_, cs, HG.out, rfl, ?_, ?_⟩
  · refine owns_base (ownsRow_setCell_other HR.out (a := ⟨w.heap.size, 0, none⟩) (fun he => ?_) _) (show w.heap.size ≤ w1.heap.size by omega)
    have := (World.ownsRow.lt HR.out _ he).1
    dsimp only at this
    omega
  · exact HB2.out.setCell (p := ⟨w.heap.size, 0, none⟩) (Nat.le_refl _) _
end Go.Proofs.Ytikdjcmdeapikaa
