/- The draw of a valid arch. -/
import Derived.Test.YtbmlcfdilopmgaaArchD
import Derived.Test.YtbmlcfdilopmgaaGArch
import Derived.Test.YtbmlcfdilopmgaaDrawC
namespace Go.Proofs.Ytbmlcfdilopmgaa
set_option maxRecDepth 100000
open Go.ChangeShapes Go.WideShapes Go.ChangeAt Go.RowKit

/-- An arch was drawn, in new memory; of what was there the cursor alone was written. -/
def DrawnArch (bc : Nat) (w : World) (e : Ending) (w' : World) : Prop :=
  ∃ (g cap n : Nat) (js : List Jt), Fine 4 js ∧ js.length = n ∧ e = .returned (.agg #[.slice (some ⟨g, 0, none⟩) n cap]) ∧ JRowAt w' w.heap.size g cap js ∧ w.grownBy w' (some bc)

theorem grown_below {w w1 w2 : World} {bc : Nat} (h : w.grownBy w1 (some bc)) (k : Below w1.heap.size w1 w2) : w.grownBy w2 (some bc) := grown_trans h ⟨k.os, k.tape, k.output, k.size, fun b hb _ => k.block b hb⟩
/-- What a draw keeps: the cursor; of what was there it alone is written; the box of the result, still empty. -/
def Base (w W : World) (bc : Nat) (a : Option Addr) (n cap : Nat) : Prop :=
  CurOk W bc a n cap ∧ w.grownBy W (some bc) ∧ W.cell? ⟨w.heap.size, 0, none⟩ = some (.slice none 0 0) ∧ W.frozen? ⟨w.heap.size, 0, none⟩ = false ∧ bc < w.heap.size ∧ (0 < n → ∀ x, a = some x → x.block < w.heap.size)
theorem Base.below {w W W' : World} {bc n cap : Nat} {a : Option Addr} (h : Base w W bc a n cap) (k : Below W.heap.size W W') : Base w W' bc a n cap :=
  ⟨h.1.kept (row := none) ⟨k.os, k.tape, k.output, k.size, fun b hb _ => k.block b hb⟩ (by simp) (fun _ _ _ => by simp), grown_below h.2.1 k, cell_kept h.2.2.1 k, (k.frozen (p := ⟨w.heap.size, 0, none⟩) (cell_block_lt h.2.2.1)).trans h.2.2.2.1, h.2.2.2.2⟩
theorem Base.drew {w W W' : World} {bc n cap : Nat} {a : Option Addr} (h : Base w W bc a n cap) (hc : CurOk W' bc a n cap) (hg : W.grownBy W' (some bc)) : Base w W' bc a n cap := by
  have hb := h.2.2.2.2.1
  have hl := cell_block_lt h.2.2.1
  exact ⟨hc, grown_trans h.2.1 hg, (World.grownBy.cell_far hg ⟨w.heap.size, 0, none⟩ hl (by simp; omega)).trans h.2.2.1, (World.grownBy.frozen_far hg ⟨w.heap.size, 0, none⟩ hl (by simp; omega)).trans h.2.2.2.1, h.2.2.2.2⟩
theorem Base.drawn {w W : World} {bc n cap : Nat} {a : Option Addr} (h : Base w W bc a n cap) : Base w W.drew bc a n cap := ⟨h.1, grown_drew h.2.1, h.2.2⟩
theorem Base.store {w W : World} {bc n cap : Nat} {a : Option Addr} (h : Base w W bc a n cap) (b o : Nat) (hb : w.heap.size < b) (v : Value) : Base w (W.setCell ⟨b, o, none⟩ v) bc a n cap := by
  have hg := grown_setCell W b o v
  refine ⟨h.1.kept hg (by simp; have := h.2.2.2.2.1; omega) (fun h0 x hx => by simp; have := h.2.2.2.2.2 h0 x hx; omega), grown_new h.2.1 hg (fun k hk => by cases hk; omega), cell_sf2 h.2.2.1 (by omega), ?_, h.2.2.2.2⟩
  rw [World.frozen?_setCell]
  exact h.2.2.2.1
/-- A box that holds a row of joints. -/
def Held (w W : World) (b g cap m : Nat) (js : List Jt) : Prop :=
  W.cell? ⟨b, 0, none⟩ = some (.slice (some ⟨g, 0, none⟩) m cap) ∧ W.frozen? ⟨b, 0, none⟩ = false ∧ JRowAt W (w.heap.size + 1) g cap js ∧ js.length = m ∧ w.heap.size < b
theorem Held.below {w W W' : World} {b g cap m : Nat} {js : List Jt} (h : Held w W b g cap m js) (k : Below W.heap.size W W') : Held w W' b g cap m js :=
  ⟨cell_kept h.1 k, (k.frozen (p := ⟨b, 0, none⟩) (cell_block_lt h.1)).trans h.2.1, h.2.2.1.below k, h.2.2.2⟩
theorem JRowAt.kept {w w' : World} {B g cap bc : Nat} {js : List Jt} (h : JRowAt w B g cap js) (hg : w.grownBy w' (some bc)) (hne : bc < B) : JRowAt w' B g cap js :=
  World.ownsRow.kept h hg (.inr (by simp [Value.ownBlock]; have := h.lt.1; omega))
theorem Held.drew {w W W' : World} {b g cap m bc : Nat} {js : List Jt} (h : Held w W b g cap m js) (hg : W.grownBy W' (some bc)) (hbc : bc < w.heap.size) : Held w W' b g cap m js := by
  have hb := h.2.2.2.2
  have hl := cell_block_lt h.1
  exact ⟨(World.grownBy.cell_far hg ⟨b, 0, none⟩ hl (by simp; omega)).trans h.1, (World.grownBy.frozen_far hg ⟨b, 0, none⟩ hl (by simp; omega)).trans h.2.1, h.2.2.1.kept hg (by omega), h.2.2.2⟩
theorem JRowAt.store {w : World} {B g cap : Nat} {js : List Jt} (h : JRowAt w B g cap js) (b o : Nat) (hb : b ≠ g) (v : Value) : JRowAt (w.setCell ⟨b, o, none⟩ v) B g cap js :=
  ownsRow_setCell_other h (a := ⟨b, o, none⟩) (fun he => by simp [Value.ownBlock] at he; exact hb he.symm) v
theorem Held.store {w W : World} {b g cap m : Nat} {js : List Jt} (h : Held w W b g cap m js) (b' o : Nat) (h1 : b' ≠ b) (h2 : b' ≠ g) (v : Value) : Held w (W.setCell ⟨b', o, none⟩ v) b g cap m js :=
  ⟨cell_sf2 h.1 (fun e => h1 e.symm), by rw [World.frozen?_setCell]; exact h.2.1, h.2.2.1.store b' o h2 v, h.2.2.2⟩
theorem Held.lt {w W : World} {b g cap m : Nat} {js : List Jt} (h : Held w W b g cap m js) : b < W.heap.size ∧ w.heap.size < g ∧ g < W.heap.size ∧ m ≤ cap ∧ cap ≤ maxLen := by
  have h1 := h.2.2.1.lt
  have h2 := h.2.2.2.1
  exact ⟨cell_block_lt h.1, by omega, h1.2.1, by omega, h1.2.2.2⟩
/-- A box made for a new row. -/
theorem Held.make {w W : World} {g cap m : Nat} {js : List Jt} (t : TypeId) (h : JRowAt W (w.heap.size + 1) g cap js) (hm : js.length = m) (hw : w.heap.size < W.heap.size) : Held w (W.alloc (.cells #[.slice (some ⟨g, 0, none⟩) m cap] t)) W.heap.size g cap m js :=
  ⟨by go_simp, by go_simp, h.below ((Below.refl W.heap.size W).alloc (Nat.le_refl _) _), hm, hw⟩
theorem Held.inner {w W : World} {b g cap m i : Nat} {js : List Jt} (h : Held w W b g cap m js) (hi : i < m) (hb : b ≠ g) (x y : Int) : Held w ((W.setCell ⟨g, i * 4, none⟩ (.int .i64 x)).setCell ⟨g, i * 4 + 1, none⟩ (.int .i64 y)) b g cap m (js.set i ((x, y), (jt js i).2)) := by
  obtain ⟨h1, h2, h3, h4, h5⟩ := h
  refine ⟨cell_sf2 (cell_sf2 h1 hb) hb, by rw [World.frozen?_setCell, World.frozen?_setCell]; exact h2, ?_, by rw [List.length_set]; exact h4, h5⟩
  have := (World.ownsRow.stored (World.ownsRow.stored h3 (i * 4) (.int .i64 x)).1 (i * 4 + 1) (.int .i64 y)).1
  rw [flatJ_inner js i x y (by omega)] at this
  show World.ownsRow _ _ _ _ (.slice _ (js.set i ((x, y), (jt js i).2)).length _) _ _
  rw [List.length_set]
  exact this
theorem Held.outer {w W : World} {b g cap m i : Nat} {js : List Jt} (h : Held w W b g cap m js) (hi : i < m) (hb : b ≠ g) (x y : Int) : Held w ((W.setCell ⟨g, i * 4 + 2, none⟩ (.int .i64 x)).setCell ⟨g, i * 4 + 3, none⟩ (.int .i64 y)) b g cap m (js.set i ((jt js i).1, (x, y))) := by
  obtain ⟨h1, h2, h3, h4, h5⟩ := h
  refine ⟨cell_sf2 (cell_sf2 h1 hb) hb, by rw [World.frozen?_setCell, World.frozen?_setCell]; exact h2, ?_, by rw [List.length_set]; exact h4, h5⟩
  have := (World.ownsRow.stored (World.ownsRow.stored h3 (i * 4 + 2) (.int .i64 x)).1 (i * 4 + 3) (.int .i64 y)).1
  rw [flatJ_outer js i x y (by omega)] at this
  show World.ownsRow _ _ _ _ (.slice _ (js.set i ((jt js i).1, (x, y))).length _) _ _
  rw [List.length_set]
  exact this

theorem Held.put {w W : World} {b b2 g g2 cap cap2 m m2 : Nat} {js js2 : List Jt} (h : Held w W b g cap m js) (h2 : Held w W b2 g2 cap2 m2 js2) (hb : b ≠ g2) : Held w (W.setCell ⟨b, 0, none⟩ (.slice (some ⟨g2, 0, none⟩) m2 cap2)) b g2 cap2 m2 js2 :=
  ⟨World.cell?_setCell_same' _ _ _ (by rw [h.1]; rfl), by rw [World.frozen?_setCell]; exact h.2.1, h2.2.2.1.store b 0 hb _, h2.2.2.2.1, h.2.2.2.2⟩

set_option maxRecDepth 100000 in
set_option maxHeartbeats 4000000 in
theorem arch_cur (w : World) (bc : Nat) (a : Option Addr) (n cap : Nat) (hc : CurOk w bc a n cap) :
    Calls Try.prog 48 #[.pointer (some ⟨bc, 0, none⟩)] w fun e w' => DrawnArch bc w e w' ∧ CurOk w' bc a n cap := by
  have hbase : Base w (w.alloc (.cells #[.slice none 0 0] 26)) bc a n cap :=
    ⟨hc.alloc _, World.grownBy_alloc _ _ _, by go_simp, by go_simp, hc.lt, hc.code_lt⟩
  have hbw : bc < w.heap.size := hc.lt
  have HB0 := Lib.hid hbase
  clear hbase hc
  go_enter Try.func48, Try.ntmps48
  go_wp2_with fail
  refine (below_any _ _ _ _ _ _ (by omega) HB0.out.1).mono ?_
  rintro e w1 ⟨x, ⟨hx0, hx1, -⟩, rfl, hc1, hg1⟩
  have hx2 := hx1 (by omega)
  obtain ⟨q, rfl⟩ : ∃ q : Nat, x = (q : Int) := ⟨x.toNat, by omega⟩
  have HB1 := Lib.hid (HB0.out.drew hc1 hg1)
  have hz1 := hg1.size
  simp only [World.size_alloc] at hz1
  clear hx1 hc1 hg1 HB0
  go_wp2_with fail
  refine (l06Shape q (by omega) _).mono ?_
  rintro e w2 ⟨g0, cap0, rfl, hr2, hb2⟩
  have hz2 := hb2.size
  have HA3 := Lib.hid (Held.make (w := w) 26 (JRowAt.base hr2 (show w.heap.size + 1 ≤ w1.heap.size by omega)) rfl (show w.heap.size < w2.heap.size by omega))
  have HB3 := Lib.hid ((HB1.out.below hb2).below ((Below.refl w2.heap.size w2).alloc (Nat.le_refl _) (.cells #[.slice (some ⟨g0, 0, none⟩) (shape q).length cap0] 26)))
  have HF3 := Lib.hid (fine_shape q)
  generalize (shape q).length = m0 at *
  generalize shape q = js0 at *
  clear hr2 hb2 HB1
  go_wp2_with fail
  refine (below_any _ _ _ _ _ _ (by omega) HB3.out.1).mono ?_
  rintro e w4 ⟨k0, ⟨hk0, hk1, -⟩, rfl, hc4, hg4⟩
  have hk2 := hk1 (by omega)
  obtain ⟨k4, rfl⟩ : ∃ k : Nat, k0 = (k : Int) := ⟨k0.toNat, by omega⟩
  have HB4 := Lib.hid (HB3.out.drew hc4 hg4)
  have HA4 := Lib.hid (HA3.out.drew hg4 hbw)
  clear hk1 hc4 hg4 HB3 HA3
  generalize w2.heap.size = bA at *
  go_wp2_with fail
  go_loopw [4] (fun t wr => ∃ k : Nat, k ≤ 4 ∧ t = .int .i64 k ∧ Base w wr bc a n cap ∧ ∃ (g cp m : Nat) (js : List Jt), Fine (4 - k) js ∧ Held w wr bA g cp m js)
    (fun t _ => (intOf t).toNat)
  case atStart => exact ⟨k4, by omega, rfl, HB4.out, g0, cap0, m0, js0, HF3.out.more (Nat.zero_le _), HA4.out⟩
  case round =>
    clear HB4 HA4 HF3
    obtain ⟨k, hk4, rfl, hB, g, cp, m, js, hF, hA⟩ := hrel
    have HB := Lib.hid hB
    have HA := Lib.hid hA
    have HF := Lib.hid hF
    have hm := hF.1
    rw [archV_iff] at hm
    have hm3 := hm.2
    rw [hA.2.2.2.1] at hm3
    obtain ⟨la1, la2, la3, la4, la5⟩ := hA.lt
    have ca := hA.1
    have fa := hA.2.1
    unfold maxLen at la5
    have hcl := hF.2
    have HCL := Lib.hid hcl
    have cr := hB.2.2.1
    have fr := hB.2.2.2.1
    clear hB hA hF hm hcl
    by_cases hk : 0 < k
    · go_wp2_with fail
      refine (l06Copy wr _ g cp m js HA.out.2.2.1 HA.out.2.2.2.1 (by omega) (by omega)).mono ?_
      rintro e w5 ⟨g2, cap2, rfl, hr5, hb5⟩
      rw [HA.out.2.2.2.1]
      have hz5 := hb5.size
      have HX5 := Lib.hid (Held.make (w := w) 26 (JRowAt.base hr5 (show w.heap.size + 1 ≤ wr.heap.size by omega)) HA.out.2.2.2.1 (show w.heap.size < w5.heap.size by omega))
      have hal := (Below.refl w5.heap.size w5).alloc (Nat.le_refl _) (.cells #[.slice (some ⟨g2, 0, none⟩) m cap2] 26)
      have HB5 := Lib.hid ((HB.out.below hb5).below hal)
      have HA5 := Lib.hid ((HA.out.below hb5).below hal)
      have hg2 := hr5.lt
      have c5 := HX5.out.1
      clear hb5 hr5 hal HB HA ca fa cr fr
      go_wp2_with fail
      refine (below_any _ _ _ _ _ _ (by omega) HB5.out.1).mono ?_
      rintro e w6 ⟨i0, ⟨hi0, hi1, -⟩, rfl, hc6, hg6⟩
      have hi2 := hi1 (by omega)
      obtain ⟨i, rfl⟩ : ∃ i : Nat, i0 = (i : Int) := ⟨i0.toNat, by omega⟩
      have HB6 := Lib.hid (HB5.out.drew hc6 hg6)
      have HA6 := Lib.hid (HA5.out.drew hg6 hbw)
      have HX6 := Lib.hid (HX5.out.drew hg6 hbw)
      have hz6 := hg6.size
      clear hc6 hg6 hi1 HB5 HA5 HX5 c5
      go_wp2_with fail
      refine (below_any _ _ _ _ _ _ (by omega) HB6.out.1).mono ?_
      rintro e w7 ⟨dx, ⟨hdx0, hdx1, -⟩, rfl, hc7, hg7⟩
      have hdx2 := hdx1 (by omega)
      have HB7 := Lib.hid (HB6.out.drew hc7 hg7)
      have HA7 := Lib.hid (HA6.out.drew hg7 hbw)
      have HX7 := Lib.hid (HX6.out.drew hg7 hbw)
      have hz7 := hg7.size
      clear hc7 hg7 hdx1 HB6 HA6 HX6
      go_wp2_with fail
      refine (below_any _ _ _ _ _ _ (by omega) HB7.out.1).mono ?_
      rintro e w8 ⟨dy, ⟨hdy0, hdy1, -⟩, rfl, hc8, hg8⟩
      have hdy2 := hdy1 (by omega)
      have HB8 := Lib.hid (HB7.out.drew hc8 hg8)
      have HA8 := Lib.hid (HA7.out.drew hg8 hbw)
      have HX8 := Lib.hid (HX7.out.drew hg8 hbw)
      have hz8 := hg8.size
      clear hc8 hg8 hdy1 HB7 HA7 HX7
      go_wp2_with fail
      refine (once_any _ _ _ _ _ _ (by omega) HB8.out.1).mono ?_
      rintro e w9 ⟨tf, rfl, hc9, hg9⟩
      have HB9 := Lib.hid (HB8.out.drew hc9 hg9)
      have HA9 := Lib.hid (HA8.out.drew hg9 hbw)
      have HX9 := Lib.hid (HX8.out.drew hg9 hbw)
      have hz9 := hg9.size
      simp only [World.size_alloc] at hz6 hg2
      clear hc9 hg9 HB8 HA8 HX8
      have ci := HCL.out i (by have := HA9.out.2.2.2.1; omega)
      obtain ⟨⟨⟨ix, iy⟩, ⟨ox, oy⟩⟩, ej⟩ : ∃ p, jt js i = p := ⟨_, rfl⟩
      rw [ej] at ci
      have HEJ := Lib.hid ej
      obtain ⟨r0, r1, r2, r3⟩ := HX9.out.2.2.1.cells i (by have := HA9.out.2.2.2.1; omega)
      rw [ej] at r0 r1 r2 r3
      dsimp only at ci r0 r1 r2 r3
      have cx := HX9.out.1
      have frx : ∀ o, w9.frozen? ⟨g2, o, none⟩ = false := fun o => World.ownsRow.frozenAt HX9.out.2.2.1 o
      obtain ⟨lx1, lx2, lx3, lx4, lx5⟩ := HX9.out.lt
      unfold maxLen at lx5
      have hmlen : (m : Int) ≤ 8 := by omega
      have hile : (i : Int) < (m : Int) := by omega
      have hi00 : (0 : Int) ≤ (i : Int) := Int.natCast_nonneg _
      have hk44 : (4 - k : Nat) ≤ 4 := by omega
      have hxg : w5.heap.size ≠ g2 := by omega
      have hxa : w5.heap.size ≠ bA := by omega
      have hgbA : g2 ≠ bA := by omega
      have hgg : g2 ≠ g := by omega
      have hxg' : w5.heap.size ≠ g := by omega
      have hgx := Ne.symm hxg
      clear ej
      generalize hbX : w5.heap.size = bX at *
      cases tf
      · have HX10 := Lib.hid (Held.outer HX9.out (show i < m by omega) hxg (ox + (dx - 1)) (oy + (dy - 1)))
        have HB10 := Lib.hid ((HB9.out.store g2 (i * 4 + 2) (by omega) (.int .i64 (ox + (dx - 1)))).store g2 (i * 4 + 3) (by omega) (.int .i64 (oy + (dy - 1))))
        have HA10 := Lib.hid ((HA9.out.store g2 (i * 4 + 2) hgbA hgg (.int .i64 (ox + (dx - 1)))).store g2 (i * 4 + 3) hgbA hgg (.int .i64 (oy + (dy - 1))))
        have hcl2 : Close (4 - k + 1) (js.set i ((jt js i).1, (ox + (dx - 1), oy + (dy - 1)))) := Close.set HCL.out i (by have := HA9.out.2.2.2.1; omega) _ (by rw [HEJ.out]; dsimp only; omega)
        have HCL2 := Lib.hid hcl2
        clear hcl2 HB9 HA9 HX9 HEJ HCL
        go_wp2_with fail
        go_region
        refine World.any (p := fun W => Exit.then _ _ _ _ W) (fun W hW => ?_)
        have HXW : RowKit.Hid (Held w W bX g2 cap2 m (js.set i ((jt js i).1, (ox + (dx - 1), oy + (dy - 1))))) := Lib.hid (by subst hW; exact HX10.out)
        have HBW : RowKit.Hid (Base w W bc a n cap) := Lib.hid (by subst hW; exact HB10.out.drawn)
        have HAW : RowKit.Hid (Held w W bA g cp m js) := Lib.hid (by subst hW; exact HA10.out)
        clear hW HX10 HB10 HA10 cx frx r0 r1 r2 r3
        generalize hJS : (js.set i ((jt js i).1, (ox + (dx - 1), oy + (dy - 1)))) = js2 at *
        have cxw := HXW.out.1
        go_wp2_with fail
        refine (specArchOk W _ g2 cap2 m js2 HXW.out.2.2.1 HXW.out.2.2.2.1 (by omega)).mono ?_
        rintro e w11 ⟨rfl, hb11⟩
        have HX11 := Lib.hid (HXW.out.below hb11)
        have HB11 := Lib.hid (HBW.out.below hb11)
        have HA11 := Lib.hid (HAW.out.below hb11)
        have cx11 := HX11.out.1
        have ca11 := HA11.out.1
        have fa11 := HA11.out.2.1
        clear hb11 HXW HBW HAW cxw
        cases hv : archV js2
        · go_wp2_with fail
          go_roundw
          case rel => exact ⟨k - 1, by omega, by rw [show ((k - 1 : Nat) : Int) = (k : Int) - 1 by omega], HB11.out, g, cp, m, js, HF.out.more (by omega), HA11.out⟩
          case measure => simp [intOf]; omega
        · have HV := Lib.hid hv
          clear hv
          go_wp2_with fail
          have HP := Lib.hid (Held.put HA11.out HX11.out (Ne.symm hgbA))
          have HQ := Lib.hid (HB11.out.store bA 0 HA11.out.2.2.2.2 (.slice (some ⟨g2, 0, none⟩) m cap2))
          go_roundw
          case rel => exact ⟨k - 1, by omega, by rw [show ((k - 1 : Nat) : Int) = (k : Int) - 1 by omega], HQ.out, g2, cap2, m, js2, ⟨HV.out, HCL2.out.more (by omega)⟩, HP.out⟩
          case measure => simp [intOf]; omega
      · have HX10 := Lib.hid (Held.inner HX9.out (show i < m by omega) hxg (ix + (dx - 1)) (iy + (dy - 1)))
        have HB10 := Lib.hid ((HB9.out.store g2 (i * 4) (by omega) (.int .i64 (ix + (dx - 1)))).store g2 (i * 4 + 1) (by omega) (.int .i64 (iy + (dy - 1))))
        have HA10 := Lib.hid ((HA9.out.store g2 (i * 4) hgbA hgg (.int .i64 (ix + (dx - 1)))).store g2 (i * 4 + 1) hgbA hgg (.int .i64 (iy + (dy - 1))))
        have hcl2 : Close (4 - k + 1) (js.set i ((ix + (dx - 1), iy + (dy - 1)), (jt js i).2)) := Close.set HCL.out i (by have := HA9.out.2.2.2.1; omega) _ (by rw [HEJ.out]; dsimp only; omega)
        have HCL2 := Lib.hid hcl2
        clear hcl2 HB9 HA9 HX9 HEJ HCL
        go_wp2_with fail
        go_region
        refine World.any (p := fun W => Exit.then _ _ _ _ W) (fun W hW => ?_)
        have HXW : RowKit.Hid (Held w W bX g2 cap2 m (js.set i ((ix + (dx - 1), iy + (dy - 1)), (jt js i).2))) := Lib.hid (by subst hW; exact HX10.out)
        have HBW : RowKit.Hid (Base w W bc a n cap) := Lib.hid (by subst hW; exact HB10.out.drawn)
        have HAW : RowKit.Hid (Held w W bA g cp m js) := Lib.hid (by subst hW; exact HA10.out)
        clear hW HX10 HB10 HA10 cx frx r0 r1 r2 r3
        generalize hJS : (js.set i ((ix + (dx - 1), iy + (dy - 1)), (jt js i).2)) = js2 at *
        have cxw := HXW.out.1
        go_wp2_with fail
        refine (specArchOk W _ g2 cap2 m js2 HXW.out.2.2.1 HXW.out.2.2.2.1 (by omega)).mono ?_
        rintro e w11 ⟨rfl, hb11⟩
        have HX11 := Lib.hid (HXW.out.below hb11)
        have HB11 := Lib.hid (HBW.out.below hb11)
        have HA11 := Lib.hid (HAW.out.below hb11)
        have cx11 := HX11.out.1
        have ca11 := HA11.out.1
        have fa11 := HA11.out.2.1
        clear hb11 HXW HBW HAW cxw
        cases hv : archV js2
        · go_wp2_with fail
          go_roundw
          case rel => exact ⟨k - 1, by omega, by rw [show ((k - 1 : Nat) : Int) = (k : Int) - 1 by omega], HB11.out, g, cp, m, js, HF.out.more (by omega), HA11.out⟩
          case measure => simp [intOf]; omega
        · have HV := Lib.hid hv
          clear hv
          go_wp2_with fail
          have HP := Lib.hid (Held.put HA11.out HX11.out (Ne.symm hgbA))
          have HQ := Lib.hid (HB11.out.store bA 0 HA11.out.2.2.2.2 (.slice (some ⟨g2, 0, none⟩) m cap2))
          go_roundw
          case rel => exact ⟨k - 1, by omega, by rw [show ((k - 1 : Nat) : Int) = (k : Int) - 1 by omega], HQ.out, g2, cap2, m, js2, ⟨HV.out, HCL2.out.more (by omega)⟩, HP.out⟩
          case measure => simp [intOf]; omega
    · have hk0 : k = 0 := by omega
      subst hk0
      go_wp2_with fail
      have n1 := Nat.ne_of_lt la2
      refine bodyPost_ret (v := .agg #[.slice (some ⟨g, 0, none⟩) m cp]) (by simp [results, Try.results48, go_sem, cr]) rfl ⟨⟨g, cp, m, js, HF.out, HA.out.2.2.2.1, rfl, ?_, ?_⟩, ?_⟩
      · exact JRowAt.base (JRowAt.store HA.out.2.2.1 _ _ n1 _) (by omega)
      · exact grown_new HB.out.2.1 (grown_setCell _ _ _ _) (fun k hk => by cases hk; exact Nat.le_refl _)
      · exact HB.out.1.kept (grown_setCell _ _ _ _) (by have := HB.out.2.2.2.2.1; simp; omega) (fun hn x hx => by have := HB.out.2.2.2.2.2 hn x hx; simp; omega)
theorem arch_any (w : World) (bc : Nat) (a : Option Addr) (n cap : Nat) (hc : CurOk w bc a n cap) :
    Calls Try.prog 48 #[.pointer (some ⟨bc, 0, none⟩)] w (DrawnArch bc w) := (arch_cur w bc a n cap hc).mono fun _ _ h => h.1
end Go.Proofs.Ytbmlcfdilopmgaa
