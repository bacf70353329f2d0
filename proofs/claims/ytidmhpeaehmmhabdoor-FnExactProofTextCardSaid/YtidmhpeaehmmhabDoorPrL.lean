/- Proofs of collapse in the laws: as they come in, their size, their copy, their comparison, their marks. -/
import Derived.Test.YtidmhpeaehmmhabDoorIntL
import Derived.Test.YtidmhpeaehmmhabDoorFourP
import Derived.Deep.Slices
import Derived.ChangeSlices
import Derived.Laws.OwnMore
namespace Go.Proofs.YtidmhpeaehmmhabDoor
set_option maxRecDepth 100000
open Go.ChangeShapes Go.WideShapes Go.ChangeAt Go.RowKit Go.Joins Go.Deep

/-- Numbers that came in: whatever address. -/
structure InNs (w : World) (a : Option Addr) (n cap : Nat) (l : List Int) : Prop where
  len : l.length = n
  room : n ≤ cap ∧ cap ≤ maxLen
  cells : (a = none ∧ n = 0 ∧ cap = 0) ∨ ∃ x, a = some x ∧ ∀ i, i < n → w.cell? (x.add i) = some (.int .i64 (l.getD i 0))
  wf : ∀ i, i < n → I64 (l.getD i 0)
theorem InNs.below {w w' : World} {a : Option Addr} {n cap : Nat} {l : List Int} (h : InNs w a n cap l) (hb : Below w.heap.size w w') : InNs w' a n cap l :=
  ⟨h.len, h.room, h.cells.imp id fun ⟨x, e, hx⟩ => ⟨x, e, fun i hi => (hb.cell (cell_block_lt (hx i hi))).trans (hx i hi)⟩, h.wf⟩

theorem getD_take {l : List Int} {n i : Nat} (h : i < n) : (l.take n).getD i 0 = l.getD i 0 := by
  rw [List.getD_eq_getElem?_getD, List.getD_eq_getElem?_getD, List.getElem?_take_of_lt h]
theorem ns_cell {H : Type} {enc : TypeId × Value → H} {w : World} {base fuel : Nat} {spare : Nat → Bool} {held : Bool} {c0 : Value} {d : DataW H × List MemPlace}
    (hf : DataW.trod enc Tryd.prog w base spare held fuel 22 [c0] = some d) : ∃ (a : Option Addr) (n cap : Nat) (l : List Int), c0 = .slice a n cap ∧ InNs w a n cap l := by
  rcases open_ints Tryd.underlying22 Tryd.underlying3 (by kernel_rfl) hf with ⟨hcs, _⟩ | ⟨x, n, c, zs, hcs, _, hl, hm, hz, _, hcell, hwz⟩
  · simp at hcs
    exact ⟨none, 0, 0, [], hcs, rfl, ⟨Nat.le_refl _, Nat.zero_le _⟩, .inl ⟨rfl, rfl, rfl⟩, fun i hi => absurd hi (Nat.not_lt_zero i)⟩
  · simp at hcs
    have hnz : n ≤ zs.length := by rw [hz]; split <;> omega
    refine ⟨some x, n, c, zs.take n, hcs, by simp; omega, ⟨hl, hm⟩, .inr ⟨x, rfl, fun i hi => ?_⟩, fun i hi => ?_⟩
    · rw [getD_take hi]; exact hcell i (by omega)
    · rw [getD_take hi, List.getD_eq_getElem?_getD, List.getElem?_eq_getElem (show i < zs.length by omega)]
      exact I64.of_wf (hwz _ (List.getElem_mem _))

theorem cellsProof : Tryd.prog.cellsOf 24 = 2 := by kernel_rfl
/-- A proof that came in. -/
theorem open_proof {H : Type} {enc : TypeId × Value → H} {w : World} {r : Reach} {b0 base : Nat} {spare : Nat → Bool} {held : Bool} {v : Value} {d : DataW H} {p : List MemPlace}
    (hv : Value.okWide Tryd.prog w r b0 24 v) (h : DataW.Trod enc Tryd.prog w base spare held 24 v d p) :
    ∃ (a : Option Addr) (n cap : Nat) (ps : List Int) (b : Option Addr) (m cap2 : Nat) (fs : List Int), v = .agg #[.slice a n cap, .slice b m cap2] ∧ InNs w a n cap ps ∧ InNs w b m cap2 fs := by
  obtain ⟨cs, rfl, hsz⟩ := okWide_struct Tryd.underlying24 hv
  obtain ⟨l⟩ := cs
  match l, hsz.trans cellsProof with
  | [c0, c1], _ =>
    obtain ⟨fuel, hf⟩ := h
    obtain ⟨y0, y1, n, -, -, h0, h1⟩ := trod_struct2 Tryd.underlying24 hf
    have ci : Tryd.prog.cellsOf 22 = 1 := by kernel_rfl
    simp only [Value.cells, ci, List.drop_zero, List.take_succ_cons, List.take_zero, List.drop_succ_cons] at h0 h1
    obtain ⟨a, n, cap, ps, rfl, hi⟩ := ns_cell h0
    obtain ⟨b, m, cap2, fs, rfl, hj⟩ := ns_cell h1
    exact ⟨a, n, cap, ps, b, m, cap2, fs, rfl, hi, hj⟩

/-- What szIntS answers, of whatever is left. -/
def szI (n : Nat) (L : Int) : Int := if (n : Int) ≤ L then L - n else -1
theorem szI_yes {n : Nat} {L : Int} (h : (n : Int) ≤ L) : szI n L = L - n := if_pos h
theorem szI_no {n : Nat} {L : Int} (h : ¬ (n : Int) ≤ L) : szI n L = -1 := if_neg h
theorem szIntS (a : Option Addr) (n cap : Nat) (L : Int) (w : World) (hn : n ≤ maxLen) (hL : 0 ≤ L ∧ L ≤ 1048576) :
    Calls Tryd.prog 9 #[.slice a n cap, .int .i64 L] w fun e w' => e = .returned (.int .i64 (szI n L)) ∧ w = w' := by
  unfold maxLen at hn
  obtain ⟨hL0, hL1⟩ := hL
  by_cases h : (n : Int) ≤ L
  · go_enter Tryd.func9, Tryd.ntmps9
    go_wp2
    go_ret
    exact ⟨ret_i64 (by rw [szI_yes h]), rfl⟩
  · go_enter Tryd.func9, Tryd.ntmps9
    go_wp2
    go_ret
    exact ⟨ret_i64 (by rw [szI_no (by omega)]), rfl⟩
/-- What szProof answers. -/
def szP (n m : Nat) (L : Int) : Int := if (n : Int) + m ≤ L then L - n - m else -1
theorem szProof (a b : Option Addr) (n cap m cap2 : Nat) (L : Int) (w : World) (hn : n ≤ maxLen) (hm : m ≤ maxLen) (hL : 0 ≤ L ∧ L ≤ 1048576) :
    Calls Tryd.prog 4 #[.agg #[.slice a n cap, .slice b m cap2], .int .i64 L] w fun e w' => e = .returned (.int .i64 (szP n m L)) ∧ Below w.heap.size w w' := by
  have HM := Lib.hid hm
  have HB0 := Lib.hid ((Below.refl w.heap.size w).alloc (Nat.le_refl _) (.cells #[.slice a n cap, .slice b m cap2] 24))
  have hsI := fun L w h => szIntS a n cap L w hn h
  have HS := Lib.hid hsI
  clear hsI hm
  by_cases h : (n : Int) ≤ L
  · have HI := Lib.hid (szI_yes h)
    by_cases h2 : (m : Int) ≤ L - n
    · have HI2 := Lib.hid (szI_yes h2)
      have HV := Lib.hid (show szP n m L = L - n - m from if_pos (by omega))
      obtain ⟨q, hq⟩ : ∃ q, q = L - (n : Int) := ⟨_, rfl⟩
      obtain ⟨z, hz⟩ : ∃ z, z = q - (m : Int) := ⟨_, rfl⟩
      rw [← hq] at HI HI2 HV
      rw [← hz] at HI2 HV
      have hq0 : 0 ≤ q := by omega
      have hq1 : q ≤ 1048576 := by omega
      have hq2 : ¬ q < 0 := by omega
      have hq3 : decide (q < 0) = false := decide_eq_false hq2
      have hz2 : ¬ z < 0 := by omega
      have hz3 : decide (z < 0) = false := decide_eq_false hz2
      clear hq hz h h2
      go_enter Tryd.func4, Tryd.ntmps4
      go_wp2_with fail
      refine (HS.out _ _ ⟨by omega, by omega⟩).mono ?_
      rintro e w1 ⟨rfl, rfl⟩
      rw [HI.out]
      go_wp2_with fail
      refine (szIntS _ _ _ _ _ HM.out ⟨by omega, by omega⟩).mono ?_
      rintro e w1 ⟨rfl, rfl⟩
      rw [HI2.out]
      go_wp2_with fail
      go_ret
      exact ⟨ret_i64 HV.out.symm, HB0.out⟩
    · have HI2 := Lib.hid (szI_no h2)
      have HV := Lib.hid (show szP n m L = -1 from if_neg (by omega))
      obtain ⟨q, hq⟩ : ∃ q, q = L - (n : Int) := ⟨_, rfl⟩
      rw [← hq] at HI HI2
      have hq0 : 0 ≤ q := by omega
      have hq1 : q ≤ 1048576 := by omega
      have hq2 : ¬ q < 0 := by omega
      have hq3 : decide (q < 0) = false := decide_eq_false hq2
      clear hq h h2
      go_enter Tryd.func4, Tryd.ntmps4
      go_wp2_with fail
      refine (HS.out _ _ ⟨by omega, by omega⟩).mono ?_
      rintro e w1 ⟨rfl, rfl⟩
      rw [HI.out]
      go_wp2_with fail
      refine (szIntS _ _ _ _ _ HM.out ⟨by omega, by omega⟩).mono ?_
      rintro e w1 ⟨rfl, rfl⟩
      rw [HI2.out]
      go_wp2_with fail
      go_ret
      exact ⟨ret_i64 HV.out.symm, HB0.out⟩
  · have HI := Lib.hid (szI_no h)
    have HV := Lib.hid (show szP n m L = -1 from if_neg (by omega))
    clear h
    go_enter Tryd.func4, Tryd.ntmps4
    go_wp2_with fail
    refine (HS.out _ _ ⟨by omega, by omega⟩).mono ?_
    rintro e w1 ⟨rfl, rfl⟩
    rw [HI.out]
    go_wp2_with fail
    go_ret
    exact ⟨ret_i64 HV.out.symm, HB0.out⟩

/-- The numbers up to the k-th, then zeros. -/
def intsTo (l : List Int) (k : Nat) : List Int := l.take k ++ List.replicate (l.length - k) 0
theorem intsTo_length (l : List Int) (k : Nat) (h : k ≤ l.length) : (intsTo l k).length = l.length := by unfold intsTo; simp; omega
theorem intsTo_zero (l : List Int) : intsTo l 0 = List.replicate l.length 0 := by simp [intsTo]
theorem intsTo_end (l : List Int) : intsTo l l.length = l := by simp [intsTo]
theorem intsTo_set (l : List Int) (k : Nat) (h : k < l.length) : (intsTo l k).set k (l.getD k 0) = intsTo l (k + 1) := by
  unfold intsTo
  rw [List.set_append_right _ _ (by simp; omega), show k - (l.take k).length = 0 by simp; omega, show l.length - k = (l.length - (k + 1)) + 1 by omega, List.replicate_succ, List.set_cons_zero, List.take_succ_eq_append_getElem h, List.append_assoc, List.getD_eq_getElem?_getD, List.getElem?_eq_getElem h]
  rfl
theorem ints_zeros (n : Nat) : ints (List.replicate n 0) = List.replicate n (.int .i64 0) := by simp [ints]

set_option maxHeartbeats 2000000 in
theorem toIntS (a : Option Addr) (n cap : Nat) (l : List Int) (w : World) (h : InNs w a n cap l) (hn : n ≤ 1048576) :
    Calls Tryd.prog 11 #[.slice a n cap] w fun e w' => ∃ g, w.heap.size ≤ g ∧ e = .returned (.slice (some ⟨g, 0, none⟩) n n) ∧ Ins w' w.heap.size (some ⟨g, 0, none⟩) n n l ∧ Below w.heap.size w w' := by
  obtain ⟨i0, hi, hz0, hz1, hz2⟩ := info_parts Tryd.infoI
  obtain ⟨hl, ⟨hc, hm⟩, hcase, -⟩ := h
  have hX : ∃ ad : Addr, 0 < n → a = some ad ∧ ∀ i, i < n → w.cell? (ad.add i) = some (.int .i64 (l.getD i 0)) := by
    rcases hcase with ⟨rfl, h0, -⟩ | ⟨x, rfl, hx⟩
    · exact ⟨⟨0, 0, none⟩, fun h => absurd h (by omega)⟩
    · exact ⟨x, fun _ => ⟨rfl, hx⟩⟩
  clear hcase
  unfold maxLen at hm
  subst hl
  go_enter Tryd.func11, Tryd.ntmps11
  go_wp2_with (at_make; refine wpList_make_full _ rfl _ _ 22 rfl w.heap.size 3 i0 (.int .i64 0) 1 Tryd.underlying22 hi hz0 hz1 .i64 .i64 _ _ l.length rfl rfl rfl rfl (by rw [hz2]; omega) (by unfold maxLen; omega) (Nat.le_refl _) ?_; intro w0 hown0 hgrow0)
  have hown1 : w0.ownsRow w.heap.size 3 1 (.slice (some ⟨w.heap.size, 0, none⟩) l.length l.length) l.length (ints (intsTo l 0)) := by
    rw [intsTo_zero, ints_zeros]
    have hz : (madeCells (Value.int .i64 0).cells l.length).toList = List.replicate l.length (.int .i64 0) := Go.toList_madeCells_one _ _
    rw [Nat.mul_one, hz] at hown0
    exact hown0
  have hb0 : Below w.heap.size w w0 := (Below.refl _ _).grown hgrow0 (Nat.le_refl _) (fun k hk => by cases hk)
  clear hgrow0 hown0
  obtain ⟨ad, hX⟩ := hX
  have HX := Lib.hid hX
  clear hX
  generalize hN : l.length = N at *
  have HN := Lib.hid hN
  clear hN
  go_loopw [4] (fun t wr => ∃ k : Nat, k ≤ N ∧ t = .int .i64 k ∧ wr.ownsRow w.heap.size 3 1 (.slice (some ⟨w.heap.size, 0, none⟩) N N) N (ints (intsTo l k)) ∧ Below w.heap.size w wr)
    (fun t _ => N - (intOf t).toNat)
  case atStart => exact ⟨0, Nat.zero_le _, rfl, hown1, hb0⟩
  case round =>
    clear hown1 hb0
    obtain ⟨k, hk, rfl, hown, hbw⟩ := hrel
    have HO := Lib.hid hown
    have HB := Lib.hid hbw
    have hlN := HN.out
    by_cases hlt : k < N
    · obtain ⟨rfl, hcell⟩ := HX.out (by omega)
      have q0 := hcell k hlt
      have r0 : wr.cell? (ad.add k) = some (.int .i64 (l.getD k 0)) := (hbw.cell (cell_block_lt q0)).trans q0
      have hne : (ad.add k).block < w.heap.size := cell_block_lt q0
      have hil := intsTo_length l k (by omega)
      have c0 : wr.cell? ⟨w.heap.size, k, none⟩ = some (.int .i64 ((intsTo l k).getD k 0)) := (World.ownsRow.cellAt hown k (by omega)).trans (ints_at _ _ (by omega))
      have f0 := World.ownsRow.frozenAt hown k
      have hs1 := World.ownsRow.stored hown k (.int .i64 (l.getD k 0))
      have ho2 : (wr.setCell ⟨w.heap.size, k, none⟩ (.int .i64 (l.getD k 0))).ownsRow w.heap.size 3 1 (.slice (some ⟨w.heap.size, 0, none⟩) N N) N (ints (intsTo l (k + 1))) := by
        have := hs1.1
        rw [ints_set, intsTo_set l k (by omega)] at this
        exact this
      have HO2 := Lib.hid ho2
      have HB2 := Lib.hid (hbw.grown hs1.2 hbw.size (fun j hj => by cases hj; exact Nat.le_refl _))
      generalize (intsTo l k).getD k 0 = z at *
      generalize l.getD k 0 = q at *
      clear q0 hcell HX hown hbw hs1 ho2 hil hlN
      go_wp2_with fail
      go_roundw
      case rel => exact ⟨k + 1, by omega, by go_num, HO2.out, HB2.out⟩
      case measure => simp [intOf]; omega
    · obtain rfl : k = N := by omega
      have ho2 : wr.ownsRow w.heap.size 3 1 (.slice (some ⟨w.heap.size, 0, none⟩) k k) k (ints l) := by
        have := hown
        rw [show intsTo l k = l by rw [← hlN]; exact intsTo_end l] at this
        exact this
      have HO2 := Lib.hid ho2
      clear hown hbw ho2 HX
      go_wp2_with fail
      go_ret
      refine ⟨w.heap.size, Nat.le_refl _, by rw [hlN]; rfl, ⟨?_, rfl⟩, HB.out⟩
      have := HO2.out
      rw [← hlN] at this
      exact this

theorem pr_al (w : World) (o : Obj) : Below w.heap.size w (w.alloc o) := (Below.refl w.heap.size w).alloc (Nat.le_refl _) o
theorem Ins.base {w : World} {B B' m cap : Nat} {a : Option Addr} {l : List Int} (h : Ins w B a m cap l) (hb : B' ≤ B) : Ins w B' a m cap l := ⟨h.1.base hb, h.2⟩
theorem Ins.alloc {w : World} {B m cap : Nat} {a : Option Addr} {l : List Int} (h : Ins w B a m cap l) (o : Obj) : Ins (w.alloc o) B a m cap l := ⟨h.1.alloc o, h.2⟩

/-- The cells of a proof's box. -/
def PBox (W : World) (H : Nat) (a : Option Addr) (n c : Nat) (b : Option Addr) (m c2 : Nat) : Prop :=
  W.cell? ⟨H, 0, none⟩ = some (.slice a n c) ∧ W.cell? ⟨H, 1, none⟩ = some (.slice b m c2)
theorem PBox.below {w w' : World} {H n c m c2 : Nat} {a b : Option Addr} (x : PBox w H a n c b m c2) (hb : Below w.heap.size w w') : PBox w' H a n c b m c2 :=
  ⟨cell_kept x.1 hb, cell_kept x.2 hb⟩
theorem PBox.grown {w w' : World} {H n c m c2 : Nat} {a b : Option Addr} {row : Option Nat} (x : PBox w H a n c b m c2) (hg : w.grownBy w' row) (hne : some H ≠ row) : PBox w' H a n c b m c2 :=
  ⟨hg.cell x.1 hne, hg.cell x.2 hne⟩
theorem pbox_alloc (w : World) (a b : Option Addr) (n c m c2 : Nat) (t : TypeId) : PBox (w.alloc (.cells #[.slice a n c, .slice b m c2] t)) w.heap.size a n c b m c2 := by
  refine ⟨?_, ?_⟩ <;> go_simp
theorem grownP_setCell (W : World) (b o : Nat) (v : Value) : W.grownBy (W.setCell ⟨b, o, none⟩ v) (some b) :=
  ⟨rfl, rfl, rfl, by simp [World.setCell], fun k _ hk => Below.heap_setCell _ _ _ k (fun e => hk (by rw [e]))⟩
theorem Ins.setCell {w : World} {B m c b : Nat} {a : Option Addr} {l : List Int} (h : Ins w B a m c l) (hb : b < B) (o : Nat) (v : Value) : Ins (w.setCell ⟨b, o, none⟩ v) B a m c l := by
  refine ⟨World.ownsRow.kept h.1 (grownP_setCell w b o v) ?_, h.2⟩
  cases hv : (Value.slice a m c).ownBlock with
  | none => exact .inl rfl
  | some k => exact .inr (by have := (World.ownsRow.lt h.1 k hv).1; simp; omega)
theorem ins_other {w : World} {B1 m1 m2 c1 c2 : Nat} {a1 a2 : Option Addr} {l1 : List Int} (h : Ins w B1 a1 m1 c1 l1) (h2 : ∀ k, (Value.slice a2 m2 c2).ownBlock = some k → w.heap.size ≤ k) : ∀ k, (Value.slice a1 m1 c1).ownBlock = some k → some k ≠ (Value.slice a2 m2 c2).ownBlock := fun k hk he => by
  have h3 := (World.ownsRow.lt h.1 k hk).2
  have h4 := h2 k he.symm
  omega

set_option maxHeartbeats 1000000 in
theorem toProof (a b : Option Addr) (n cap m cap2 : Nat) (ps fs : List Int) (w : World) (ha : InNs w a n cap ps) (hb : InNs w b m cap2 fs) (hn : n ≤ 1048576) (hm : m ≤ 1048576) :
    Calls Tryd.prog 6 #[.agg #[.slice a n cap, .slice b m cap2]] w fun e w' => ∃ g h, w.heap.size ≤ g ∧ g < h ∧ e = .returned (.agg #[.slice (some ⟨g, 0, none⟩) n n, .slice (some ⟨h, 0, none⟩) m m]) ∧ Ins w' w.heap.size (some ⟨g, 0, none⟩) n n ps ∧ Ins w' w.heap.size (some ⟨h, 0, none⟩) m m fs ∧ Below w.heap.size w w' := by
  have HA := Lib.hid ha
  have HF := Lib.hid hb
  clear ha hb
  have HB0 := Lib.hid ((Below.refl w.heap.size w).alloc (Nat.le_refl _) (.cells #[.slice a n cap, .slice b m cap2] 24))
  have HB3 := Lib.hid ((HB0.out.alloc (by simp) (.cells #[.slice none 0 0, .slice none 0 0] 27)).alloc (by simp <;> omega) (.cells #[.slice none 0 0, .slice none 0 0] 27))
  go_enter Tryd.func6, Tryd.ntmps6
  go_wp2_with fail
  refine (toIntS _ _ _ ps _ (HA.out.below HB3.out) hn).mono ?_
  rintro e w1 ⟨g, hg, rfl, rg, hb1⟩
  have hs3 : w.heap.size + 3 ≤ w1.heap.size := by have := hb1.size; simp at this; omega
  have hg3 : w.heap.size + 3 ≤ g := by simp at hg; omega
  have p0 : w1.cell? ⟨w.heap.size, 1, none⟩ = some (.slice b m cap2) := cell_kept (by go_simp) hb1
  have q0 : w1.cell? ⟨w.heap.size + 1, 0, none⟩ = some (.slice none 0 0) := cell_kept (by go_simp) hb1
  have q1 : w1.cell? ⟨w.heap.size + 1, 1, none⟩ = some (.slice none 0 0) := cell_kept (by go_simp) hb1
  have qf0 : w1.frozen? ⟨w.heap.size + 1, 0, none⟩ = false := (hb1.frozen (p := ⟨w.heap.size + 1, 0, none⟩) (by simp)).trans (by go_simp)
  have qf1 : w1.frozen? ⟨w.heap.size + 1, 1, none⟩ = false := (hb1.frozen (p := ⟨w.heap.size + 1, 1, none⟩) (by simp)).trans (by go_simp)
  have r0 : w1.cell? ⟨w.heap.size + 1 + 1, 0, none⟩ = some (.slice none 0 0) := cell_kept (by go_simp) hb1
  have r1 : w1.cell? ⟨w.heap.size + 1 + 1, 1, none⟩ = some (.slice none 0 0) := cell_kept (by go_simp) hb1
  have rf0 : w1.frozen? ⟨w.heap.size + 1 + 1, 0, none⟩ = false := (hb1.frozen (p := ⟨w.heap.size + 1 + 1, 0, none⟩) (by simp)).trans (by go_simp)
  have rf1 : w1.frozen? ⟨w.heap.size + 1 + 1, 1, none⟩ = false := (hb1.frozen (p := ⟨w.heap.size + 1 + 1, 1, none⟩) (by simp)).trans (by go_simp)
  have HB1 := Lib.hid (HB3.out.trans (hb1.mono HB3.out.size))
  have HG := Lib.hid (rg.base (B' := w.heap.size + 3) (by simp))
  have HBS := Lib.hid (HB1.out.setCell (p := ⟨w.heap.size + 1 + 1, 0, none⟩) (by simp <;> omega) (.slice (some ⟨g, 0, none⟩) n n))
  clear hb1 rg hg
  go_wp2_with fail
  refine (toIntS _ _ _ fs _ (HF.out.below HBS.out) hm).mono ?_
  rintro e w2 ⟨h, hh, rfl, rh, hb2⟩
  have hgl : g < h := by have := (World.ownsRow.lt HG.out.1 g rfl).2; simp at hh; omega
  have HG2 := Lib.hid ((HG.out.setCell (b := w.heap.size + 1 + 1) (by omega) 0 (.slice (some ⟨g, 0, none⟩) n n)).below hb2)
  have HH2 := Lib.hid (rh.base (B' := w.heap.size + 3) (by simp; omega))
  have HB2 := Lib.hid (HBS.out.trans (hb2.mono HBS.out.size))
  have k0 : w2.cell? ⟨w.heap.size + 1, 0, none⟩ = some (.slice none 0 0) := cell_kept (by go_simp) hb2
  have k1 : w2.cell? ⟨w.heap.size + 1, 1, none⟩ = some (.slice none 0 0) := cell_kept (by go_simp) hb2
  have kf0 : w2.frozen? ⟨w.heap.size + 1, 0, none⟩ = false := (hb2.frozen (p := ⟨w.heap.size + 1, 0, none⟩) (by simp; omega)).trans (by go_simp)
  have kf1 : w2.frozen? ⟨w.heap.size + 1, 1, none⟩ = false := (hb2.frozen (p := ⟨w.heap.size + 1, 1, none⟩) (by simp; omega)).trans (by go_simp)
  have l0 : w2.cell? ⟨w.heap.size + 1 + 1, 0, none⟩ = some (.slice (some ⟨g, 0, none⟩) n n) := cell_kept (by go_simp) hb2
  have l1 : w2.cell? ⟨w.heap.size + 1 + 1, 1, none⟩ = some (.slice none 0 0) := cell_kept (by go_simp) hb2
  have lf0 : w2.frozen? ⟨w.heap.size + 1 + 1, 0, none⟩ = false := (hb2.frozen (p := ⟨w.heap.size + 1 + 1, 0, none⟩) (by simp; omega)).trans (by go_simp)
  have lf1 : w2.frozen? ⟨w.heap.size + 1 + 1, 1, none⟩ = false := (hb2.frozen (p := ⟨w.heap.size + 1 + 1, 1, none⟩) (by simp; omega)).trans (by go_simp)
  clear hb2 rh hh p0 q0 q1 qf0 qf1 r0 r1 rf0 rf1 HG HB1 HBS HB3 HB0 HA HF
  go_wp2_with fail
  refine bodyPost_ret (v := .agg #[.slice (some ⟨g, 0, none⟩) n n, .slice (some ⟨h, 0, none⟩) m m]) (by simp [results, Tryd.results6, go_sem, k0, k1]) rfl ⟨g, h, by omega, hgl, rfl, ?_, ?_, ?_⟩
  · exact (((HG2.out.setCell (by omega) _ _).setCell (by omega) _ _).setCell (by omega) _ _).base (by omega)
  · exact (((HH2.out.setCell (by omega) _ _).setCell (by omega) _ _).setCell (by omega) _ _).base (by omega)
  · exact ((HB2.out.setCell (p := ⟨w.heap.size + 1 + 1, 1, none⟩) (by simp <;> omega) _).setCell (p := ⟨w.heap.size + 1, 0, none⟩) (by simp) _).setCell (p := ⟨w.heap.size + 1, 1, none⟩) (by simp) _

/-- Two proofs of the same are told equal. -/
theorem eqProof_same (w : World) (B1 B2 B3 B4 n m c1 c2 c3 c4 : Nat) (a1 a2 b1 b2 : Option Addr) (ps fs : List Int) (h1 : Ins w B1 a1 n c1 ps) (h2 : Ins w B2 b1 m c2 fs) (h3 : Ins w B3 a2 n c3 ps) (h4 : Ins w B4 b2 m c4 fs) :
    Calls Tryd.prog 8 #[.agg #[.slice a1 n c1, .slice b1 m c2], .agg #[.slice a2 n c3, .slice b2 m c4]] w fun e w' => e = .returned (.bool true) ∧ Below w.heap.size w w' := by
  have HB := Lib.hid (((Below.refl w.heap.size w).alloc (Nat.le_refl _) (.cells #[.slice a1 n c1, .slice b1 m c2] 27)).alloc (by simp <;> omega) (.cells #[.slice a2 n c3, .slice b2 m c4] 27))
  have H1 := Lib.hid (h1.below HB.out)
  have H2 := Lib.hid (h2.below HB.out)
  have H3 := Lib.hid (h3.below HB.out)
  have H4 := Lib.hid (h4.below HB.out)
  clear h1 h2 h3 h4
  go_enter Tryd.func8, Tryd.ntmps8
  go_wp2_with fail
  refine (eqIntS_same _ _ _ _ _ _ _ _ ps H1.out H3.out).mono ?_
  rintro e w1 ⟨rfl, hb1⟩
  have p0 : w1.cell? ⟨w.heap.size, 1, none⟩ = some (.slice b1 m c2) := cell_kept (by go_simp) hb1
  have p1 : w1.cell? ⟨w.heap.size + 1, 1, none⟩ = some (.slice b2 m c4) := cell_kept (by go_simp) hb1
  have K2 := Lib.hid (H2.out.below hb1)
  have K4 := Lib.hid (H4.out.below hb1)
  have HB1 := Lib.hid (HB.out.trans (hb1.mono HB.out.size))
  clear hb1
  go_wp2_with fail
  refine (eqIntS_same _ _ _ _ _ _ _ _ fs K2.out K4.out).mono ?_
  rintro e w2 ⟨rfl, hb2⟩
  have HB2 := Lib.hid (HB1.out.trans (hb2.mono HB1.out.size))
  clear hb2
  go_wp2_with fail
  go_ret
  exact ⟨rfl, HB2.out⟩

end Go.Proofs.YtidmhpeaehmmhabDoor
