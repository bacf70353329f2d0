/- Stones in the laws: a stone as it comes in, its size, its copy, the comparison of stones. -/
import Derived.Test.YtikdjcmdeapikaaStoneC
import Derived.Test.YtikdjcmdeapikaaPtS
namespace Go.Proofs.Ytikdjcmdeapikaa
open Go.ChangeShapes Go.WideShapes Go.ChangeAt Go.RowKit Go.Joins Go.Deep

theorem cellsStoneL : Try.prog.cellsOf 40 = 1 := by kernel_rfl

/-- Points that came in: whatever address; each two ints. -/
def InPts (w : World) (a : Option Addr) (n cap : Nat) (cs : List (Int × Int)) : Prop :=
  cs.length = n ∧ n ≤ cap ∧ cap ≤ maxLen ∧ (∀ p ∈ cs, I64 p.1 ∧ I64 p.2) ∧
  ((a = none ∧ n = 0 ∧ cap = 0) ∨ ∃ x, a = some x ∧ ∀ i, i < n → w.cell? (x.add (i * 2)) = some (.int .i64 (pt cs i).1) ∧ w.cell? (x.add (i * 2 + 1)) = some (.int .i64 (pt cs i).2))

theorem InPts.below {w w' : World} {a : Option Addr} {n cap : Nat} {cs : List (Int × Int)} (h : InPts w a n cap cs) (hb : Below w.heap.size w w') : InPts w' a n cap cs := by
  obtain ⟨h1, h2, h3, h4, h5⟩ := h
  refine ⟨h1, h2, h3, h4, h5.imp id ?_⟩
  rintro ⟨x, rfl, hx⟩
  exact ⟨x, rfl, fun i hi => ⟨(hb.cell (cell_block_lt (hx i hi).1)).trans (hx i hi).1, (hb.cell (cell_block_lt (hx i hi).2)).trans (hx i hi).2⟩⟩

theorem list_of {n : Nat} {q : Nat → Int × Int → Prop} (h : ∀ i, i < n → ∃ p, q i p) : ∃ cs : List (Int × Int), cs.length = n ∧ ∀ i, i < n → q i (pt cs i) := by
  induction n with
  | zero => exact ⟨[], rfl, fun i hi => absurd hi (Nat.not_lt_zero i)⟩
  | succ n ih =>
    obtain ⟨cs, hl, hq⟩ := ih fun i hi => h i (by omega)
    obtain ⟨p, hp⟩ := h n (by omega)
    refine ⟨cs ++ [p], by simp [hl], fun i hi => ?_⟩
    by_cases he : i < n
    · have := hq i he
      unfold pt at this ⊢
      rw [List.getD_eq_getElem?_getD, List.getElem?_append_left (by omega), ← List.getD_eq_getElem?_getD]
      exact this
    · obtain rfl : i = n := by omega
      unfold pt
      rw [List.getD_eq_getElem?_getD, List.getElem?_append_right (by omega), hl]
      simpa using hp

/-- A stone's one cell. -/
theorem stone_cell {H : Type} {enc : TypeId × Value → H} {w : World} {base fuel : Nat} {spare : Nat → Bool} {held : Bool} {c0 : Value} {d : DataW H × List MemPlace}
    (hf : DataW.trod enc Try.prog w base spare held fuel 40 [c0] = some d) :
    ∃ (a : Option Addr) (n cap : Nat) (cs : List (Int × Int)), c0 = .slice a n cap ∧ InPts w a n cap cs := by
  have hs := Try.underlying40
  obtain ⟨xs, n, _, hx, _, hlen, hg⟩ := DataW.trod_struct hs hf
  have k0 : Try.prog.cellsOf 38 = 1 := by kernel_rfl
  have hg0 : DataW.trod enc Try.prog w base spare held n 38 (List.take (Try.prog.cellsOf 38) (List.drop 0 [c0])) = xs[0]? := hg 0 _ rfl
  have hg1 : DataW.trod enc Try.prog w base spare held n 38 [c0] = xs[0]? := by rw [k0] at hg0; simpa using hg0
  have hx0 : xs[0]? = some (xs[0]'(by rw [hlen]; decide)) := List.getElem?_eq_getElem _
  rw [hx0] at hg1
  rcases open_slice_pairs Try.underlying38 Try.underlying74 (by kernel_rfl) rfl rfl (by kernel_rfl) (by kernel_rfl) hg1 with ⟨hc, _⟩ | ⟨a, len, cap, m, fu, V0, V1, D0, D1, P0, P1, hc, _, hl, hm, hmm, _, hcell⟩
  · simp at hc
    subst hc
    exact ⟨none, 0, 0, [], rfl, rfl, Nat.le_refl _, Nat.zero_le _, fun p hp => by simp at hp, .inl ⟨rfl, rfl, rfl⟩⟩
  · simp at hc
    subst hc
    have hlm : len ≤ m := by rw [hmm]; split <;> omega
    obtain ⟨cs, hcl, hq⟩ := list_of (n := len) (q := fun i p => w.cell? (a.add (i * 2)) = some (.int .i64 p.1) ∧ w.cell? (a.add (i * 2 + 1)) = some (.int .i64 p.2) ∧ I64 p.1 ∧ I64 p.2) (fun i hi => by
      obtain ⟨h0, h1, t0, t1⟩ := hcell i (by omega)
      obtain ⟨x, e0, -, wx⟩ := DataW.trod_int Try.underlying3 t0
      obtain ⟨y, e1, -, wy⟩ := DataW.trod_int Try.underlying3 t1
      simp at e0 e1
      exact ⟨(x, y), by rw [h0, e0], by rw [h1, e1], I64.of_wf wx, I64.of_wf wy⟩)
    refine ⟨some a, len, cap, cs, rfl, hcl, hl, hm, fun p hp => ?_, .inr ⟨a, rfl, fun i hi => ⟨(hq i hi).1, (hq i hi).2.1⟩⟩⟩
    obtain ⟨i, hi, rfl⟩ := List.getElem_of_mem hp
    have := (hq i (by omega)).2.2
    unfold pt at this
    rw [List.getD_eq_getElem?_getD, List.getElem?_eq_getElem hi] at this
    exact this

/-- A stone that came in. -/
theorem open_stone {H : Type} {enc : TypeId × Value → H} {w : World} {r : Reach} {b0 base : Nat} {spare : Nat → Bool} {held : Bool} {v : Value} {d : DataW H} {p : List MemPlace}
    (hv : Value.okWide Try.prog w r b0 40 v) (h : DataW.Trod enc Try.prog w base spare held 40 v d p) :
    ∃ (a : Option Addr) (n cap : Nat) (cs : List (Int × Int)), v = .agg #[.slice a n cap] ∧ InPts w a n cap cs := by
  have hs := Try.underlying40
  obtain ⟨cs, rfl, hsz⟩ := okWide_struct hs hv
  obtain ⟨l⟩ := cs
  match l, hsz.trans cellsStoneL with
  | [c0], _ =>
    obtain ⟨fuel, hf⟩ := h
    obtain ⟨a, n, cap, cs, rfl, hi⟩ := stone_cell (c0 := c0) (by simpa [Value.cells] using hf)
    exact ⟨a, n, cap, cs, rfl, hi⟩

/-- What szStone answers. -/
def szV (n : Nat) : Int := if n ≤ 1048576 then 1048576 - n else -1

theorem szPointS (a : Option Addr) (n cap : Nat) (w : World) (hn : n ≤ maxLen) :
    Calls Try.prog 44 #[.slice a n cap, .int .i64 1048576] w fun e w' => e = .returned (.int .i64 (szV n)) ∧ w = w' := by
  unfold maxLen at hn
  by_cases h : n ≤ 1048576
  · go_enter Try.func44, Try.ntmps44
    go_wp2
    go_ret
    exact ⟨ret_i64 (by unfold szV; rw [if_pos h]), rfl⟩
  · go_enter Try.func44, Try.ntmps44
    go_wp2
    go_ret
    exact ⟨ret_i64 (by unfold szV; rw [if_neg h]), rfl⟩

theorem szStone (a : Option Addr) (n cap : Nat) (w : World) (hn : n ≤ maxLen) :
    Calls Try.prog 21 #[.agg #[.slice a n cap], .int .i64 1048576] w fun e w' => e = .returned (.int .i64 (szV n)) ∧ Below w.heap.size w w' := by
  have hv : -1 ≤ szV n ∧ szV n ≤ 1048576 := by unfold szV; split <;> omega
  by_cases h : szV n < 0
  · have hV : szV n = -1 := by omega
    have HV := Lib.hid hV
    generalize hU : szV n = V at *
    have HU := Lib.hid hU
    clear hU hV
    go_enter Try.func21, Try.ntmps21
    go_wp2_with fail
    refine (szPointS _ _ _ _ hn).mono ?_
    rintro e w1 ⟨rfl, rfl⟩
    rw [HU.out]
    go_wp2_with fail
    go_ret
    exact ⟨ret_i64 HV.out.symm, by repeat (first | exact Below.refl _ _ | refine Below.alloc ?_ (by simp <;> omega) _)⟩
  · generalize hU : szV n = V at *
    have HU := Lib.hid hU
    clear hU
    go_enter Try.func21, Try.ntmps21
    go_wp2_with fail
    refine (szPointS _ _ _ _ hn).mono ?_
    rintro e w1 ⟨rfl, rfl⟩
    rw [HU.out]
    go_wp2_with fail
    go_ret
    exact ⟨rfl, by repeat (first | exact Below.refl _ _ | refine Below.alloc ?_ (by simp <;> omega) _)⟩

theorem ad1 (a : Addr) : (⟨a.block, a.off + 1, none⟩ : Addr) = a.add 1 := rfl
theorem adb (a : Addr) (i : Nat) : (a.add i).block = a.block := by unfold Addr.add; split <;> rfl

/-- Points as far as they have been copied. -/
def flatTo (cs : List (Int × Int)) (k : Nat) : List Value := flat (cs.take k) ++ List.replicate ((cs.length - k) * 2) (.int .i64 0)
theorem flatTo_zero (cs : List (Int × Int)) : flatTo cs 0 = List.replicate (cs.length * 2) (.int .i64 0) := by simp [flatTo, flat_nil]
theorem flatTo_end (cs : List (Int × Int)) : flatTo cs cs.length = flat cs := by simp [flatTo]
theorem flatTo_next (cs : List (Int × Int)) (k : Nat) (h : k < cs.length) : ((flatTo cs k).set (k * 2) (.int .i64 (pt cs k).1)).set (k * 2 + 1) (.int .i64 (pt cs k).2) = flatTo cs (k + 1) := by
  have hl : (flat (cs.take k)).length = k * 2 := by rw [flat_length, List.length_take]; omega
  unfold flatTo
  rw [show (cs.length - k) * 2 = (cs.length - (k + 1)) * 2 + 1 + 1 by omega, List.replicate_succ, List.replicate_succ]
  rw [List.set_append_right _ _ (by omega), hl, Nat.sub_self, List.set_cons_zero, List.set_append_right _ _ (by omega), hl, show k * 2 + 1 - k * 2 = 1 by omega, List.set_cons_succ, List.set_cons_zero]
  rw [List.take_succ_eq_append_getElem h, flat_append, List.append_assoc]
  have : pt cs k = cs[k] := by unfold pt; rw [List.getD_eq_getElem?_getD, List.getElem?_eq_getElem h]; rfl
  rw [this]
  rfl

theorem flatTo_at (cs : List (Int × Int)) (k : Nat) (h : k < cs.length) : (flatTo cs k)[k * 2]? = some (.int .i64 0) ∧ (flatTo cs k)[k * 2 + 1]? = some (.int .i64 0) := by
  have hl : (flat (cs.take k)).length = k * 2 := by rw [flat_length, List.length_take]; omega
  unfold flatTo
  rw [List.getElem?_append_right (by omega), List.getElem?_append_right (by omega), hl, List.getElem?_replicate, List.getElem?_replicate, if_pos (by omega), if_pos (by omega)]
  exact ⟨rfl, rfl⟩

theorem made_zero (n : Nat) : (madeCells (Value.agg #[.int .i64 0, .int .i64 0]).cells n).toList = List.replicate n (Value.int .i64 0) := by
  unfold madeCells
  rw [Array.toList_map]
  refine List.ext_getElem (by simp) fun i h1 h2 => ?_
  rw [List.getElem_map, List.getElem_replicate]
  have : i % 2 = 0 ∨ i % 2 = 1 := by omega
  simp [Value.cells]
  rcases this with h | h <;> simp [h]

theorem Try.infoPt : (Try.prog.info? 31).map (fun i => (i.zero, i.size, i.bytes)) = some (some (.agg #[.int .i64 0, .int .i64 0]), 2, 16) := by kernel_rfl

set_option maxHeartbeats 400000 in
theorem toPointS (a : Option Addr) (n cap : Nat) (cs : List (Int × Int)) (w : World) (h : InPts w a n cap cs) (hn : n ≤ 1048576) :
    Calls Try.prog 46 #[.slice a n cap] w fun e w' => e = .returned (.slice (some ⟨w.heap.size, 0, none⟩) n n) ∧ RowAt w' w.heap.size w.heap.size n cs ∧ Below w.heap.size w w' := by
  obtain ⟨i0, hi, hz0, hz1, hz2⟩ := info_parts Try.infoPt
  obtain ⟨hl, hc, hm, -, hcase⟩ := h
  have hX : ∃ ad : Addr, 0 < n → a = some ad ∧ ∀ i, i < n → w.cell? (ad.add (i * 2)) = some (.int .i64 (pt cs i).1) ∧ w.cell? (ad.add (i * 2 + 1)) = some (.int .i64 (pt cs i).2) := by
    rcases hcase with ⟨rfl, h0, -⟩ | ⟨x, rfl, hx⟩
    · exact ⟨⟨0, 0, none⟩, fun h => absurd h (by omega)⟩
    · exact ⟨x, fun _ => ⟨rfl, hx⟩⟩
  clear hcase
  unfold maxLen at hm
  subst hl
  go_enter Try.func46, Try.ntmps46
  go_wp2_with (at_make; refine wpList_make_full _ rfl _ _ 24 rfl w.heap.size 31 i0 (.agg #[.int .i64 0, .int .i64 0]) 2 Try.underlying24 hi hz0 hz1 .i64 .i64 _ _ cs.length rfl rfl rfl rfl (by rw [hz2]; omega) (by unfold maxLen; omega) (Nat.le_refl _) ?_; intro w0 hown0 hgrow0)
  rw [made_zero, ← flatTo_zero] at hown0
  have hb0 : Below w.heap.size w w0 := (Below.refl _ _).grown hgrow0 (Nat.le_refl _) (fun k hk => by cases hk)
  clear hgrow0
  obtain ⟨ad, hX⟩ := hX
  have HX := Lib.hid hX
  clear hX
  generalize hN : cs.length = N at *
  have HN := Lib.hid hN
  clear hN
  go_loopw [4] (fun t wr => ∃ k : Nat, k ≤ N ∧ t = .int .i64 k ∧ wr.ownsRow w.heap.size 31 2 (.slice (some ⟨w.heap.size, 0, none⟩) N N) N (flatTo cs k) ∧ Below w.heap.size w wr)
    (fun t _ => N - (intOf t).toNat)
  case atStart => exact ⟨0, Nat.zero_le _, rfl, hown0, hb0⟩
  case round =>
    obtain ⟨k, hk, rfl, hown, hbw⟩ := hrel
    have HO := Lib.hid hown
    have HB := Lib.hid hbw
    by_cases hlt : k < N
    · obtain ⟨rfl, hcell⟩ := HX.out (by omega)
      obtain ⟨q0, q1⟩ := hcell k hlt
      have hadlt := cell_block_lt q0
      rw [adb] at hadlt
      have r0 : wr.cell? (ad.add (k * 2)) = some (.int .i64 (pt cs k).1) := by rw [hbw.cell (by rw [adb]; exact hadlt)]; exact q0
      have r1 : wr.cell? ⟨(ad.add (k * 2)).block, (ad.add (k * 2)).off + 1, none⟩ = some (.int .i64 (pt cs k).2) := by rw [ad1, Go.Deep.add_add, hbw.cell (by rw [adb]; exact hadlt)]; exact q1
      clear q0 q1 hcell HX hown hbw
      have HP := Lib.hid hlt
      obtain ⟨px, hpx⟩ : ∃ px, px = (pt cs k).1 := ⟨_, rfl⟩
      obtain ⟨py, hpy⟩ : ∃ py, py = (pt cs k).2 := ⟨_, rfl⟩
      rw [← hpx] at r0
      rw [← hpy] at r1
      have HPX := Lib.hid hpx
      have HPY := Lib.hid hpy
      clear hpx hpy
      go_wp2_with fail
      refine (toPoint _ _ _).mono ?_
      rintro e w1 ⟨rfl, hb1⟩
      have ho1 := owns_below HO.out hb1
      have hlN := HN.out
      have hz := flatTo_at cs k (by omega)
      have c0 : w1.cell? ⟨w.heap.size, k * 2, none⟩ = some (.int .i64 0) := (World.ownsRow.cellAt ho1 (k * 2) (by omega)).trans hz.1
      have c1 : w1.cell? ⟨w.heap.size, k * 2 + 1, none⟩ = some (.int .i64 0) := (World.ownsRow.cellAt ho1 (k * 2 + 1) (by omega)).trans hz.2
      have hfr := fun j => World.ownsRow.frozenAt ho1 j
      have f0 := hfr (k * 2)
      have f1 := hfr (k * 2 + 1)
      have ho2 := (World.ownsRow.stored (World.ownsRow.stored ho1 (k * 2) (.int .i64 px)).1 (k * 2 + 1) (.int .i64 py)).1
      rw [HPX.out, HPY.out, flatTo_next cs k (by omega), ← HPX.out, ← HPY.out] at ho2
      have hbb : Below w.heap.size w ((w1.setCell ⟨w.heap.size, k * 2, none⟩ (.int .i64 px)).setCell ⟨w.heap.size, k * 2 + 1, none⟩ (.int .i64 py)) :=
        ((HB.out.trans (hb1.mono HB.out.size)).setCell (p := ⟨w.heap.size, k * 2, none⟩) (Nat.le_refl _) _).setCell (p := ⟨w.heap.size, k * 2 + 1, none⟩) (Nat.le_refl _) _
      have HO2 := Lib.hid ho2
      have HBB := Lib.hid hbb
      clear hz hfr ho1 ho2 hbb hlN HO HB hb1
      go_wp2_with fail
      go_roundw
      case rel => exact ⟨k + 1, by omega, by go_num, HO2.out, HBB.out⟩
      case measure => simp [intOf]; omega
    · obtain rfl : k = N := by omega
      clear hown hbw
      go_wp2_with fail
      go_ret
      have hlN := HN.out
      refine ⟨by rw [hlN]; rfl, ?_, HB.out⟩
      have := HO.out
      rw [← hlN, flatTo_end] at this
      exact this

set_option maxHeartbeats 400000 in
theorem toStone (a : Option Addr) (n cap : Nat) (cs : List (Int × Int)) (w : World) (h : InPts w a n cap cs) (hn : n ≤ 1048576) :
    Calls Try.prog 23 #[.agg #[.slice a n cap]] w fun e w' => ∃ g, w.heap.size ≤ g ∧ e = .returned (.agg #[.slice (some ⟨g, 0, none⟩) n n]) ∧ RowAt w' w.heap.size g n cs ∧ Below w.heap.size w w' := by
  have hl := h.1
  have hb0 := ((Below.refl w.heap.size w).alloc (by simp <;> omega) (.cells #[.slice a n cap] 40) |>.alloc (by simp <;> omega) (.cells #[.slice none 0 0] 26) |>.alloc (by simp <;> omega) (.cells #[.slice none 0 0] 26))
  have HI := Lib.hid (h.below hb0)
  have HB0 := Lib.hid hb0
  have HL := Lib.hid hl
  clear h hb0 hl
  go_enter Try.func23, Try.ntmps23
  go_wp2_with fail
  refine (toPointS _ _ _ cs _ HI.out hn).mono ?_
  rintro e w1 ⟨rfl, ho, hb1⟩
  have hz := ho.lt
  obtain ⟨hc1, hf1⟩ := bcell hb1
  simp only [World.size_alloc] at hb1 ho hz
  have HO := Lib.hid ho
  clear ho
  go_wp2_with fail
  refine bodyPost_ret (v := .agg #[.slice (some ⟨w.heap.size + 1 + 1 + 1, 0, none⟩) n n]) (by simp [results, Try.results23, go_sem, hc1]) rfl ⟨_, ?_, rfl, ?_, ?_⟩
  · omega
  · have hl := HL.out
    subst hl
    exact (((HO.out.base (by omega)).setCell _ _ (by omega) _).setCell _ _ (by omega) _)
  · refine Below.setCell (Below.setCell ?_ (by simp <;> omega) _) (by simp <;> omega) _
    exact HB0.out.trans (hb1.mono (by omega))

set_option maxHeartbeats 400000 in
/-- Two rows of the same points are told equal. -/
theorem eqPointS_rows (w : World) (B1 g1 cap1 B2 g2 cap2 n : Nat) (cs : List (Int × Int)) (hn : cs.length = n) (h1 : RowAt w B1 g1 cap1 cs) (h2 : RowAt w B2 g2 cap2 cs) :
    Calls Try.prog 47 #[.slice (some ⟨g1, 0, none⟩) n cap1, .slice (some ⟨g2, 0, none⟩) n cap2] w fun e w' => e = .returned (.bool true) ∧ Below w.heap.size w w' := by
  obtain ⟨-, hg1, hc1, hm1⟩ := h1.lt
  obtain ⟨-, hg2, hc2, hm2⟩ := h2.lt
  unfold maxLen at hm1
  have H1 := Lib.hid h1
  have H2 := Lib.hid h2
  have HN := Lib.hid hn
  rw [hn] at hc1 hc2
  clear h1 h2 hn
  go_enter Try.func47, Try.ntmps47
  go_wp2_with fail
  go_loopw [5] (fun t wr => ∃ k : Nat, k ≤ n ∧ t = .int .i64 k ∧ Below w.heap.size w wr)
    (fun t _ => n - (intOf t).toNat)
  case atStart => exact ⟨0, Nat.zero_le _, rfl, Below.refl _ _⟩
  case round =>
    obtain ⟨k, hk, rfl, hbw⟩ := hrel
    have HB := Lib.hid hbw
    by_cases hlt : k < n
    · have hlN := HN.out
      obtain ⟨a0, a1⟩ := (H1.out.below hbw).cells k (by omega)
      obtain ⟨b0, b1⟩ := (H2.out.below hbw).cells k (by omega)
      generalize (pt cs k).1 = px at *
      generalize (pt cs k).2 = py at *
      clear hbw hlN
      go_wp2_with fail
      have hn1 := Since.nonempty wr
      have hz := HB.out.size
      have sa0 := fun (x : Since wr) => (x.cell g1 (k * 2) (by omega)).trans a0
      have sa1 := fun (x : Since wr) => (x.cell g1 (k * 2 + 1) (by omega)).trans a1
      have sb0 := fun (x : Since wr) => (x.cell g2 (k * 2) (by omega)).trans b0
      have sb1 := fun (x : Since wr) => (x.cell g2 (k * 2 + 1) (by omega)).trans b1
      refine wp_region_since (by kernel_rfl) (by kernel_rfl) ?_
      repeat (go_big_quiet_step (first
        | (go_at_call 60; exact Since.call (eqPoint_same _ _ _))))
      refine wpQuiet_nil ?_
      rintro w2 ⟨⟨_, hb2⟩, rfl⟩
      have HB2 := Lib.hid (HB.out.trans (hb2.mono hz))
      clear sa0 sa1 sb0 sb1 hb2 a0 a1 b0 b1
      go_wp2_with fail
      go_roundw
      case rel => exact ⟨k + 1, by omega, by go_num, HB2.out⟩
      case measure => simp [intOf]; omega
    · obtain rfl : k = n := by omega
      clear hbw
      go_wp2_with fail
      go_ret
      exact ⟨rfl, HB.out⟩

/-- No points are told equal to no points. -/
theorem eqPointS_none (w : World) (a1 a2 : Option Addr) (cap1 cap2 : Nat) :
    Calls Try.prog 47 #[.slice a1 0 cap1, .slice a2 0 cap2] w fun e w' => e = .returned (.bool true) ∧ Below w.heap.size w w' := by
  go_enter Try.func47, Try.ntmps47
  go_wp2_with fail
  refine wp_loop_rounds 1 ?_
  rw [rounds_succ]
  go_wp2
  go_ret
  exact ⟨rfl, Below.refl _ _⟩

theorem eqPointS_same (w : World) (B1 B2 : Nat) (v1 v2 : Value) (cs : List (Int × Int)) (h1 : Row w B1 v1 cs) (h2 : Row w B2 v2 cs) :
    Calls Try.prog 47 #[v1, v2] w fun e w' => e = .returned (.bool true) ∧ Below w.heap.size w w' := by
  rcases h1.cases with ⟨rfl, rfl⟩ | ⟨g1, cap1, rfl, r1, -⟩
  · rcases h2.cases with ⟨rfl, -⟩ | ⟨g2, cap2, rfl, r2, -⟩
    · exact eqPointS_none _ _ _ _ _
    · exact eqPointS_none _ _ _ _ _
  · rcases h2.cases with ⟨rfl, rfl⟩ | ⟨g2, cap2, rfl, r2, -⟩
    · exact eqPointS_none _ _ _ _ _
    · exact eqPointS_rows _ _ _ _ _ _ _ _ cs rfl r1 r2

theorem eqStone_same (w : World) (B1 B2 : Nat) (v1 v2 : Value) (cs : List (Int × Int)) (h1 : Row w B1 v1 cs) (h2 : Row w B2 v2 cs) :
    Calls Try.prog 24 #[.agg #[v1], .agg #[v2]] w fun e w' => e = .returned (.bool true) ∧ Below w.heap.size w w' := by
  have hv1 : ∃ a1 n1 c1, v1 = .slice a1 n1 c1 := by rcases h1.cases with ⟨rfl, -⟩ | ⟨g1, cap1, rfl, -⟩ <;> exact ⟨_, _, _, rfl⟩
  have hv2 : ∃ a2 n2 c2, v2 = .slice a2 n2 c2 := by rcases h2.cases with ⟨rfl, -⟩ | ⟨g2, cap2, rfl, -⟩ <;> exact ⟨_, _, _, rfl⟩
  obtain ⟨a1, n1, c1, rfl⟩ := hv1
  obtain ⟨a2, n2, c2, rfl⟩ := hv2
  have H1 := Lib.hid h1
  have H2 := Lib.hid h2
  clear h1 h2
  go_enter Try.func24, Try.ntmps24
  go_wp2_with fail
  have hb0 := ((Below.refl w.heap.size w).alloc (Nat.le_refl _) (.cells #[.slice a1 n1 c1] 26) |>.alloc (by simp) (.cells #[.slice a2 n2 c2] 26))
  refine (eqPointS_same _ _ _ _ _ cs (H1.out.below hb0) (H2.out.below hb0)).mono ?_
  rintro e w1 ⟨rfl, hb1⟩
  have hb2 := hb0.trans (hb1.mono (by simp <;> omega))
  go_wp2_with fail
  go_ret
  exact ⟨rfl, hb2⟩
end Go.Proofs.Ytikdjcmdeapikaa
