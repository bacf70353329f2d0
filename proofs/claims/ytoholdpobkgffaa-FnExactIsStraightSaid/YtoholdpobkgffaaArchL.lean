/- Arches in the laws: an arch as it comes in, its size, its copy, the comparison of arches. -/
import Derived.Test.YtoholdpobkgffaaArchC
import Derived.Test.YtoholdpobkgffaaJointC
import Derived.Test.YtoholdpobkgffaaStoneL
import Derived.Deep.Slices
namespace Go.Proofs.Ytoholdpobkgffaa
set_option maxRecDepth 100000
open Go.ChangeShapes Go.WideShapes Go.ChangeAt Go.RowKit Go.Joins Go.Deep

theorem cellsArch : Try.prog.cellsOf 24 = 1 := by kernel_rfl

/-- Joints that came in: whatever address; each four ints. -/
def InJts (w : World) (a : Option Addr) (n cap : Nat) (js : List Jt) : Prop :=
  js.length = n ∧ n ≤ cap ∧ cap ≤ maxLen ∧
  ((a = none ∧ n = 0 ∧ cap = 0) ∨ ∃ x, a = some x ∧ ∀ i, i < n → w.cell? (x.add (i * 4)) = some (.int .i64 (jt js i).1.1) ∧ w.cell? (x.add (i * 4 + 1)) = some (.int .i64 (jt js i).1.2) ∧ w.cell? (x.add (i * 4 + 2)) = some (.int .i64 (jt js i).2.1) ∧ w.cell? (x.add (i * 4 + 3)) = some (.int .i64 (jt js i).2.2))

theorem InJts.below {w w' : World} {a : Option Addr} {n cap : Nat} {js : List Jt} (h : InJts w a n cap js) (hb : Below w.heap.size w w') : InJts w' a n cap js := by
  obtain ⟨h1, h2, h3, h5⟩ := h
  refine ⟨h1, h2, h3, h5.imp id ?_⟩
  rintro ⟨x, rfl, hx⟩
  exact ⟨x, rfl, fun i hi => ⟨(hb.cell (cell_block_lt (hx i hi).1)).trans (hx i hi).1, (hb.cell (cell_block_lt (hx i hi).2.1)).trans (hx i hi).2.1, (hb.cell (cell_block_lt (hx i hi).2.2.1)).trans (hx i hi).2.2.1, (hb.cell (cell_block_lt (hx i hi).2.2.2)).trans (hx i hi).2.2.2⟩⟩

theorem jts_of {n : Nat} {q : Nat → Jt → Prop} (h : ∀ i, i < n → ∃ p, q i p) : ∃ js : List Jt, js.length = n ∧ ∀ i, i < n → q i (jt js i) := by
  induction n with
  | zero => exact ⟨[], rfl, fun i hi => absurd hi (Nat.not_lt_zero i)⟩
  | succ n ih =>
    obtain ⟨js, hl, hq⟩ := ih fun i hi => h i (by omega)
    obtain ⟨p, hp⟩ := h n (by omega)
    refine ⟨js ++ [p], by simp [hl], fun i hi => ?_⟩
    by_cases he : i < n
    · have := hq i he
      unfold jt at this ⊢
      rw [List.getD_eq_getElem?_getD, List.getElem?_append_left (by omega), ← List.getD_eq_getElem?_getD]
      exact this
    · obtain rfl : i = n := by omega
      unfold jt
      rw [List.getD_eq_getElem?_getD, List.getElem?_append_right (by omega), hl]
      simpa using hp

/-- Four cells that read as a joint are four ints. -/
theorem joint_cells {H : Type} {enc : TypeId × Value → H} {w : World} {base fuel : Nat} {spare : Nat → Bool} {held : Bool} {c0 c1 c2 c3 : Value} {d : DataW H × List MemPlace}
    (hf : DataW.trod enc Try.prog w base spare held fuel 58 [c0, c1, c2, c3] = some d) : ∃ x y z u : Int, c0 = .int .i64 x ∧ c1 = .int .i64 y ∧ c2 = .int .i64 z ∧ c3 = .int .i64 u := by
  obtain ⟨y0, y1, n, hx, -, h0, h1⟩ := trod_struct2 Try.underlying58 hf
  have cp : Try.prog.cellsOf 56 = 2 := by kernel_rfl
  simp only [cp, List.drop_zero, List.take_succ_cons, List.take_zero, List.drop_succ_cons] at h0 h1
  obtain ⟨x, y, rfl, rfl, ix, iy⟩ := point_cells h0
  obtain ⟨z, u, rfl, rfl, iz, iu⟩ := point_cells h1
  exact ⟨x, y, z, u, rfl, rfl, rfl, rfl⟩

/-- An arch's one cell. -/
theorem arch_cell {H : Type} {enc : TypeId × Value → H} {w : World} {base fuel : Nat} {spare : Nat → Bool} {held : Bool} {c0 : Value} {d : DataW H × List MemPlace}
    (hf : DataW.trod enc Try.prog w base spare held fuel 24 [c0] = some d) :
    ∃ (a : Option Addr) (n cap : Nat) (js : List Jt), c0 = .slice a n cap ∧ InJts w a n cap js := by
  have hs := Try.underlying24
  obtain ⟨xs, n, _, hx, _, hlen, hg⟩ := DataW.trod_struct hs hf
  have k0 : Try.prog.cellsOf 22 = 1 := by kernel_rfl
  have hg0 : DataW.trod enc Try.prog w base spare held n 22 (List.take (Try.prog.cellsOf 22) (List.drop 0 [c0])) = xs[0]? := hg 0 _ rfl
  have hg1 : DataW.trod enc Try.prog w base spare held n 22 [c0] = xs[0]? := by rw [k0] at hg0; simpa using hg0
  have hx0 : xs[0]? = some (xs[0]'(by rw [hlen]; decide)) := List.getElem?_eq_getElem _
  rw [hx0] at hg1
  have cj : Try.prog.cellsOf 58 = 4 := by kernel_rfl
  rcases open_slice Try.underlying22 hg1 with ⟨hc, _⟩ | ⟨a, len, cap, m, fu, D, Pl, hc, _, hl, hm, hmm, _, hcell⟩
  · simp at hc
    subst hc
    exact ⟨none, 0, 0, [], rfl, rfl, Nat.le_refl _, Nat.zero_le _, .inl ⟨rfl, rfl, rfl⟩⟩
  · simp at hc
    subst hc
    have hlm : len ≤ m := by rw [hmm]; split <;> omega
    rw [cj] at hcell
    obtain ⟨js, hcl, hq⟩ := jts_of (n := len) (q := fun i p => w.cell? (a.add (i * 4)) = some (.int .i64 p.1.1) ∧ w.cell? (a.add (i * 4 + 1)) = some (.int .i64 p.1.2) ∧ w.cell? (a.add (i * 4 + 2)) = some (.int .i64 p.2.1) ∧ w.cell? (a.add (i * 4 + 3)) = some (.int .i64 p.2.2)) (fun i hi => by
      obtain ⟨cs', h1, h2⟩ := hcell i (by omega)
      obtain ⟨_, hlen', hat⟩ := World.cells?_some h1
      match cs', hlen' with
      | [v0, v1, v2, v3], _ =>
        obtain ⟨x, y, z, u, rfl, rfl, rfl, rfl⟩ := joint_cells h2
        have e0 := hat 0 (by omega)
        have e1 := hat 1 (by omega)
        have e2 := hat 2 (by omega)
        have e3 := hat 3 (by omega)
        rw [Go.Deep.add_add] at e0 e1 e2 e3
        exact ⟨((x, y), (z, u)), by simpa using e0, by simpa using e1, by simpa using e2, by simpa using e3⟩)
    exact ⟨some a, len, cap, js, rfl, hcl, hl, hm, .inr ⟨a, rfl, fun i hi => hq i hi⟩⟩

/-- An arch that came in. -/
theorem open_arch {H : Type} {enc : TypeId × Value → H} {w : World} {r : Reach} {b0 base : Nat} {spare : Nat → Bool} {held : Bool} {v : Value} {d : DataW H} {p : List MemPlace}
    (hv : Value.okWide Try.prog w r b0 24 v) (h : DataW.Trod enc Try.prog w base spare held 24 v d p) :
    ∃ (a : Option Addr) (n cap : Nat) (js : List Jt), v = .agg #[.slice a n cap] ∧ InJts w a n cap js := by
  have hs := Try.underlying24
  obtain ⟨cs, rfl, hsz⟩ := okWide_struct hs hv
  obtain ⟨l⟩ := cs
  match l, hsz.trans cellsArch with
  | [c0], _ =>
    obtain ⟨fuel, hf⟩ := h
    obtain ⟨a, n, cap, js, rfl, hi⟩ := arch_cell (c0 := c0) (by simpa [Value.cells] using hf)
    exact ⟨a, n, cap, js, rfl, hi⟩

/-- What szArch answers. -/
def szJ (n : Nat) : Int := if n ≤ 1048576 then 1048576 - n else -1

theorem szJointS (a : Option Addr) (n cap : Nat) (w : World) (hn : n ≤ maxLen) :
    Calls Try.prog 9 #[.slice a n cap, .int .i64 1048576] w fun e w' => e = .returned (.int .i64 (szJ n)) ∧ w = w' := by
  unfold maxLen at hn
  by_cases h : n ≤ 1048576
  · go_enter Try.func9, Try.ntmps9
    go_wp2
    go_ret
    exact ⟨ret_i64 (by unfold szJ; rw [if_pos h]), rfl⟩
  · go_enter Try.func9, Try.ntmps9
    go_wp2
    go_ret
    exact ⟨ret_i64 (by unfold szJ; rw [if_neg h]), rfl⟩

theorem szArch (a : Option Addr) (n cap : Nat) (w : World) (hn : n ≤ maxLen) :
    Calls Try.prog 4 #[.agg #[.slice a n cap], .int .i64 1048576] w fun e w' => e = .returned (.int .i64 (szJ n)) ∧ Below w.heap.size w w' := by
  have hv : -1 ≤ szJ n ∧ szJ n ≤ 1048576 := by unfold szJ; split <;> omega
  by_cases h : szJ n < 0
  · have hV : szJ n = -1 := by omega
    have HV := Lib.hid hV
    generalize hU : szJ n = V at *
    have HU := Lib.hid hU
    clear hU hV
    go_enter Try.func4, Try.ntmps4
    go_wp2_with fail
    refine (szJointS _ _ _ _ hn).mono ?_
    rintro e w1 ⟨rfl, rfl⟩
    rw [HU.out]
    go_wp2_with fail
    go_ret
    exact ⟨ret_i64 HV.out.symm, by repeat (first | exact Below.refl _ _ | refine Below.alloc ?_ (by simp <;> omega) _)⟩
  · generalize hU : szJ n = V at *
    have HU := Lib.hid hU
    clear hU
    go_enter Try.func4, Try.ntmps4
    go_wp2_with fail
    refine (szJointS _ _ _ _ hn).mono ?_
    rintro e w1 ⟨rfl, rfl⟩
    rw [HU.out]
    go_wp2_with fail
    go_ret
    exact ⟨rfl, by repeat (first | exact Below.refl _ _ | refine Below.alloc ?_ (by simp <;> omega) _)⟩

/-- Joints as far as they have been copied. -/
def flatJTo (js : List Jt) (k : Nat) : List Value := flatJ (js.take k) ++ List.replicate ((js.length - k) * 4) (.int .i64 0)
theorem flatJ_append (a b : List Jt) : flatJ (a ++ b) = flatJ a ++ flatJ b := by unfold flatJ; rw [List.flatMap_append]
theorem flatJTo_zero (js : List Jt) : flatJTo js 0 = List.replicate (js.length * 4) (.int .i64 0) := by simp [flatJTo, flatJ]
theorem flatJTo_end (js : List Jt) : flatJTo js js.length = flatJ js := by simp [flatJTo]
theorem flatJTo_next (js : List Jt) (k : Nat) (h : k < js.length) : ((((flatJTo js k).set (k * 4) (.int .i64 (jt js k).1.1)).set (k * 4 + 1) (.int .i64 (jt js k).1.2)).set (k * 4 + 2) (.int .i64 (jt js k).2.1)).set (k * 4 + 3) (.int .i64 (jt js k).2.2) = flatJTo js (k + 1) := by
  have hl : (flatJ (js.take k)).length = k * 4 := by rw [flatJ_length, List.length_take]; omega
  unfold flatJTo
  rw [show (js.length - k) * 4 = (js.length - (k + 1)) * 4 + 1 + 1 + 1 + 1 by omega]
  simp only [List.replicate_succ]
  rw [List.set_append_right _ _ (by omega), hl, Nat.sub_self, List.set_cons_zero, List.set_append_right _ _ (by omega), hl, show k * 4 + 1 - k * 4 = 1 by omega, List.set_cons_succ, List.set_cons_zero,
    List.set_append_right _ _ (by omega), hl, show k * 4 + 2 - k * 4 = 2 by omega, List.set_cons_succ, List.set_cons_succ, List.set_cons_zero,
    List.set_append_right _ _ (by omega), hl, show k * 4 + 3 - k * 4 = 3 by omega, List.set_cons_succ, List.set_cons_succ, List.set_cons_succ, List.set_cons_zero]
  rw [List.take_succ_eq_append_getElem h, flatJ_append, List.append_assoc, jt_get h]
  rfl
theorem flatJTo_at (js : List Jt) (k i : Nat) (h : k < js.length) (hi : i < 4) : (flatJTo js k)[k * 4 + i]? = some (.int .i64 0) := by
  have hl : (flatJ (js.take k)).length = k * 4 := by rw [flatJ_length, List.length_take]; omega
  unfold flatJTo
  rw [List.getElem?_append_right (by omega), hl, List.getElem?_replicate, if_pos (by omega)]

theorem made_zeroJ (n : Nat) : (madeCells (Value.agg #[.int .i64 0, .int .i64 0, .int .i64 0, .int .i64 0]).cells n).toList = List.replicate n (Value.int .i64 0) := by
  unfold madeCells
  rw [Array.toList_map]
  refine List.ext_getElem (by simp) fun i h1 h2 => ?_
  rw [List.getElem_map, List.getElem_replicate]
  have : i % 4 = 0 ∨ i % 4 = 1 ∨ i % 4 = 2 ∨ i % 4 = 3 := by omega
  simp [Value.cells]
  rcases this with h | h | h | h <;> simp [h]
theorem Try.infoJn : (Try.prog.info? 38).map (fun i => (i.zero, i.size, i.bytes)) = some (some (.agg #[.int .i64 0, .int .i64 0, .int .i64 0, .int .i64 0]), 4, 32) := by kernel_rfl

set_option maxHeartbeats 1000000 in
theorem toJointS (a : Option Addr) (n cap : Nat) (js : List Jt) (w : World) (h : InJts w a n cap js) (hn : n ≤ 1048576) :
    Calls Try.prog 12 #[.slice a n cap] w fun e w' => e = .returned (.slice (some ⟨w.heap.size, 0, none⟩) n n) ∧ JRowAt w' w.heap.size w.heap.size n js ∧ Below w.heap.size w w' := by
  obtain ⟨i0, hi, hz0, hz1, hz2⟩ := info_parts Try.infoJn
  obtain ⟨hl, hc, hm, hcase⟩ := h
  have hX : ∃ ad : Addr, 0 < n → a = some ad ∧ ∀ i, i < n → w.cell? (ad.add (i * 4)) = some (.int .i64 (jt js i).1.1) ∧ w.cell? (ad.add (i * 4 + 1)) = some (.int .i64 (jt js i).1.2) ∧ w.cell? (ad.add (i * 4 + 2)) = some (.int .i64 (jt js i).2.1) ∧ w.cell? (ad.add (i * 4 + 3)) = some (.int .i64 (jt js i).2.2) := by
    rcases hcase with ⟨rfl, h0, -⟩ | ⟨x, rfl, hx⟩
    · exact ⟨⟨0, 0, none⟩, fun h => absurd h (by omega)⟩
    · exact ⟨x, fun _ => ⟨rfl, hx⟩⟩
  clear hcase
  unfold maxLen at hm
  subst hl
  go_enter Try.func12, Try.ntmps12
  go_wp2_with (at_make; refine wpList_make_full _ rfl _ _ 27 rfl w.heap.size 38 i0 (.agg #[.int .i64 0, .int .i64 0, .int .i64 0, .int .i64 0]) 4 Try.underlying27 hi hz0 hz1 .i64 .i64 _ _ js.length rfl rfl rfl rfl (by rw [hz2]; omega) (by unfold maxLen; omega) (Nat.le_refl _) ?_; intro w0 hown0 hgrow0)
  rw [made_zeroJ, ← flatJTo_zero] at hown0
  have hb0 : Below w.heap.size w w0 := (Below.refl _ _).grown hgrow0 (Nat.le_refl _) (fun k hk => by cases hk)
  clear hgrow0
  obtain ⟨ad, hX⟩ := hX
  have HX := Lib.hid hX
  clear hX
  generalize hN : js.length = N at *
  have HN := Lib.hid hN
  clear hN
  go_loopw [4] (fun t wr => ∃ k : Nat, k ≤ N ∧ t = .int .i64 k ∧ wr.ownsRow w.heap.size 38 4 (.slice (some ⟨w.heap.size, 0, none⟩) N N) N (flatJTo js k) ∧ Below w.heap.size w wr)
    (fun t _ => N - (intOf t).toNat)
  case atStart => exact ⟨0, Nat.zero_le _, rfl, hown0, hb0⟩
  case round =>
    obtain ⟨k, hk, rfl, hown, hbw⟩ := hrel
    have HO := Lib.hid hown
    have HB := Lib.hid hbw
    by_cases hlt : k < N
    · obtain ⟨rfl, hcell⟩ := HX.out (by omega)
      obtain ⟨q0, q1, q2, q3⟩ := hcell k hlt
      have hadlt := cell_block_lt q0
      rw [adb] at hadlt
      have r0 : wr.cell? (ad.add (k * 4)) = some (.int .i64 (jt js k).1.1) := by rw [hbw.cell (by rw [adb]; exact hadlt)]; exact q0
      have r1 : wr.cell? ⟨(ad.add (k * 4)).block, (ad.add (k * 4)).off + 1, none⟩ = some (.int .i64 (jt js k).1.2) := by rw [ad1, Go.Deep.add_add, hbw.cell (by rw [adb]; exact hadlt)]; exact q1
      have r2 : wr.cell? ⟨(ad.add (k * 4)).block, (ad.add (k * 4)).off + 2, none⟩ = some (.int .i64 (jt js k).2.1) := by rw [show (⟨(ad.add (k * 4)).block, (ad.add (k * 4)).off + 2, none⟩ : Addr) = (ad.add (k * 4)).add 2 from rfl, Go.Deep.add_add, hbw.cell (by rw [adb]; exact hadlt)]; exact q2
      have r3 : wr.cell? ⟨(ad.add (k * 4)).block, (ad.add (k * 4)).off + 3, none⟩ = some (.int .i64 (jt js k).2.2) := by rw [show (⟨(ad.add (k * 4)).block, (ad.add (k * 4)).off + 3, none⟩ : Addr) = (ad.add (k * 4)).add 3 from rfl, Go.Deep.add_add, hbw.cell (by rw [adb]; exact hadlt)]; exact q3
      clear q0 q1 q2 q3 hcell HX hown hbw
      have HP := Lib.hid hlt
      obtain ⟨px, hpx⟩ : ∃ px, px = (jt js k).1.1 := ⟨_, rfl⟩
      obtain ⟨py, hpy⟩ : ∃ py, py = (jt js k).1.2 := ⟨_, rfl⟩
      obtain ⟨pz, hpz⟩ : ∃ pz, pz = (jt js k).2.1 := ⟨_, rfl⟩
      obtain ⟨pu, hpu⟩ : ∃ pu, pu = (jt js k).2.2 := ⟨_, rfl⟩
      rw [← hpx] at r0
      rw [← hpy] at r1
      rw [← hpz] at r2
      rw [← hpu] at r3
      have HPX := Lib.hid hpx
      have HPY := Lib.hid hpy
      have HPZ := Lib.hid hpz
      have HPU := Lib.hid hpu
      clear hpx hpy hpz hpu
      go_wp2_with fail
      refine (toJoint _ _ _ _ _).mono ?_
      rintro e w1 ⟨rfl, hb1⟩
      have ho1 := owns_below HO.out hb1
      have hlN := HN.out
      have c0 : w1.cell? ⟨w.heap.size, k * 4, none⟩ = some (.int .i64 0) := (World.ownsRow.cellAt ho1 (k * 4) (by omega)).trans (flatJTo_at js k 0 (by omega) (by omega))
      have c1 : w1.cell? ⟨w.heap.size, k * 4 + 1, none⟩ = some (.int .i64 0) := (World.ownsRow.cellAt ho1 (k * 4 + 1) (by omega)).trans (flatJTo_at js k 1 (by omega) (by omega))
      have c2 : w1.cell? ⟨w.heap.size, k * 4 + 2, none⟩ = some (.int .i64 0) := (World.ownsRow.cellAt ho1 (k * 4 + 2) (by omega)).trans (flatJTo_at js k 2 (by omega) (by omega))
      have c3 : w1.cell? ⟨w.heap.size, k * 4 + 3, none⟩ = some (.int .i64 0) := (World.ownsRow.cellAt ho1 (k * 4 + 3) (by omega)).trans (flatJTo_at js k 3 (by omega) (by omega))
      have hfr := fun j => World.ownsRow.frozenAt ho1 j
      have f0 := hfr (k * 4)
      have f1 := hfr (k * 4 + 1)
      have f2 := hfr (k * 4 + 2)
      have f3 := hfr (k * 4 + 3)
      have ho2 := (World.ownsRow.stored (World.ownsRow.stored (World.ownsRow.stored (World.ownsRow.stored ho1 (k * 4) (.int .i64 px)).1 (k * 4 + 1) (.int .i64 py)).1 (k * 4 + 2) (.int .i64 pz)).1 (k * 4 + 3) (.int .i64 pu)).1
      rw [HPX.out, HPY.out, HPZ.out, HPU.out, flatJTo_next js k (by omega), ← HPX.out, ← HPY.out, ← HPZ.out, ← HPU.out] at ho2
      have hbb : Below w.heap.size w ((((w1.setCell ⟨w.heap.size, k * 4, none⟩ (.int .i64 px)).setCell ⟨w.heap.size, k * 4 + 1, none⟩ (.int .i64 py)).setCell ⟨w.heap.size, k * 4 + 2, none⟩ (.int .i64 pz)).setCell ⟨w.heap.size, k * 4 + 3, none⟩ (.int .i64 pu)) :=
        ((((HB.out.trans (hb1.mono HB.out.size)).setCell (p := ⟨w.heap.size, k * 4, none⟩) (Nat.le_refl _) _).setCell (p := ⟨w.heap.size, k * 4 + 1, none⟩) (Nat.le_refl _) _).setCell (p := ⟨w.heap.size, k * 4 + 2, none⟩) (Nat.le_refl _) _).setCell (p := ⟨w.heap.size, k * 4 + 3, none⟩) (Nat.le_refl _) _
      have HO2 := Lib.hid ho2
      have HBB := Lib.hid hbb
      clear hfr ho1 ho2 hbb hlN HO HB hb1
      go_wp2_with fail
      go_roundw
      case rel => exact ⟨k + 1, by omega, by go_num, HO2.out, HBB.out⟩
      case measure => simp [intOf]; omega
    · obtain rfl : k = N := by omega
      clear hown hbw
      go_wp2_with fail
      go_ret
      have hlN := HN.out
      refine ⟨by rw [hlN]; rfl, ?_, HB.out⟩
      have := HO.out
      rw [← hlN, flatJTo_end] at this
      exact this

set_option maxHeartbeats 1000000 in
theorem toArch (a : Option Addr) (n cap : Nat) (js : List Jt) (w : World) (h : InJts w a n cap js) (hn : n ≤ 1048576) :
    Calls Try.prog 6 #[.agg #[.slice a n cap]] w fun e w' => ∃ g, w.heap.size ≤ g ∧ e = .returned (.agg #[.slice (some ⟨g, 0, none⟩) n n]) ∧ JRowAt w' w.heap.size g n js ∧ Below w.heap.size w w' := by
  have hl := h.1
  have hb0 := ((Below.refl w.heap.size w).alloc (by simp <;> omega) (.cells #[.slice a n cap] 24) |>.alloc (by simp <;> omega) (.cells #[.slice none 0 0] 29) |>.alloc (by simp <;> omega) (.cells #[.slice none 0 0] 29))
  have HI := Lib.hid (h.below hb0)
  have HB0 := Lib.hid hb0
  have HL := Lib.hid hl
  clear h hb0 hl
  go_enter Try.func6, Try.ntmps6
  go_wp2_with fail
  refine (toJointS _ _ _ js _ HI.out hn).mono ?_
  rintro e w1 ⟨rfl, ho, hb1⟩
  have hz := ho.lt
  obtain ⟨hc1, hf1⟩ := bcell hb1
  simp only [World.size_alloc] at hb1 ho hz
  have HO := Lib.hid ho
  clear ho
  go_wp2_with fail
  refine bodyPost_ret (v := .agg #[.slice (some ⟨w.heap.size + 1 + 1 + 1, 0, none⟩) n n]) (by simp [results, Try.results6, go_sem, hc1]) rfl ⟨_, ?_, rfl, ?_, ?_⟩
  · omega
  · have hl := HL.out
    subst hl
    have h1 := HO.out.base (B' := w.heap.size) (by omega)
    exact ownsRow_setCell_other (ownsRow_setCell_other h1 (a := ⟨_, _, none⟩) (fun he => by simp [Value.ownBlock] at he <;> omega) _) (a := ⟨_, _, none⟩) (fun he => by simp [Value.ownBlock] at he <;> omega) _
  · refine Below.setCell (Below.setCell ?_ (by simp <;> omega) _) (by simp <;> omega) _
    exact HB0.out.trans (hb1.mono (by omega))

theorem JRow.nil (w : World) (B : Nat) : JRow w B (.slice none 0 0) [] := World.ownsRow_nil w B _ _
theorem JRow.cases' {w : World} {B : Nat} {v : Value} {js : List Jt} (h : JRow w B v js) :
    (v = .slice none 0 0 ∧ js = []) ∨ ∃ g cap, v = .slice (some ⟨g, 0, none⟩) js.length cap ∧ JRowAt w B g cap js ∧ B ≤ g ∧ g < w.heap.size ∧ js.length ≤ cap ∧ cap ≤ maxLen := by
  have hh := h
  rcases h.2 with ⟨rfl, hz⟩ | ⟨g, cap, cur, rfl, hB, hg, hc, hm, -⟩
  · exact .inl ⟨rfl, List.length_eq_zero_iff.1 hz⟩
  · exact .inr ⟨g, cap, rfl, hh, hB, by have := (Array.getElem?_eq_some_iff.1 hg).1; exact this, hc, hm⟩
theorem jrow_slice {w : World} {B : Nat} {v : Value} {js : List Jt} (h : JRow w B v js) : ∃ a cap, v = .slice a js.length cap ∧ js.length ≤ cap ∧ cap ≤ maxLen := by
  rcases h.cases' with ⟨rfl, rfl⟩ | ⟨g, cap, rfl, -, -, -, h1, h2⟩
  · exact ⟨none, 0, rfl, Nat.le_refl _, Nat.zero_le _⟩
  · exact ⟨_, cap, rfl, h1, h2⟩
theorem JRowAt.alloc {w : World} {B g cap : Nat} {js : List Jt} (h : JRowAt w B g cap js) (o : Obj) : JRowAt (w.alloc o) B g cap js := World.ownsRow.alloc h o
theorem JRowAt.row {w : World} {B g cap : Nat} {js : List Jt} (h : JRowAt w B g cap js) : JRow w B (.slice (some ⟨g, 0, none⟩) js.length cap) js := h
theorem JRow.after {w w' : World} {B n : Nat} {v : Value} {js : List Jt} (h : JRow w B v js) (hb : Below (w.drewN n).heap.size (w.drewN n) w') : JRow w' B v js := owns_below (w := w.drewN n) h hb
theorem JRowAt.after {w w' : World} {B g cap n : Nat} {js : List Jt} (h : JRowAt w B g cap js) (hb : Below (w.drewN n).heap.size (w.drewN n) w') : JRowAt w' B g cap js := owns_below (w := w.drewN n) h hb

set_option maxHeartbeats 2000000 in
/-- Two rows of the same joints are told equal. -/
theorem eqJointS_rows (w : World) (B1 g1 cap1 B2 g2 cap2 n : Nat) (js : List Jt) (hn : js.length = n) (h1 : JRowAt w B1 g1 cap1 js) (h2 : JRowAt w B2 g2 cap2 js) :
    Calls Try.prog 16 #[.slice (some ⟨g1, 0, none⟩) n cap1, .slice (some ⟨g2, 0, none⟩) n cap2] w fun e w' => e = .returned (.bool true) ∧ Below w.heap.size w w' := by
  obtain ⟨-, hg1, hc1, hm1⟩ := h1.lt
  obtain ⟨-, hg2, hc2, hm2⟩ := h2.lt
  unfold maxLen at hm1
  have H1 := Lib.hid h1
  have H2 := Lib.hid h2
  have HN := Lib.hid hn
  rw [hn] at hc1 hc2
  clear h1 h2 hn
  go_enter Try.func16, Try.ntmps16
  go_wp2_with fail
  go_loopw [5] (fun t wr => ∃ k : Nat, k ≤ n ∧ t = .int .i64 k ∧ Below w.heap.size w wr)
    (fun t _ => n - (intOf t).toNat)
  case atStart => exact ⟨0, Nat.zero_le _, rfl, Below.refl _ _⟩
  case round =>
    obtain ⟨k, hk, rfl, hbw⟩ := hrel
    have HB := Lib.hid hbw
    by_cases hlt : k < n
    · have hlN := HN.out
      obtain ⟨a0, a1, a2, a3⟩ := (H1.out.below hbw).cells k (by omega)
      obtain ⟨b0, b1, b2, b3⟩ := (H2.out.below hbw).cells k (by omega)
      generalize (jt js k).1.1 = px at *
      generalize (jt js k).1.2 = py at *
      generalize (jt js k).2.1 = pz at *
      generalize (jt js k).2.2 = pu at *
      clear hbw hlN
      go_wp2_with fail
      have hn1 := Since.nonempty wr
      have hz := HB.out.size
      have sa0 := fun (x : Since wr) => (x.cell g1 (k * 4) (by omega)).trans a0
      have sa1 := fun (x : Since wr) => (x.cell g1 (k * 4 + 1) (by omega)).trans a1
      have sa2 := fun (x : Since wr) => (x.cell g1 (k * 4 + 2) (by omega)).trans a2
      have sa3 := fun (x : Since wr) => (x.cell g1 (k * 4 + 3) (by omega)).trans a3
      have sb0 := fun (x : Since wr) => (x.cell g2 (k * 4) (by omega)).trans b0
      have sb1 := fun (x : Since wr) => (x.cell g2 (k * 4 + 1) (by omega)).trans b1
      have sb2 := fun (x : Since wr) => (x.cell g2 (k * 4 + 2) (by omega)).trans b2
      have sb3 := fun (x : Since wr) => (x.cell g2 (k * 4 + 3) (by omega)).trans b3
      refine wp_region_since (by kernel_rfl) (by kernel_rfl) ?_
      repeat (go_big_quiet_step (first
        | (go_at_call 23; exact Since.call (eqJoint_same _ _ _ _ _))))
      refine wpQuiet_nil ?_
      rintro w2 ⟨⟨_, hb2⟩, rfl⟩
      have HB2 := Lib.hid (HB.out.trans (hb2.mono hz))
      clear sa0 sa1 sa2 sa3 sb0 sb1 sb2 sb3 hb2 a0 a1 a2 a3 b0 b1 b2 b3
      go_wp2_with fail
      go_roundw
      case rel => exact ⟨k + 1, by omega, by go_num, HB2.out⟩
      case measure => simp [intOf]; omega
    · obtain rfl : k = n := by omega
      clear hbw
      go_wp2_with fail
      go_ret
      exact ⟨rfl, HB.out⟩

/-- No joints are told equal to no joints. -/
theorem eqJointS_none (w : World) (a1 a2 : Option Addr) (cap1 cap2 : Nat) :
    Calls Try.prog 16 #[.slice a1 0 cap1, .slice a2 0 cap2] w fun e w' => e = .returned (.bool true) ∧ Below w.heap.size w w' := by
  go_enter Try.func16, Try.ntmps16
  go_wp2_with fail
  refine wp_loop_rounds 1 ?_
  rw [rounds_succ]
  go_wp2
  go_ret
  exact ⟨rfl, Below.refl _ _⟩

theorem eqJointS_same (w : World) (B1 B2 : Nat) (v1 v2 : Value) (js : List Jt) (h1 : JRow w B1 v1 js) (h2 : JRow w B2 v2 js) :
    Calls Try.prog 16 #[v1, v2] w fun e w' => e = .returned (.bool true) ∧ Below w.heap.size w w' := by
  rcases h1.cases' with ⟨rfl, rfl⟩ | ⟨g1, cap1, rfl, r1, -⟩
  · rcases h2.cases' with ⟨rfl, -⟩ | ⟨g2, cap2, rfl, r2, -⟩
    · exact eqJointS_none _ _ _ _ _
    · exact eqJointS_none _ _ _ _ _
  · rcases h2.cases' with ⟨rfl, rfl⟩ | ⟨g2, cap2, rfl, r2, -⟩
    · exact eqJointS_none _ _ _ _ _
    · exact eqJointS_rows _ _ _ _ _ _ _ _ js rfl r1 r2

theorem eqArch_same (w : World) (B1 B2 : Nat) (v1 v2 : Value) (js : List Jt) (h1 : JRow w B1 v1 js) (h2 : JRow w B2 v2 js) :
    Calls Try.prog 8 #[.agg #[v1], .agg #[v2]] w fun e w' => e = .returned (.bool true) ∧ Below w.heap.size w w' := by
  have hv1 : ∃ a1 n1 c1, v1 = .slice a1 n1 c1 := by obtain ⟨a, cap, rfl, -⟩ := jrow_slice h1; exact ⟨_, _, _, rfl⟩
  have hv2 : ∃ a2 n2 c2, v2 = .slice a2 n2 c2 := by obtain ⟨a, cap, rfl, -⟩ := jrow_slice h2; exact ⟨_, _, _, rfl⟩
  obtain ⟨a1, n1, c1, rfl⟩ := hv1
  obtain ⟨a2, n2, c2, rfl⟩ := hv2
  have H1 := Lib.hid h1
  have H2 := Lib.hid h2
  clear h1 h2
  go_enter Try.func8, Try.ntmps8
  go_wp2_with fail
  have hb0 := ((Below.refl w.heap.size w).alloc (Nat.le_refl _) (.cells #[.slice a1 n1 c1] 29) |>.alloc (by simp) (.cells #[.slice a2 n2 c2] 29))
  refine (eqJointS_same _ _ _ _ _ js (H1.out.below hb0) (H2.out.below hb0)).mono ?_
  rintro e w1 ⟨rfl, hb1⟩
  have hb2 := hb0.trans (hb1.mono (by simp <;> omega))
  go_wp2_with fail
  go_ret
  exact ⟨rfl, hb2⟩
end Go.Proofs.Ytoholdpobkgffaa
