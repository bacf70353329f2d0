/- Arches: the contracts of the program's functions on a row of joints that only read: first, last, growsRight, highestInner; Lists of stones in the laws: as they come in, their size, their copy, the comparison; rows of stones of the program's own; Arches: the contracts of the program's stonesBetween and buildArch; Arches: the contracts of the program's buildArch, ArchOk, CountStones, SpanOf, RiseOf, StoneOf. -/
import Derived.Test.YtbmlcfdilopmgaaGPlain
import Derived.Test.YtbmlcfdilopmgaaGArch
import Derived.Test.YtbmlcfdilopmgaaGStone
import Derived.Deep.Slices
import Derived.Test.YtbmlcfdilopmgaaGJoint

/- Arches: the contracts of the program's functions on a row of joints that only read: first, last, growsRight, highestInner. -/
namespace Go.Proofs.Ytbmlcfdilopmgaa
set_option maxRecDepth 100000
open Go.ChangeShapes Go.WideShapes Go.ChangeAt Go.RowKit

set_option maxHeartbeats 1000000 in
theorem rowGrows (w : World) (B g cap n : Nat) (js : List Jt) (hr : JRowAt w B g cap js) (hn : js.length = n) (h0 : 0 < n) (h8 : n ≤ 8) :
    Calls Try.prog 109 #[.slice (some ⟨g, 0, none⟩) n cap] w fun e w' => e = .returned (.bool (allV (n - 1) (growV js))) ∧ Below w.heap.size w w' := by
  obtain ⟨-, hg, hc, hm⟩ := hr.lt
  rw [hn] at hc
  unfold maxLen at hm
  have HR := Lib.hid hr
  have HN := Lib.hid hn
  obtain ⟨m, hm1⟩ : ∃ m, m = n - 1 := ⟨_, rfl⟩
  rw [← hm1]
  have HZ := Lib.hid (allFrom_zero m (growV js))
  have e0 : IntKind.i64.wrap ((n : Int) - 1) = (m : Int) := by rw [IntWalk.i64_in _ (by omega)]; omega
  clear hr hn
  go_enter Try.func109, Try.ntmps109
  go_wp2_with fail
  go_loopw [7] (fun t wr => ∃ k : Nat, k ≤ m ∧ t = .int .i64 k ∧ allFrom m k (growV js) = allFrom m 0 (growV js) ∧ Below w.heap.size w wr)
    (fun t _ => m - (intOf t).toNat)
  case atStart => exact ⟨0, Nat.zero_le _, rfl, rfl, Below.refl _ _⟩
  case round =>
    obtain ⟨k, hk, rfl, hall, hbw⟩ := hrel
    have HB := Lib.hid hbw
    have HA := Lib.hid hall
    clear hall
    by_cases hlt : k < m
    · have hlN := HN.out
      have hrw := JRowAt.below HR.out hbw
      obtain ⟨a0, a1, a2, a3⟩ := hrw.cells k (by omega)
      obtain ⟨c0, c1, c2, c3⟩ := hrw.cells (k + 1) (by omega)
      have hG : growV js k = decide ((jt js k).1.1 < (jt js (k + 1)).1.1) := rfl
      generalize (jt js k).1.1 = x at *
      generalize (jt js (k + 1)).1.1 = y at *
      clear a1 a2 a3 c1 c2 c3 hrw hbw hlN
      obtain ⟨q, hq⟩ : ∃ q : Nat, q = k + 1 := ⟨_, rfl⟩
      rw [← hq] at c0
      have e1 : IntKind.i64.wrap ((k : Int) + 1) = (q : Int) := by rw [IntWalk.i64_in _ (by omega)]; omega
      have hq0 : (0 : Int) ≤ (q : Int) := Int.natCast_nonneg _
      have hqn : (q : Int) < (n : Int) := by omega
      have hk0 : (0 : Int) ≤ (k : Int) := Int.natCast_nonneg _
      have hkn : (k : Int) < (n : Int) := by omega
      have HQ := Lib.hid hq
      have l1 := cell_block_lt a0
      have l2 := cell_block_lt c0
      clear hq
      by_cases hx : y ≤ x
      · have HG := Lib.hid (show growV js k = false by rw [hG]; exact decide_eq_false (by omega))
        have hd : decide (y ≤ x) = true := decide_eq_true hx
        clear hG hx
        go_wp2_with fail
        have hn1 := Since.nonempty wr
        have sa := fun (x : Since wr) => (x.cell g (k * 4) l1).trans a0
        have sc := fun (x : Since wr) => (x.cell g (q * 4) l2).trans c0
        refine wp_region_since (by kernel_rfl) (by kernel_rfl) ?_
        repeat (go_big_quiet_step (fail))
        refine wpQuiet_nil ?_
        rintro w2 ⟨⟨_, hb2⟩, rfl⟩
        go_wp2_with fail
        go_ret
        exact ⟨ret_bool (by rw [← HZ.out, ← HA.out, allFrom_no hlt HG.out]), HB.out.trans (hb2.mono HB.out.size)⟩
      · have HG := Lib.hid (show growV js k = true by rw [hG]; exact decide_eq_true (by omega))
        have hd : decide (y ≤ x) = false := decide_eq_false hx
        clear hG hx
        go_wp2_with fail
        have hn1 := Since.nonempty wr
        have sa := fun (x : Since wr) => (x.cell g (k * 4) l1).trans a0
        have sc := fun (x : Since wr) => (x.cell g (q * 4) l2).trans c0
        refine wp_region_since (by kernel_rfl) (by kernel_rfl) ?_
        repeat (go_big_quiet_step (fail))
        refine wpQuiet_nil ?_
        rintro w2 ⟨⟨_, hb2⟩, rfl⟩
        have HB2 := Lib.hid (HB.out.trans (hb2.mono HB.out.size))
        have HQ2 := Lib.hid HQ.out
        clear sa sc hb2
        go_wp2_with fail
        go_roundw
        case rel => exact ⟨k + 1, by omega, by first | go_num | (rw [← HQ.out]), by rw [← HA.out]; exact allFrom_yes hlt HG.out, HB2.out⟩
        case measure => have := HQ.out; simp [intOf]; omega
    · obtain rfl : k = m := by omega
      clear hbw
      go_wp2_with fail
      go_ret
      exact ⟨ret_bool (by rw [← HZ.out, ← HA.out, allFrom_end]), HB.out⟩

end Go.Proofs.Ytbmlcfdilopmgaa

/- Lists of stones in the laws: as they come in, their size, their copy, the comparison; rows of stones of the program's own. -/
namespace Go.Proofs.Ytbmlcfdilopmgaa
set_option maxRecDepth 100000
open Go.ChangeShapes Go.WideShapes Go.ChangeAt Go.RowKit Go.Joins Go.Deep

/-- A list's stone at an index. -/
def st (css : List (List (Int × Int))) (i : Nat) : List (Int × Int) := css.getD i []
/-! ### Rows of stones -/
/-- A slice of stones in a row of the program's own; each stone's corners too. -/
def SRow (w : World) (B : Nat) (v : Value) (css : List (List (Int × Int))) : Prop :=
  ∃ vs : List Value, vs.length = css.length ∧ w.ownsRow B 129 1 v css.length vs ∧ ∀ i, i < css.length → Row w B (vs.getD i (.slice none 0 0)) (st css i)

theorem row_slice' {w : World} {B : Nat} {v : Value} {cs : List (Int × Int)} (h : Row w B v cs) : ∃ a cap, v = .slice a cs.length cap ∧ cs.length ≤ maxLen := by
  rcases h.cases with ⟨rfl, rfl⟩ | ⟨g, cap, rfl, -, -, -, h1, h2⟩
  · exact ⟨_, _, rfl, Nat.zero_le _⟩
  · exact ⟨_, _, rfl, Nat.le_trans h1 h2⟩
theorem SRow.below {w w' : World} {B : Nat} {v : Value} {css : List (List (Int × Int))} (h : SRow w B v css) (hb : Below w.heap.size w w') : SRow w' B v css := by
  obtain ⟨vs, h1, h2, h3⟩ := h
  exact ⟨vs, h1, owns_below h2 hb, fun i hi => (h3 i hi).below hb⟩
theorem SRow.base {w : World} {B B' : Nat} {v : Value} {css : List (List (Int × Int))} (h : SRow w B v css) (hb : B' ≤ B) : SRow w B' v css := by
  obtain ⟨vs, h1, h2, h3⟩ := h
  exact ⟨vs, h1, owns_base h2 hb, fun i hi => (h3 i hi).base hb⟩
/-- The row's value. -/
theorem SRow.slice {w : World} {B : Nat} {v : Value} {css : List (List (Int × Int))} (h : SRow w B v css) : ∃ a cap, v = .slice a css.length cap ∧ css.length ≤ cap ∧ cap ≤ maxLen ∧ (0 < css.length → ∃ g, a = some ⟨g, 0, none⟩ ∧ g < w.heap.size) := by
  obtain ⟨vs, -, h2, -⟩ := h
  rcases h2.2 with ⟨rfl, hz⟩ | ⟨g, cap, cur, rfl, hB, hg, hc, hm, -⟩
  · exact ⟨none, 0, by rw [hz], by omega, Nat.zero_le _, fun h => by omega⟩
  · exact ⟨_, cap, rfl, hc, hm, fun _ => ⟨g, rfl, (Array.getElem?_eq_some_iff.1 hg).1⟩⟩
/-- The cell of a stone, and its corners. -/
theorem SRow.at {w : World} {B g n cap : Nat} {css : List (List (Int × Int))} (h : SRow w B (.slice (some ⟨g, 0, none⟩) n cap) css) (hn : css.length = n) (k : Nat) (hk : k < n) :
    ∃ a m c, w.cell? ⟨g, k, none⟩ = some (.slice a m c) ∧ Row w B (.slice a m c) (st css k) := by
  obtain ⟨vs, h1, h2, h3⟩ := h
  obtain ⟨a, c, hv, -⟩ := row_slice' (h3 k (by omega))
  refine ⟨a, _, c, ?_, by have := h3 k (by omega); rw [hv] at this; exact this⟩
  rw [hn] at h2
  rw [World.ownsRow.cellAt h2 k (by omega), ← hv, List.getD_eq_getElem?_getD, List.getElem?_eq_getElem (by omega)]
  rfl

theorem made_zeroS (n : Nat) : (madeCells (Value.agg #[.slice none 0 0]).cells (n * 1)).toList = List.replicate n (Value.slice none 0 0) := by
  unfold madeCells
  rw [Array.toList_map]
  refine List.ext_getElem (by simp) fun i h1 h2 => ?_
  rw [List.getElem_map, List.getElem_replicate]
  simp [Value.cells, Nat.mod_one]

theorem Try.infoSt : (Try.prog.info? 129).map (fun i => (i.zero, i.size, i.bytes)) = some (some (.agg #[.slice none 0 0]), 1, 24) := by kernel_rfl

end Go.Proofs.Ytbmlcfdilopmgaa

/- Arches: the contracts of the program's stonesBetween and buildArch. -/
namespace Go.Proofs.Ytbmlcfdilopmgaa
set_option maxRecDepth 100000
open Go.ChangeShapes Go.WideShapes Go.ChangeAt Go.RowKit

/-- The first k stones of an arch. -/
def stonesTo (js : List Jt) (k : Nat) : List (List (Int × Int)) := (List.range k).map fun i => betw (jt js i) (jt js (i + 1))
theorem stonesTo_length (js : List Jt) (k : Nat) : (stonesTo js k).length = k := by simp [stonesTo]
theorem st_stonesTo (js : List Jt) (k i : Nat) (h : i < k) : st (stonesTo js k) i = betw (jt js i) (jt js (i + 1)) := by
  unfold st stonesTo
  rw [List.getD_eq_getElem?_getD, List.getElem?_eq_getElem (by simp; exact h)]
  simp

/-- Rows of two types have two blocks. -/
theorem own_other {w : World} {B1 B2 s1 s2 n1 n2 : Nat} {e1 e2 : TypeId} {v1 v2 : Value} {xs1 xs2 : List Value} (h1 : w.ownsRow B1 e1 s1 v1 n1 xs1) (h2 : w.ownsRow B2 e2 s2 v2 n2 xs2) (he : e1 ≠ e2) : v1.ownBlock = none ∨ v1.ownBlock ≠ v2.ownBlock := by
  rcases h1.2 with ⟨rfl, -⟩ | ⟨g1, c1, cur1, rfl, -, hg1, -⟩
  · exact .inl rfl
  · right
    rcases h2.2 with ⟨rfl, -⟩ | ⟨g2, c2, cur2, rfl, -, hg2, -⟩
    · simp [Value.ownBlock]
    · intro h
      simp [Value.ownBlock] at h
      subst h
      rw [hg1] at hg2
      simp at hg2
      exact he hg2.2

/-- The rows of the first k stones. -/
def Rows (w : World) (H : Nat) (vs : List Value) (js : List Jt) (k : Nat) : Prop := vs.length = k ∧ ∀ i, i < k → Row w H (vs.getD i (.slice none 0 0)) (betw (jt js i) (jt js (i + 1)))
theorem Rows.below {w w' : World} {H k : Nat} {vs : List Value} {js : List Jt} (h : Rows w H vs js k) (hb : Below w.heap.size w w') : Rows w' H vs js k := ⟨h.1, fun i hi => (h.2 i hi).below hb⟩
theorem Rows.push {w w' : World} {H k : Nat} {vs : List Value} {js : List Jt} {sv u : Value} (h : Rows w H vs js k) (hu : Row w H u (betw (jt js k) (jt js (k + 1)))) (ho : w.ownsRow H 129 1 sv k vs) (hg : w.grownBy w' sv.ownBlock) : Rows w' H (vs ++ [u]) js (k + 1) := by
  refine ⟨by rw [List.length_append, h.1]; rfl, fun i hi => ?_⟩
  have hk : ∀ (v : Value) (cs : List (Int × Int)), Row w H v cs → Row w' H v cs := fun v cs hr => World.ownsRow.kept hr hg (own_other hr ho (by decide))
  by_cases hik : i < k
  · rw [List.getD_eq_getElem?_getD, List.getElem?_append_left (by rw [h.1]; exact hik), ← List.getD_eq_getElem?_getD]
    exact hk _ _ (h.2 i hik)
  · obtain rfl : i = k := by omega
    rw [List.getD_eq_getElem?_getD, List.getElem?_append_right (by rw [h.1]; omega), h.1, Nat.sub_self]
    exact hk _ _ hu
theorem Rows.srow {w : World} {H k : Nat} {vs : List Value} {js : List Jt} {sv : Value} (h : Rows w H vs js k) (ho : w.ownsRow H 129 1 sv k vs) : SRow w H sv (stonesTo js k) := by
  refine ⟨vs, by rw [h.1, stonesTo_length], by rw [stonesTo_length]; exact ho, fun i hi => ?_⟩
  rw [stonesTo_length] at hi
  rw [st_stonesTo js k i hi]
  exact h.2 i hi

theorem st_drew3 {w w' : World} {n : Nat} (h : Below (w.drewN n).heap.size (w.drewN n) w') : Below w.heap.size w w' := (below_drewN (Below.refl w.heap.size w) n).trans h
theorem st_al3 {w w' : World} {o : Obj} (h : Below (w.alloc o).heap.size (w.alloc o) w') : Below w.heap.size w w' := ((Below.refl w.heap.size w).alloc (Nat.le_refl _) o).trans (h.mono (by simp))
theorem st_dal3 {w w' : World} {n : Nat} {o : Obj} (h : Below ((w.drewN n).alloc o).heap.size ((w.drewN n).alloc o) w') : Below w.heap.size w w' := (below_drewN (Below.refl w.heap.size w) n).trans (st_al3 h)
theorem cell_sf3 {w : World} {b o c d : Nat} {v u : Value} (h : w.cell? ⟨b, o, none⟩ = some v) (hb : b ≠ c) : (w.setCell ⟨c, d, none⟩ u).cell? ⟨b, o, none⟩ = some v := by
  rw [World.cell?_of_block (w := w) (Below.heap_setCell w ⟨c, d, none⟩ u b (fun e => hb e))]; exact h
theorem below_al3 {a w : World} (h : Below a.heap.size a w) (o : Obj) : Below a.heap.size a (w.alloc o) := h.alloc h.size o
theorem row_al3 {w w' : World} {o : Obj} {u : Value} {cs : List (Int × Int)} (h : Row w' (w.alloc o).heap.size u cs) : u.ownBlock ≠ some w.heap.size := fun he => by
  have := (World.ownsRow.lt h _ he).1
  simp at this
  omega
theorem row_lt3 {w' : World} {B : Nat} {u : Value} {cs : List (Int × Int)} (h : Row w' B u cs) : u.ownBlock ≠ some w'.heap.size := fun he => by
  have := (World.ownsRow.lt h _ he).2
  omega
theorem fr_al3 {w w' : World} {v : Value} {t : TypeId} (h : Below (w.alloc (.cells #[v] t)).heap.size (w.alloc (.cells #[v] t)) w') : w'.cell? ⟨w.heap.size, 0, none⟩ = some v ∧ w'.frozen? ⟨w.heap.size, 0, none⟩ = false ∧ w.heap.size < w'.heap.size :=
  ⟨cell_kept (w := w.alloc (.cells #[v] t)) (by go_simp) h, (h.frozen (p := ⟨w.heap.size, 0, none⟩) (by simp)).trans (by go_simp), by have := h.size; simp at this; omega⟩
theorem fr_dal3 {w w' : World} {n : Nat} {v : Value} {t : TypeId} (h : Below ((w.drewN n).alloc (.cells #[v] t)).heap.size ((w.drewN n).alloc (.cells #[v] t)) w') : w'.cell? ⟨w.heap.size, 0, none⟩ = some v ∧ w'.frozen? ⟨w.heap.size, 0, none⟩ = false ∧ w.heap.size < w'.heap.size := fr_al3 (w := w.drewN n) h

theorem Try.infoSn : (Try.prog.info? 129).map (fun i => (i.zero, i.size, i.bytes)) = some (some (.agg #[.slice none 0 0]), 1, 24) := by kernel_rfl

/-- The stones of an arch were handed back, in new memory; what was there is as it was. -/
def SbAns (js : List Jt) (m : Nat) (w : World) (e : Ending) (w' : World) : Prop :=
  ∃ sv, e = .returned (.tuple #[sv, .bool (allV m (betOk js))]) ∧ SRow w' w.heap.size sv (if allV m (betOk js) then stonesTo js m else []) ∧ Below w.heap.size w w'

set_option maxRecDepth 100000 in
set_option maxHeartbeats 2000000 in
theorem rowStones (w : World) (B g cap n : Nat) (js : List Jt) (hr : JRowAt w B g cap js) (hn : js.length = n) (h0 : 0 < n) (h8 : n ≤ 8) :
    Calls Try.prog 110 #[.slice (some ⟨g, 0, none⟩) n cap] w (SbAns js (n - 1) w) := by
  obtain ⟨i0, hi0, hz0, hz1, hz2⟩ := info_parts Try.infoSn
  obtain ⟨-, hgw, hc, hm⟩ := hr.lt
  rw [hn] at hc
  unfold maxLen at hm
  have HR := Lib.hid hr
  have HN := Lib.hid hn
  obtain ⟨m, hm1⟩ : ∃ m, m = n - 1 := ⟨_, rfl⟩
  rw [← hm1]
  have HZ := Lib.hid (allFrom_zero m (betOk js))
  have e0 : IntKind.i64.wrap ((n : Int) - 1) = (m : Int) := by rw [IntWalk.i64_in _ (by omega)]; omega
  have hmn : m < n := by omega
  clear hr hn hm1
  go_enter Try.func110, Try.ntmps110
  go_wp2_with fail
  go_loopw [4, 11] (fun q t wr => ∃ (k : Nat) (sa : Option Addr) (sc : Nat) (vs : List Value), k ≤ m ∧ t = .int .i64 k ∧ q = .slice sa k sc ∧ allFrom m k (betOk js) = allFrom m 0 (betOk js) ∧
      wr.ownsRow w.heap.size 129 1 (.slice sa k sc) k vs ∧ Rows wr w.heap.size vs js k ∧ Below w.heap.size w wr)
    (fun _ t _ => m - (intOf t).toNat)
  case atStart => exact ⟨0, none, 0, [], Nat.zero_le _, rfl, rfl, rfl, World.ownsRow_nil _ _ _ _, ⟨rfl, fun i hi => absurd hi (Nat.not_lt_zero i)⟩, Below.refl _ _⟩
  case round =>
    obtain ⟨k, sa, sc, vs, hk, rfl, rfl, hall, hown, hrows, hbw⟩ := hrel
    have HB := Lib.hid hbw
    have HA := Lib.hid hall
    have HO := Lib.hid hown
    have HRS := Lib.hid hrows
    clear hall hown hrows
    by_cases hlt : k < m
    · have hlN := HN.out
      have hrw := JRowAt.below HR.out hbw
      obtain ⟨a0, a1, a2, a3⟩ := hrw.cells k (by omega)
      obtain ⟨q, hq⟩ : ∃ q : Nat, q = k + 1 := ⟨_, rfl⟩
      obtain ⟨c0, c1, c2, c3⟩ := hrw.cells q (by omega)
      obtain ⟨⟨⟨ax, ay⟩, ⟨bx, by_⟩⟩, ea⟩ : ∃ p, jt js k = p := ⟨_, rfl⟩
      obtain ⟨⟨⟨cx, cy⟩, ⟨dx, dy⟩⟩, ec⟩ : ∃ p, jt js q = p := ⟨_, rfl⟩
      rw [ea] at a0 a1 a2 a3
      rw [ec] at c0 c1 c2 c3
      dsimp only at a0 a1 a2 a3 c0 c1 c2 c3
      have hL : betOk js k = stoneV (betw ((ax, ay), (bx, by_)) ((cx, cy), (dx, dy))) := by unfold betOk; rw [← hq, ea, ec]
      have hV1 : betw (jt js k) (jt js (k + 1)) = betw ((ax, ay), (bx, by_)) ((cx, cy), (dx, dy)) := by rw [← hq, ea, ec]
      have hV2 : betOk js k = true → betV ((ax, ay), (bx, by_)) ((cx, cy), (dx, dy)) = betw ((ax, ay), (bx, by_)) ((cx, cy), (dx, dy)) := fun h => betV_yes (hL ▸ h)
      have hSB := fun W => implStoneBetween ax ay bx by_ cx cy dx dy W
      unfold BetAns at hSB
      generalize stoneV (betw ((ax, ay), (bx, by_)) ((cx, cy), (dx, dy))) = S at *
      generalize betV ((ax, ay), (bx, by_)) ((cx, cy), (dx, dy)) = V at *
      generalize betw ((ax, ay), (bx, by_)) ((cx, cy), (dx, dy)) = U at *
      have HSB := Lib.hid hSB
      have HL := Lib.hid hL
      have HV1 := Lib.hid hV1
      have HV2 := Lib.hid hV2
      have HQ := Lib.hid hq
      have e1 : IntKind.i64.wrap ((k : Int) + 1) = (q : Int) := by rw [IntWalk.i64_in _ (by omega)]; omega
      have hq0 : (0 : Int) ≤ (q : Int) := Int.natCast_nonneg _
      have hqn : (q : Int) < (n : Int) := by omega
      have hk0 : (0 : Int) ≤ (k : Int) := Int.natCast_nonneg _
      have hkn : (k : Int) < (n : Int) := by omega
      have mg := Nat.ne_of_lt (cell_block_lt a0)
      dsimp only at mg
      have ng := Ne.symm mg
      clear hSB hL hV1 hV2 hq ea ec hrw hlN hbw
      go_wp2_with fail
      go_cut [6, 7] from 12 to 26 (fun p r wx => ∃ (b : Nat) (ua : Option Addr) (uc : Nat), p = .pointer (some ⟨b, 0, none⟩) ∧ r = .bool S ∧ wx.cell? ⟨b, 0, none⟩ = some (.slice ua V.length uc) ∧ Row wx wr.heap.size (.slice ua V.length uc) V ∧ Below wr.heap.size wr wx)
      case first =>
        go_region_held3 (fun w' => w'.cell? ⟨g, k * 4, none⟩ = some (.int .i64 ax) ∧ w'.cell? ⟨g, k * 4 + 1, none⟩ = some (.int .i64 ay) ∧ w'.cell? ⟨g, k * 4 + 2, none⟩ = some (.int .i64 bx) ∧ w'.cell? ⟨g, k * 4 + 3, none⟩ = some (.int .i64 by_) ∧ w'.cell? ⟨g, q * 4, none⟩ = some (.int .i64 cx) ∧ w'.cell? ⟨g, q * 4 + 1, none⟩ = some (.int .i64 cy) ∧ w'.cell? ⟨g, q * 4 + 2, none⟩ = some (.int .i64 dx) ∧ w'.cell? ⟨g, q * 4 + 3, none⟩ = some (.int .i64 dy))
          (first | (refine ⟨?_, ?_, ?_, ?_, ?_, ?_, ?_, ?_⟩ <;> exact cell_sf3 (by assumption) (by assumption)) | go_keep | trivial)
          (first
            | (go_at_call 115; refine (HSB.out _).mono ?_; rintro e w4 ⟨u4, rfl, hr4, hb4⟩; obtain ⟨sa4, sc4, hu4, -⟩ := row_sliceS hr4; have hs4 : Below wr.heap.size wr w4 := (by first | exact hb4 | exact st_drew3 hb4 | exact st_al3 hb4 | exact st_dal3 hb4); have hrb4 : Row w4 wr.heap.size u4 V := hr4.base (by simp); have R4 := Lib.hid hrb4; have D1 := Lib.hid (row_lt3 hr4); (first | (have D2 := Lib.hid (row_al3 (w := wr) hr4)) | (have D2 := Lib.hid (row_al3 (w := wr.drewN _) hr4)) | skip); have a04 : w4.cell? ⟨g, k * 4, none⟩ = some (.int .i64 ax) := cell_kept a0 hs4; have a14 : w4.cell? ⟨g, k * 4 + 1, none⟩ = some (.int .i64 ay) := cell_kept a1 hs4; have a24 : w4.cell? ⟨g, k * 4 + 2, none⟩ = some (.int .i64 bx) := cell_kept a2 hs4; have a34 : w4.cell? ⟨g, k * 4 + 3, none⟩ = some (.int .i64 by_) := cell_kept a3 hs4; have c04 : w4.cell? ⟨g, q * 4, none⟩ = some (.int .i64 cx) := cell_kept c0 hs4; have c14 : w4.cell? ⟨g, q * 4 + 1, none⟩ = some (.int .i64 cy) := cell_kept c1 hs4; have c24 : w4.cell? ⟨g, q * 4 + 2, none⟩ = some (.int .i64 dx) := cell_kept c2 hs4; have c34 : w4.cell? ⟨g, q * 4 + 3, none⟩ = some (.int .i64 dy) := cell_kept c3 hs4; (first | (have z4 := fr_dal3 (w := wr) hb4) | (have z4 := fr_al3 (w := wr) hb4) | skip); (try (obtain ⟨zc4, zf4, zl4⟩ := z4)); have mg4 := Nat.ne_of_lt (cell_block_lt a04); dsimp only at mg4; have ng4 := Ne.symm mg4; have HB4 := Lib.hid hs4; clear hr4 hb4 hs4 hrb4; subst hu4))
        all_goals
          go_wp2_with fail
          go_meet
          refine ⟨_, sa4, sc4, rfl, rfl, by go_simp, ?_, ?_⟩
        all_goals first
          | exact ownsRow_setCell_other R4.out (a := ⟨wr.heap.size, 0, none⟩) D2.out _
          | exact World.ownsRow.alloc R4.out _
          | exact ownsRow_setCell_other (World.ownsRow.alloc R4.out _) (a := ⟨w4.heap.size, 0, none⟩) D1.out _
          | (repeat (first | refine Below.setCell ?_ (by first | exact Nat.le_refl _ | exact HB4.out.size) _ | exact HB4.out | exact below_al3 HB4.out _))
      case rest =>
        obtain ⟨b, ua, uc, rfl, rfl, hbx, hrx, hX⟩ := hcut
        have hz := HB.out.size
        have HB5 := Lib.hid (HB.out.trans (hX.mono hz))
        have HO5 := Lib.hid (owns_below HO.out hX)
        have HRS5 := Lib.hid (HRS.out.below hX)
        have HU5 := Lib.hid (hrx.base hz)
        have l5 := HB5.out.size
        clear hX hrx mg ng a0 a1 a2 a3 c0 c1 c2 c3 HB HO HRS
        cases S
        · have HL0 := Lib.hid (show betOk js k = false from HL.out)
          go_wp2_with fail
          have hf : allV m (betOk js) = false := by rw [← HZ.out, ← HA.out]; exact allFrom_no hlt HL0.out
          refine bodyPost_ret (v := .tuple #[.slice none 0 0, .bool false]) (by simp [results, Try.results110, go_sem]) rfl ⟨.slice none 0 0, by rw [hf], ?_, HB5.out⟩
          rw [hf]
          exact ⟨[], rfl, World.ownsRow_nil _ _ _ _, fun i hi => absurd hi (Nat.not_lt_zero i)⟩
        · have HL0 := Lib.hid (show betOk js k = true from HL.out)
          have hVU := HV2.out HL0.out
          have HVU := Lib.hid hVU
          clear hVU
          go_wp2_with (at_builtin; refine wpList_append_lies _ rfl _ _ _ rfl w.heap.size 129 i0 _ 1 24 Try.underlying155 hi0 hz0 hz1 hz2 rfl (by omega) (.slice sa k sc) k vs (by rfl) (World.ownsRow.alloc HO5.out _) ⟨wc.heap.size, 0, none⟩ 1 1 [.slice ua V.length uc] (by rfl) (by rfl) (World.news_of_block (cs := #[.slice ua V.length uc]) (t := 129) (fr := (0, 0)) (heap_alloc_new wc _)) (by simp [Value.oneCell']) (by omega) (by unfold maxLen; omega) (by omega) (by simp; omega) (wc.heap.size + 1) (by simp) ?_; intro gg cap2 w6 hown6 hgrow6 hat hgl; have HO6 := Lib.hid hown6; have HG6 := Lib.hid hgrow6; clear hown6 hgrow6)
          have hb6 : Below w.heap.size w w6 := (HB5.out.alloc l5 _).grown HG6.out (by simp; omega) (fun j hj => (World.ownsRow.lt HO5.out j hj).1)
          have hal : Below wc.heap.size wc (wc.alloc (.cells #[.slice ua V.length uc] 129)) := (Below.refl _ _).alloc (Nat.le_refl _) _
          have hrs6 : Rows w6 w.heap.size (vs ++ [.slice ua V.length uc]) js (k + 1) := by
            refine Rows.push (HRS5.out.below hal) ?_ (World.ownsRow.alloc HO5.out _) HG6.out
            rw [HV1.out, ← HVU.out]
            exact HU5.out.below hal
          have HB6 := Lib.hid hb6
          have HRS6 := Lib.hid hrs6
          clear hb6 hal hrs6 hbx hgl hat
          go_roundw
          case rel => exact ⟨k + 1, some ⟨gg, 0, none⟩, cap2, vs ++ [.slice ua V.length uc], by omega, by first | go_num | (rw [← HQ.out]), rfl, by rw [← HA.out]; exact allFrom_yes hlt HL0.out, HO6.out, HRS6.out, HB6.out⟩
          case measure => have := HQ.out; simp [intOf]; omega
    · obtain rfl : k = m := by omega
      clear hbw
      go_wp2_with fail
      have ht : allV k (betOk js) = true := by rw [← HZ.out, ← HA.out, allFrom_end]
      refine bodyPost_ret (v := .tuple #[.slice sa k sc, .bool true]) (by simp [results, Try.results110, go_sem]) rfl ⟨.slice sa k sc, by rw [ht], ?_, HB.out⟩
      rw [ht]
      exact HRS.out.srow HO.out
end Go.Proofs.Ytbmlcfdilopmgaa

/- Arches: the contracts of the program's buildArch, ArchOk, CountStones, SpanOf, RiseOf, StoneOf. -/
namespace Go.Proofs.Ytbmlcfdilopmgaa
set_option maxRecDepth 100000
open Go.ChangeShapes Go.WideShapes Go.ChangeAt Go.RowKit

theorem two_below (w : World) (cs ds : Array Value) (t u : TypeId) : Below w.heap.size w ((w.alloc (.cells cs t)).alloc (.cells ds u)) := ((Below.refl w.heap.size w).alloc (Nat.le_refl _) _).alloc (by simp) _

set_option maxHeartbeats 2000000 in
theorem buildNo (w : World) (B g cap n : Nat) (js : List Jt) (hr : JRowAt w B g cap js) (hn : js.length = n) (h : archV js = false) :
    Calls Try.prog 103 #[.agg #[.slice (some ⟨g, 0, none⟩) n cap]] w fun e w' => e = .returned (.tuple #[.agg #[.slice none 0 0, .slice none 0 0], .bool false]) ∧ Below w.heap.size w w' := by
  obtain ⟨-, hgw, hc, hm⟩ := hr.lt
  rw [hn] at hc
  unfold maxLen at hm
  have HB0 := Lib.hid (two_below w #[.slice (some ⟨g, 0, none⟩) n cap] #[.slice none 0 0, .slice none 0 0] 26 157)
  have HR := Lib.hid (hr.below HB0.out)
  have HN := Lib.hid hn
  have hp := archV_parts js
  rw [h, hn] at hp
  have HP := Lib.hid hp
  clear hr hn h hp
  by_cases h3 : n < 3
  · go_enter Try.func103, Try.ntmps103
    go_wp2_with fail
    refine bodyPost_ret (v := .tuple #[.agg #[.slice none 0 0, .slice none 0 0], .bool false]) (by simp [results, Try.results103, go_sem]) rfl ⟨rfl, ?_⟩
    repeat (first | exact HB0.out | refine Below.setCell ?_ (by simp <;> omega) _)
  by_cases h8 : 8 < n
  · go_enter Try.func103, Try.ntmps103
    go_wp2_with fail
    refine bodyPost_ret (v := .tuple #[.agg #[.slice none 0 0, .slice none 0 0], .bool false]) (by simp [results, Try.results103, go_sem]) rfl ⟨rfl, ?_⟩
    repeat (first | exact HB0.out | refine Below.setCell ?_ (by simp <;> omega) _)
  cases hg : allV (n - 1) (growV js)
  · have HG := Lib.hid hg
    clear hg
    go_enter Try.func103, Try.ntmps103
    go_wp2_with fail
    refine (rowGrows _ _ _ _ _ js HR.out HN.out (by omega) (by omega)).mono ?_
    rintro e w1 ⟨rfl, hb1⟩
    rw [HG.out]
    have c0 : w1.cell? ⟨w.heap.size + 1, 0, none⟩ = some (.slice none 0 0) := (hb1.cell (p := ⟨w.heap.size + 1, 0, none⟩) (by simp)).trans (by go_simp)
    have c1 : w1.cell? ⟨w.heap.size + 1, 1, none⟩ = some (.slice none 0 0) := (hb1.cell (p := ⟨w.heap.size + 1, 1, none⟩) (by simp)).trans (by go_simp)
    have f0 : w1.frozen? ⟨w.heap.size + 1, 0, none⟩ = false := (hb1.frozen (p := ⟨w.heap.size + 1, 0, none⟩) (by simp)).trans (by go_simp)
    have f1 : w1.frozen? ⟨w.heap.size + 1, 1, none⟩ = false := (hb1.frozen (p := ⟨w.heap.size + 1, 1, none⟩) (by simp)).trans (by go_simp)
    have HB1 := Lib.hid (HB0.out.trans (hb1.mono HB0.out.size))
    clear hb1
    go_wp2_with fail
    refine bodyPost_ret (v := .tuple #[.agg #[.slice none 0 0, .slice none 0 0], .bool false]) (by simp [results, Try.results103, go_sem, c0, c1]) rfl ⟨rfl, ?_⟩
    repeat refine Below.setCell ?_ (by show w.heap.size ≤ w.heap.size + 1; omega) _
    exact HB1.out
  · have hs : allV (n - 1) (betOk js) = false := by
      have := HP.out
      rw [hg, decide_eq_true (by omega)] at this
      simpa using this.symm
    have HG := Lib.hid hg
    have HS := Lib.hid hs
    clear hg hs
    go_enter Try.func103, Try.ntmps103
    go_wp2_with fail
    refine (rowGrows _ _ _ _ _ js HR.out HN.out (by omega) (by omega)).mono ?_
    rintro e w1 ⟨rfl, hb1⟩
    rw [HG.out]
    have c0 : w1.cell? ⟨w.heap.size + 1, 0, none⟩ = some (.slice none 0 0) := (hb1.cell (p := ⟨w.heap.size + 1, 0, none⟩) (by simp)).trans (by go_simp)
    have c1 : w1.cell? ⟨w.heap.size + 1, 1, none⟩ = some (.slice none 0 0) := (hb1.cell (p := ⟨w.heap.size + 1, 1, none⟩) (by simp)).trans (by go_simp)
    have f0 : w1.frozen? ⟨w.heap.size + 1, 0, none⟩ = false := (hb1.frozen (p := ⟨w.heap.size + 1, 0, none⟩) (by simp)).trans (by go_simp)
    have f1 : w1.frozen? ⟨w.heap.size + 1, 1, none⟩ = false := (hb1.frozen (p := ⟨w.heap.size + 1, 1, none⟩) (by simp)).trans (by go_simp)
    have HB1 := Lib.hid (HB0.out.trans (hb1.mono HB0.out.size))
    have HR1 := Lib.hid (HR.out.below hb1)
    clear hb1
    go_wp2_with fail
    refine (rowStones _ _ _ _ _ js HR1.out HN.out (by omega) (by omega)).mono ?_
    rintro e w2 ⟨sv, rfl, hsr, hb2⟩
    rw [HS.out]
    rw [HS.out] at hsr
    have hsr' : SRow w2 w1.heap.size sv [] := hsr
    obtain ⟨sa, sc, rfl, -⟩ := hsr'.slice
    have d0 := cell_kept c0 hb2
    have d1 := cell_kept c1 hb2
    have g0 : w2.frozen? ⟨w.heap.size + 1, 0, none⟩ = false := (hb2.frozen (p := ⟨w.heap.size + 1, 0, none⟩) (cell_block_lt c0)).trans f0
    have g1 : w2.frozen? ⟨w.heap.size + 1, 1, none⟩ = false := (hb2.frozen (p := ⟨w.heap.size + 1, 1, none⟩) (cell_block_lt c1)).trans f1
    have HB2 := Lib.hid (HB1.out.trans (hb2.mono HB1.out.size))
    clear hb2 hsr hsr' c0 c1 f0 f1
    go_wp2_with fail
    refine bodyPost_ret (v := .tuple #[.agg #[.slice none 0 0, .slice none 0 0], .bool false]) (by simp [results, Try.results103, go_sem, d0, d1]) rfl ⟨rfl, ?_⟩
    repeat refine Below.setCell ?_ (by show w.heap.size ≤ w.heap.size + 1; omega) _
    exact HB2.out

/-- The stones that were built, in new memory. -/
def Built (w w' : World) (js : List Jt) (n sg sc : Nat) : Prop := SRow w' w.heap.size (.slice (some ⟨sg, 0, none⟩) (n - 1) sc) (stonesTo js (n - 1)) ∧ sg < w'.heap.size ∧ n - 1 ≤ sc ∧ sc ≤ maxLen

set_option maxHeartbeats 2000000 in
theorem buildYes (w : World) (B g cap n : Nat) (js : List Jt) (hr : JRowAt w B g cap js) (hn : js.length = n) (h : archV js = true) :
    Calls Try.prog 103 #[.agg #[.slice (some ⟨g, 0, none⟩) n cap]] w fun e w' => ∃ sg sc, e = .returned (.tuple #[.agg #[.slice (some ⟨g, 0, none⟩) n cap, .slice (some ⟨sg, 0, none⟩) (n - 1) sc], .bool true]) ∧ Built w w' js n sg sc ∧ Below w.heap.size w w' := by
  obtain ⟨-, hgw, hc, hm⟩ := hr.lt
  rw [hn] at hc
  unfold maxLen at hm
  have h38 := arch_size h
  rw [hn] at h38
  have HB0 := Lib.hid (two_below w #[.slice (some ⟨g, 0, none⟩) n cap] #[.slice none 0 0, .slice none 0 0] 26 157)
  have HR := Lib.hid (hr.below HB0.out)
  have HN := Lib.hid hn
  have hp := archV_parts js
  rw [h, hn, decide_eq_true h38, Bool.true_and] at hp
  have hp' := (Bool.and_eq_true _ _).mp hp.symm
  have HG := Lib.hid hp'.1
  have HS := Lib.hid hp'.2
  obtain ⟨h3, h8⟩ := h38
  clear hr hn h hp hp'
  go_enter Try.func103, Try.ntmps103
  go_wp2_with fail
  refine (rowGrows _ _ _ _ _ js HR.out HN.out (by omega) (by omega)).mono ?_
  rintro e w1 ⟨rfl, hb1⟩
  rw [HG.out]
  have c0 : w1.cell? ⟨w.heap.size + 1, 0, none⟩ = some (.slice none 0 0) := (hb1.cell (p := ⟨w.heap.size + 1, 0, none⟩) (by simp)).trans (by go_simp)
  have c1 : w1.cell? ⟨w.heap.size + 1, 1, none⟩ = some (.slice none 0 0) := (hb1.cell (p := ⟨w.heap.size + 1, 1, none⟩) (by simp)).trans (by go_simp)
  have f0 : w1.frozen? ⟨w.heap.size + 1, 0, none⟩ = false := (hb1.frozen (p := ⟨w.heap.size + 1, 0, none⟩) (by simp)).trans (by go_simp)
  have f1 : w1.frozen? ⟨w.heap.size + 1, 1, none⟩ = false := (hb1.frozen (p := ⟨w.heap.size + 1, 1, none⟩) (by simp)).trans (by go_simp)
  have hz1 : w.heap.size + 1 + 1 ≤ w1.heap.size := by have := hb1.size; simpa using this
  have HB1 := Lib.hid (HB0.out.trans (hb1.mono HB0.out.size))
  have HR1 := Lib.hid (HR.out.below hb1)
  clear hb1
  go_wp2_with fail
  refine (rowStones _ _ _ _ _ js HR1.out HN.out (by omega) (by omega)).mono ?_
  rintro e w2 ⟨sv, rfl, hsr, hb2⟩
  rw [HS.out]
  rw [HS.out] at hsr
  have hsr' : SRow w2 w1.heap.size sv (stonesTo js (n - 1)) := hsr
  obtain ⟨sa, sc, rfl, hsc, hsm, hsg⟩ := hsr'.slice
  rw [stonesTo_length] at hsr' hsc hsg
  rw [stonesTo_length]
  obtain ⟨sg, rfl, hsgl⟩ := hsg (by omega)
  have hsg1 : w.heap.size + 1 < sg := by
    obtain ⟨vs, -, ho, -⟩ := hsr'
    have := (World.ownsRow.lt ho sg rfl).1
    omega
  have d0 := cell_kept c0 hb2
  have d1 := cell_kept c1 hb2
  have g0 : w2.frozen? ⟨w.heap.size + 1, 0, none⟩ = false := (hb2.frozen (p := ⟨w.heap.size + 1, 0, none⟩) (cell_block_lt c0)).trans f0
  have g1 : w2.frozen? ⟨w.heap.size + 1, 1, none⟩ = false := (hb2.frozen (p := ⟨w.heap.size + 1, 1, none⟩) (cell_block_lt c1)).trans f1
  have HB2 := Lib.hid (HB1.out.trans (hb2.mono HB1.out.size))
  have HSR := Lib.hid hsr'
  clear hb2 hsr hsr' c0 c1 f0 f1 hsg
  go_wp2_with fail
  have hset : ∀ (W : World), SRow W w1.heap.size (.slice (some ⟨sg, 0, none⟩) (n - 1) sc) (stonesTo js (n - 1)) → ∀ o (u : Value), SRow (W.setCell ⟨w.heap.size + 1, o, none⟩ u) w1.heap.size (.slice (some ⟨sg, 0, none⟩) (n - 1) sc) (stonesTo js (n - 1)) := by
    rintro W ⟨vs, h1, h2, h3⟩ o u
    refine ⟨vs, h1, ownsRow_setCell_other h2 (a := ⟨w.heap.size + 1, o, none⟩) (fun he => by simp [Value.ownBlock] at he; omega) _, fun i hi => ?_⟩
    have hri := h3 i hi
    exact ownsRow_setCell_other hri (a := ⟨w.heap.size + 1, o, none⟩) (fun he => by have := (World.ownsRow.lt hri _ he).1; simp at this; omega) _
  refine bodyPost_ret (v := .tuple #[.agg #[.slice (some ⟨g, 0, none⟩) n cap, .slice (some ⟨sg, 0, none⟩) (n - 1) sc], .bool true]) (by simp [results, Try.results103, go_sem, d0, d1]) rfl ⟨sg, sc, rfl, ⟨?_, ?_, hsc, hsm⟩, ?_⟩
  · refine SRow.base (B := w1.heap.size) ?_ (by omega)
    repeat refine hset _ ?_ _ _
    exact HSR.out
  · simpa using hsgl
  · repeat refine Below.setCell ?_ (by show w.heap.size ≤ w.heap.size + 1; omega) _
    exact HB2.out

theorem Built.below {w w' w2 : World} {js : List Jt} {n sg sc : Nat} (h : Built w w' js n sg sc) (hb : Below w'.heap.size w' w2) : Built w w2 js n sg sc :=
  ⟨h.1.below hb, Nat.lt_of_lt_of_le h.2.1 hb.size, h.2.2⟩


end Go.Proofs.Ytbmlcfdilopmgaa
