/- Arches: the contracts of the program's functions on a row of joints that only read: first, last, growsRight, highestInner; Lists of stones in the laws: as they come in, their size, their copy, the comparison; rows of stones of the program's own; Arches: the contracts of the program's stonesBetween and buildArch. -/
import Derived.Test.YtdaiffaedejnbaaGPlain
import Derived.Test.YtdaiffaedejnbaaGArch
import Derived.Test.YtdaiffaedejnbaaGStone
import Derived.Deep.Slices
import Derived.Test.YtdaiffaedejnbaaGJoint

/- Arches: the contracts of the program's functions on a row of joints that only read: first, last, growsRight, highestInner. -/
namespace Go.Proofs.Ytdaiffaedejnbaa
set_option maxRecDepth 100000
open Go.ChangeShapes Go.WideShapes Go.ChangeAt Go.RowKit

end Go.Proofs.Ytdaiffaedejnbaa

/- Lists of stones in the laws: as they come in, their size, their copy, the comparison; rows of stones of the program's own. -/
namespace Go.Proofs.Ytdaiffaedejnbaa
set_option maxRecDepth 100000
open Go.ChangeShapes Go.WideShapes Go.ChangeAt Go.RowKit Go.Joins Go.Deep

/-- A list's stone at an index. -/
def st (css : List (List (Int × Int))) (i : Nat) : List (Int × Int) := css.getD i []
/-! ### Rows of stones -/
/-- A slice of stones in a row of the program's own; each stone's corners too. -/
def SRow (w : World) (B : Nat) (v : Value) (css : List (List (Int × Int))) : Prop :=
  ∃ vs : List Value, vs.length = css.length ∧ w.ownsRow B 108 1 v css.length vs ∧ ∀ i, i < css.length → Row w B (vs.getD i (.slice none 0 0)) (st css i)

theorem row_slice' {w : World} {B : Nat} {v : Value} {cs : List (Int × Int)} (h : Row w B v cs) : ∃ a cap, v = .slice a cs.length cap ∧ cs.length ≤ maxLen := by
  rcases h.cases with ⟨rfl, rfl⟩ | ⟨g, cap, rfl, -, -, -, h1, h2⟩
  · exact ⟨_, _, rfl, Nat.zero_le _⟩
  · exact ⟨_, _, rfl, Nat.le_trans h1 h2⟩
theorem SRow.below {w w' : World} {B : Nat} {v : Value} {css : List (List (Int × Int))} (h : SRow w B v css) (hb : Below w.heap.size w w') : SRow w' B v css := by
  obtain ⟨vs, h1, h2, h3⟩ := h
  exact ⟨vs, h1, owns_below h2 hb, fun i hi => (h3 i hi).below hb⟩
theorem SRow.base {w : World} {B B' : Nat} {v : Value} {css : List (List (Int × Int))} (h : SRow w B v css) (hb : B' ≤ B) : SRow w B' v css := by
  obtain ⟨vs, h1, h2, h3⟩ := h
  exact ⟨vs, h1, owns_base h2 hb, fun i hi => (h3 i hi).base hb⟩
/-- The row's value. -/
theorem SRow.slice {w : World} {B : Nat} {v : Value} {css : List (List (Int × Int))} (h : SRow w B v css) : ∃ a cap, v = .slice a css.length cap ∧ css.length ≤ cap ∧ cap ≤ maxLen ∧ (0 < css.length → ∃ g, a = some ⟨g, 0, none⟩ ∧ g < w.heap.size) := by
  obtain ⟨vs, -, h2, -⟩ := h
  rcases h2.2 with ⟨rfl, hz⟩ | ⟨g, cap, cur, rfl, hB, hg, hc, hm, -⟩
  · exact ⟨none, 0, by rw [hz], by omega, Nat.zero_le _, fun h => by omega⟩
  · exact ⟨_, cap, rfl, hc, hm, fun _ => ⟨g, rfl, (Array.getElem?_eq_some_iff.1 hg).1⟩⟩
/-- The cell of a stone, and its corners. -/
theorem SRow.at {w : World} {B g n cap : Nat} {css : List (List (Int × Int))} (h : SRow w B (.slice (some ⟨g, 0, none⟩) n cap) css) (hn : css.length = n) (k : Nat) (hk : k < n) :
    ∃ a m c, w.cell? ⟨g, k, none⟩ = some (.slice a m c) ∧ Row w B (.slice a m c) (st css k) := by
  obtain ⟨vs, h1, h2, h3⟩ := h
  obtain ⟨a, c, hv, -⟩ := row_slice' (h3 k (by omega))
  refine ⟨a, _, c, ?_, by have := h3 k (by omega); rw [hv] at this; exact this⟩
  rw [hn] at h2
  rw [World.ownsRow.cellAt h2 k (by omega), ← hv, List.getD_eq_getElem?_getD, List.getElem?_eq_getElem (by omega)]
  rfl

theorem made_zeroS (n : Nat) : (madeCells (Value.agg #[.slice none 0 0]).cells (n * 1)).toList = List.replicate n (Value.slice none 0 0) := by
  unfold madeCells
  rw [Array.toList_map]
  refine List.ext_getElem (by simp) fun i h1 h2 => ?_
  rw [List.getElem_map, List.getElem_replicate]
  simp [Value.cells, Nat.mod_one]

theorem Try.infoSt : (Try.prog.info? 108).map (fun i => (i.zero, i.size, i.bytes)) = some (some (.agg #[.slice none 0 0]), 1, 24) := by kernel_rfl

end Go.Proofs.Ytdaiffaedejnbaa

/- Arches: the contracts of the program's stonesBetween and buildArch. -/
namespace Go.Proofs.Ytdaiffaedejnbaa
set_option maxRecDepth 100000
open Go.ChangeShapes Go.WideShapes Go.ChangeAt Go.RowKit

/-- The first k stones of an arch. -/
def stonesTo (js : List Jt) (k : Nat) : List (List (Int × Int)) := (List.range k).map fun i => betw (jt js i) (jt js (i + 1))
theorem stonesTo_length (js : List Jt) (k : Nat) : (stonesTo js k).length = k := by simp [stonesTo]
theorem st_stonesTo (js : List Jt) (k i : Nat) (h : i < k) : st (stonesTo js k) i = betw (jt js i) (jt js (i + 1)) := by
  unfold st stonesTo
  rw [List.getD_eq_getElem?_getD, List.getElem?_eq_getElem (by simp; exact h)]
  simp

/-- Rows of two types have two blocks. -/
theorem own_other {w : World} {B1 B2 s1 s2 n1 n2 : Nat} {e1 e2 : TypeId} {v1 v2 : Value} {xs1 xs2 : List Value} (h1 : w.ownsRow B1 e1 s1 v1 n1 xs1) (h2 : w.ownsRow B2 e2 s2 v2 n2 xs2) (he : e1 ≠ e2) : v1.ownBlock = none ∨ v1.ownBlock ≠ v2.ownBlock := by
  rcases h1.2 with ⟨rfl, -⟩ | ⟨g1, c1, cur1, rfl, -, hg1, -⟩
  · exact .inl rfl
  · right
    rcases h2.2 with ⟨rfl, -⟩ | ⟨g2, c2, cur2, rfl, -, hg2, -⟩
    · simp [Value.ownBlock]
    · intro h
      simp [Value.ownBlock] at h
      subst h
      rw [hg1] at hg2
      simp at hg2
      exact he hg2.2

/-- The rows of the first k stones. -/
def Rows (w : World) (H : Nat) (vs : List Value) (js : List Jt) (k : Nat) : Prop := vs.length = k ∧ ∀ i, i < k → Row w H (vs.getD i (.slice none 0 0)) (betw (jt js i) (jt js (i + 1)))
theorem Rows.below {w w' : World} {H k : Nat} {vs : List Value} {js : List Jt} (h : Rows w H vs js k) (hb : Below w.heap.size w w') : Rows w' H vs js k := ⟨h.1, fun i hi => (h.2 i hi).below hb⟩
theorem Rows.push {w w' : World} {H k : Nat} {vs : List Value} {js : List Jt} {sv u : Value} (h : Rows w H vs js k) (hu : Row w H u (betw (jt js k) (jt js (k + 1)))) (ho : w.ownsRow H 108 1 sv k vs) (hg : w.grownBy w' sv.ownBlock) : Rows w' H (vs ++ [u]) js (k + 1) := by
  refine ⟨by rw [List.length_append, h.1]; rfl, fun i hi => ?_⟩
  have hk : ∀ (v : Value) (cs : List (Int × Int)), Row w H v cs → Row w' H v cs := fun v cs hr => World.ownsRow.kept hr hg (own_other hr ho (by decide))
  by_cases hik : i < k
  · rw [List.getD_eq_getElem?_getD, List.getElem?_append_left (by rw [h.1]; exact hik), ← List.getD_eq_getElem?_getD]
    exact hk _ _ (h.2 i hik)
  · obtain rfl : i = k := by omega
    rw [List.getD_eq_getElem?_getD, List.getElem?_append_right (by rw [h.1]; omega), h.1, Nat.sub_self]
    exact hk _ _ hu
theorem Rows.srow {w : World} {H k : Nat} {vs : List Value} {js : List Jt} {sv : Value} (h : Rows w H vs js k) (ho : w.ownsRow H 108 1 sv k vs) : SRow w H sv (stonesTo js k) := by
  refine ⟨vs, by rw [h.1, stonesTo_length], by rw [stonesTo_length]; exact ho, fun i hi => ?_⟩
  rw [stonesTo_length] at hi
  rw [st_stonesTo js k i hi]
  exact h.2 i hi

theorem st_drew3 {w w' : World} {n : Nat} (h : Below (w.drewN n).heap.size (w.drewN n) w') : Below w.heap.size w w' := (below_drewN (Below.refl w.heap.size w) n).trans h
theorem st_al3 {w w' : World} {o : Obj} (h : Below (w.alloc o).heap.size (w.alloc o) w') : Below w.heap.size w w' := ((Below.refl w.heap.size w).alloc (Nat.le_refl _) o).trans (h.mono (by simp))
theorem st_dal3 {w w' : World} {n : Nat} {o : Obj} (h : Below ((w.drewN n).alloc o).heap.size ((w.drewN n).alloc o) w') : Below w.heap.size w w' := (below_drewN (Below.refl w.heap.size w) n).trans (st_al3 h)
theorem cell_sf3 {w : World} {b o c d : Nat} {v u : Value} (h : w.cell? ⟨b, o, none⟩ = some v) (hb : b ≠ c) : (w.setCell ⟨c, d, none⟩ u).cell? ⟨b, o, none⟩ = some v := by
  rw [World.cell?_of_block (w := w) (Below.heap_setCell w ⟨c, d, none⟩ u b (fun e => hb e))]; exact h
theorem below_al3 {a w : World} (h : Below a.heap.size a w) (o : Obj) : Below a.heap.size a (w.alloc o) := h.alloc h.size o
theorem row_al3 {w w' : World} {o : Obj} {u : Value} {cs : List (Int × Int)} (h : Row w' (w.alloc o).heap.size u cs) : u.ownBlock ≠ some w.heap.size := fun he => by
  have := (World.ownsRow.lt h _ he).1
  simp at this
  omega
theorem row_lt3 {w' : World} {B : Nat} {u : Value} {cs : List (Int × Int)} (h : Row w' B u cs) : u.ownBlock ≠ some w'.heap.size := fun he => by
  have := (World.ownsRow.lt h _ he).2
  omega
theorem fr_al3 {w w' : World} {v : Value} {t : TypeId} (h : Below (w.alloc (.cells #[v] t)).heap.size (w.alloc (.cells #[v] t)) w') : w'.cell? ⟨w.heap.size, 0, none⟩ = some v ∧ w'.frozen? ⟨w.heap.size, 0, none⟩ = false ∧ w.heap.size < w'.heap.size :=
  ⟨cell_kept (w := w.alloc (.cells #[v] t)) (by go_simp) h, (h.frozen (p := ⟨w.heap.size, 0, none⟩) (by simp)).trans (by go_simp), by have := h.size; simp at this; omega⟩
theorem fr_dal3 {w w' : World} {n : Nat} {v : Value} {t : TypeId} (h : Below ((w.drewN n).alloc (.cells #[v] t)).heap.size ((w.drewN n).alloc (.cells #[v] t)) w') : w'.cell? ⟨w.heap.size, 0, none⟩ = some v ∧ w'.frozen? ⟨w.heap.size, 0, none⟩ = false ∧ w.heap.size < w'.heap.size := fr_al3 (w := w.drewN n) h

theorem Try.infoSn : (Try.prog.info? 108).map (fun i => (i.zero, i.size, i.bytes)) = some (some (.agg #[.slice none 0 0]), 1, 24) := by kernel_rfl

/-- The stones of an arch were handed back, in new memory; what was there is as it was. -/
def SbAns (js : List Jt) (m : Nat) (w : World) (e : Ending) (w' : World) : Prop :=
  ∃ sv, e = .returned (.tuple #[sv, .bool (allV m (betOk js))]) ∧ SRow w' w.heap.size sv (if allV m (betOk js) then stonesTo js m else []) ∧ Below w.heap.size w w'


end Go.Proofs.Ytdaiffaedejnbaa
