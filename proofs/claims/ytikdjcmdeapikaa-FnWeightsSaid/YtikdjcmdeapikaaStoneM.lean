/- The contracts of MirrorStone, the program's and the model's. -/
import Derived.Test.YtikdjcmdeapikaaStoneI
import Derived.Test.YtikdjcmdeapikaaStoneS
import Derived.Test.YtikdjcmdeapikaaStoneL
import Derived.Deep.AppendLies
namespace Go.Proofs.Ytikdjcmdeapikaa
open Go.ChangeShapes Go.WideShapes Go.ChangeAt Go.RowKit

/-- The image of a corner. -/
def mirP (x : Int) (p : Int × Int) : Int × Int := (mirX p.1 p.2 x, p.2)
/-- The images of the first k corners, in reverse order. -/
def mirUp (cs : List (Int × Int)) (x : Int) (k : Nat) : List (Int × Int) := ((cs.take k).map (mirP x)).reverse
/-- The images of all corners, in reverse order. -/
def mirL (cs : List (Int × Int)) (x : Int) : List (Int × Int) := (cs.map (mirP x)).reverse
/-- What MirrorStone answers: the corners. -/
def mirV (cs : List (Int × Int)) (x : Int) : List (Int × Int) := if stoneV cs then (if stoneV (mirL cs x) then mirL cs x else []) else []
theorem mirL_length (cs : List (Int × Int)) (x : Int) : (mirL cs x).length = cs.length := by simp [mirL]
theorem mirUp_all (cs : List (Int × Int)) (x : Int) : mirUp cs x cs.length = mirL cs x := by simp [mirUp, mirL]
theorem pt_get {cs : List (Int × Int)} {k : Nat} (h : k < cs.length) : pt cs k = cs[k] := by unfold pt; rw [List.getD_eq_getElem?_getD, List.getElem?_eq_getElem h]; rfl
theorem mirUp_next (cs : List (Int × Int)) (x : Int) (k : Nat) (h : k < cs.length) : mirUp cs x (k + 1) = mirP x (pt cs k) :: mirUp cs x k := by
  unfold mirUp
  rw [List.take_succ_eq_append_getElem h, List.map_append, List.reverse_append, pt_get h]
  rfl
theorem mirUp_length (cs : List (Int × Int)) (x : Int) (k : Nat) (h : k ≤ cs.length) : (mirUp cs x k).length = k := by simp [mirUp]; omega
/-- The row as far as it has been filled from its end. -/
def flatUp (cs : List (Int × Int)) (x : Int) (k : Nat) : List Value := List.replicate ((cs.length - k) * 2) (.int .i64 0) ++ flat (mirUp cs x k)
theorem flatUp_zero (cs : List (Int × Int)) (x : Int) : flatUp cs x 0 = List.replicate (cs.length * 2) (.int .i64 0) := by simp [flatUp, mirUp, flat_nil]
theorem flatUp_end (cs : List (Int × Int)) (x : Int) : flatUp cs x cs.length = flat (mirL cs x) := by simp [flatUp, mirUp_all]
theorem flatUp_at (cs : List (Int × Int)) (x : Int) (k : Nat) (h : k < cs.length) : (flatUp cs x k)[(cs.length - 1 - k) * 2]? = some (.int .i64 0) ∧ (flatUp cs x k)[(cs.length - 1 - k) * 2 + 1]? = some (.int .i64 0) := by
  unfold flatUp
  rw [List.getElem?_append_left (by simp; omega), List.getElem?_append_left (by simp; omega), List.getElem?_replicate, List.getElem?_replicate, if_pos (by omega), if_pos (by omega)]
  exact ⟨rfl, rfl⟩
theorem flatUp_next (cs : List (Int × Int)) (x : Int) (k : Nat) (h : k < cs.length) :
    ((flatUp cs x k).set ((cs.length - 1 - k) * 2) (.int .i64 (mirP x (pt cs k)).1)).set ((cs.length - 1 - k) * 2 + 1) (.int .i64 (mirP x (pt cs k)).2) = flatUp cs x (k + 1) := by
  unfold flatUp
  rw [show (cs.length - k) * 2 = (cs.length - 1 - k) * 2 + 2 by omega, ← List.replicate_append_replicate, List.append_assoc]
  have hl : (List.replicate ((cs.length - 1 - k) * 2) (Value.int .i64 0)).length = (cs.length - 1 - k) * 2 := by simp
  rw [List.set_append_right _ _ (by omega), hl, Nat.sub_self, List.set_append_right _ _ (by omega), hl, show (cs.length - 1 - k) * 2 + 1 - (cs.length - 1 - k) * 2 = 1 by omega]
  rw [mirUp_next cs x k h, flat_cons, show cs.length - (k + 1) = cs.length - 1 - k by omega]
  rfl
/-- The model's list after the corners from m on. -/
def mirTo (cs : List (Int × Int)) (x : Int) (m : Nat) : List (Int × Int) := ((cs.drop m).map (mirP x)).reverse
theorem mirTo_all (cs : List (Int × Int)) (x : Int) : mirTo cs x 0 = mirL cs x := by simp [mirTo, mirL]
theorem mirTo_end (cs : List (Int × Int)) (x : Int) : mirTo cs x cs.length = [] := by simp [mirTo]
theorem mirTo_next (cs : List (Int × Int)) (x : Int) (m : Nat) (h : m < cs.length) : mirTo cs x m = mirTo cs x (m + 1) ++ [mirP x (pt cs m)] := by
  unfold mirTo
  rw [List.drop_eq_getElem_cons h, List.map_cons, List.reverse_cons, pt_get h]
theorem mirTo_length (cs : List (Int × Int)) (x : Int) (m : Nat) : (mirTo cs x m).length = cs.length - m := by simp [mirTo]

theorem owns_after {w w' : World} {B n size k : Nat} {e : TypeId} {v : Value} {xs : List Value} (h : w.ownsRow B e size v n xs) (hb : Below (w.drewN k).heap.size (w.drewN k) w') : w'.ownsRow B e size v n xs := owns_below (w := w.drewN k) h hb
theorem owns_lt {w : World} {B g cap n size : Nat} {e : TypeId} {xs : List Value} (h : w.ownsRow B e size (.slice (some ⟨g, 0, none⟩) n cap) n xs) : B ≤ g ∧ g < w.heap.size := by
  rcases h.2 with ⟨h', _⟩ | ⟨g', cap', cur, h', hB, hg, _⟩
  · simp at h'
  · simp at h'; obtain ⟨rfl, -⟩ := h'; exact ⟨hB, (Array.getElem?_eq_some_iff.1 hg).1⟩
/-- The image of a stone was handed back, in new memory; what was there is as it was. -/
def MirAns (cs : List (Int × Int)) (x : Int) (w : World) (e : Ending) (w' : World) : Prop :=
  ∃ u, e = .returned (.agg #[u]) ∧ Row w' w.heap.size u (mirV cs x) ∧ Below w.heap.size w w'

end Go.Proofs.Ytikdjcmdeapikaa
