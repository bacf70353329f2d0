/- Straight arches, plainly: the ends of the joints; a line through two of them that passes all joints. -/
import Derived.Test.YtoholdpobkgffaaArchQ
import Derived.Test.YtoholdpobkgffaaStoneC
namespace Go.Proofs.Ytoholdpobkgffaa
set_option maxRecDepth 100000

/-- The ends of all joints. -/
def endsJ (js : List Jt) : List (Int × Int) := js.flatMap fun j => [j.1, j.2]
theorem endsJ_append (a b : List Jt) : endsJ (a ++ b) = endsJ a ++ endsJ b := by unfold endsJ; rw [List.flatMap_append]
theorem endsJ_length (js : List Jt) : (endsJ js).length = 2 * js.length := by
  induction js with
  | nil => rfl
  | cons j js ih => show ((j.1 :: j.2 :: endsJ js).length) = _; simp [ih]; omega
/-- The ends of the first k joints. -/
def endsTo (js : List Jt) (k : Nat) : List (Int × Int) := endsJ (js.take k)
theorem endsTo_zero (js : List Jt) : endsTo js 0 = [] := rfl
theorem endsTo_all (js : List Jt) : endsTo js js.length = endsJ js := by unfold endsTo; rw [List.take_length]
theorem endsTo_next {js : List Jt} {k : Nat} (h : k < js.length) : endsTo js (k + 1) = endsTo js k ++ [(jt js k).1, (jt js k).2] := by
  unfold endsTo
  rw [List.take_succ_eq_append_getElem h, endsJ_append, ← jt_get h]
  rfl
theorem endsTo_length {js : List Jt} {k : Nat} (h : k ≤ js.length) : (endsTo js k).length = 2 * k := by unfold endsTo; rw [endsJ_length, List.length_take]; omega
theorem endsJ_mem {js : List Jt} {p : Int × Int} (h : p ∈ endsJ js) : ∃ i, i < js.length ∧ (p = (jt js i).1 ∨ p = (jt js i).2) := by
  unfold endsJ at h
  obtain ⟨j, hj, hp⟩ := List.mem_flatMap.1 h
  obtain ⟨i, hi, rfl⟩ := List.mem_iff_getElem.1 hj
  refine ⟨i, hi, ?_⟩
  rw [jt_get hi]
  simpa using hp
theorem ends_ok {js : List Jt} (h : archV js = true) {i : Nat} (hi : i < 2 * js.length) : okP (pt (endsJ js) i).1 (pt (endsJ js) i).2 = true := by
  have hl : i < (endsJ js).length := by rw [endsJ_length]; exact hi
  have hm : pt (endsJ js) i ∈ endsJ js := by
    unfold pt
    rw [List.getD_eq_getElem?_getD, List.getElem?_eq_getElem hl]
    exact List.getElem_mem hl
  obtain ⟨k, hk, e | e⟩ := endsJ_mem hm
  · rw [e]; exact (arch_ok h hk).1
  · rw [e]; exact (arch_ok h hk).2
/-- The line from p to q passes joint m. -/
def beV (p q : Int × Int) (js : List Jt) (m : Nat) : Bool := decide (sid p q (jt js m).1 ≤ 0) && decide (0 ≤ sid p q (jt js m).2)
/-- It passes all joints. -/
def passAll (p q : Int × Int) (js : List Jt) : Bool := allV js.length (beV p q js)
/-- The ends i and k give no such line. -/
def pairNo (js : List Jt) (i k : Nat) : Bool := !(decide ((pt (endsJ js) i).1 < (pt (endsJ js) k).1) && passAll (pt (endsJ js) i) (pt (endsJ js) k) js)
/-- End i gives no such line. -/
def rowNo (js : List Jt) (i : Nat) : Bool := allV (2 * js.length) (pairNo js i)
/-- IsStraight's answer. -/
def strV (js : List Jt) : Bool := archV js && !(allV (2 * js.length) (rowNo js))
theorem strV_no {js : List Jt} (h : archV js = false) : strV js = false := by unfold strV; rw [h]; rfl
theorem strV_yes {js : List Jt} (h : archV js = true) {b : Bool} (k : allV (2 * js.length) (rowNo js) = b) : strV js = !b := by unfold strV; rw [h, k]; rfl
theorem flat_two (cs : List (Int × Int)) (p q : Int × Int) : flat (cs ++ [p, q]) = flat cs ++ [.int .i64 p.1, .int .i64 p.2, .int .i64 q.1, .int .i64 q.2] := by rw [flat_append]; rfl
end Go.Proofs.Ytoholdpobkgffaa
