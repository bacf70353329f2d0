/- The contracts of StoneText, the program's and the model's. -/
import Derived.Test.YtggkodhfhhjihaaDoorStoneI
import Derived.Test.YtggkodhfhhjihaaDoorStoneS
import Derived.Test.YtggkodhfhhjihaaDoorPtTextC
import Derived.Test.YtggkodhfhhjihaaDoorShelf
import Derived.Lib.Join
namespace Go.Proofs.YtggkodhfhhjihaaDoor
set_option maxRecDepth 100000
open Go.ChangeShapes Go.WideShapes Go.ChangeAt Go.RowKit

/-- The texts of points, joined by a space. -/
def joinB (l : List ByteArray) : ByteArray := ⟨(Lib.join (l.map (·.data.toList)) [32]).toArray⟩
def textB (cs : List (Int × Int)) : List ByteArray := cs.map fun p => ptTextV p.1 p.2
/-- What StoneText answers. -/
def stTextV (cs : List (Int × Int)) : ByteArray := if stoneV cs then joinB (textB cs) else ⟨#[]⟩
theorem strOf_toList (b : ByteArray) : strOf b.data.toList = b := by cases b; simp
theorem nil_app (T : ByteArray) : (⟨#[]⟩ : ByteArray) ++ T = T := by cases T; rw [ByteArray.mk_append_mk]; simp
theorem joinB_nil : joinB [] = ⟨#[]⟩ := rfl
theorem joinB_one (x : ByteArray) : joinB [x] = x := by
  unfold joinB
  rw [List.map_cons, List.map_nil, Lib.join_one]
theorem joinTail_snoc (sep : List UInt8) (r : List (List UInt8)) (x : List UInt8) : Lib.joinTail sep (r ++ [x]) = Lib.joinTail sep r ++ (sep ++ x) := by simp [Lib.joinTail]
theorem joinB_snoc (l : List ByteArray) (x : ByteArray) (h : l ≠ []) : joinB (l ++ [x]) = joinB l ++ strOf [32] ++ x := by
  cases l with
  | nil => exact absurd rfl h
  | cons y r =>
    unfold joinB
    rw [List.cons_append, List.map_cons, List.map_append, List.map_cons, List.map_nil, List.map_cons, Lib.join_cons, Lib.join_cons, joinTail_snoc, ← List.append_assoc]
    show strOf _ = strOf _ ++ strOf [32] ++ x
    rw [← str_append, ← str_append y.data.toList, ← str_append [32], strOf_toList x]
    simp only [ByteArray.append_assoc]
theorem lens_le (l : List ByteArray) (c : Nat) (h : ∀ x ∈ l, x.size ≤ c) : Lib.lens (l.map (·.data.toList)) ≤ c * l.length := by
  induction l with
  | nil => simp [Lib.lens]
  | cons y r ih =>
    have h1 := h y (by simp)
    have h2 := ih fun x hx => h x (by simp [hx])
    simp only [Lib.lens, List.map_cons, List.sum_cons, List.length_cons] at h2 ⊢
    have h3 : y.data.toList.length = y.size := by cases y; simp [ByteArray.size]
    rw [Nat.mul_succ]
    omega
theorem join_bd (l : List ByteArray) (h : ∀ x ∈ l, x.size ≤ 41) : (Lib.join (l.map (·.data.toList)) [32]).length ≤ 42 * l.length := by
  have hl := lens_le l 41 h
  cases l with
  | nil => simp [Lib.join_nil]
  | cons y r =>
    rw [List.map_cons, Lib.join_length]
    rw [List.map_cons] at hl
    simp only [List.length_cons, List.length_map, List.length_nil] at hl ⊢
    omega
theorem joinB_size (l : List ByteArray) (h : ∀ x ∈ l, x.size ≤ 41) : (joinB l).size ≤ 42 * l.length := by
  have := join_bd l h
  unfold joinB
  simpa [ByteArray.size] using this
theorem textB_size (cs : List (Int × Int)) : ∀ x ∈ textB cs, x.size ≤ 41 := by
  intro x hx
  obtain ⟨p, -, rfl⟩ := List.mem_map.1 hx
  exact ptText_size _ _
theorem textB_next (cs : List (Int × Int)) (k : Nat) (h : k < cs.length) : textB (cs.take (k + 1)) = textB (cs.take k) ++ [ptTextV (pt cs k).1 (pt cs k).2] := by
  unfold textB
  have : pt cs k = cs[k] := by unfold pt; rw [List.getD_eq_getElem?_getD, List.getElem?_eq_getElem h]; rfl
  rw [List.take_succ_eq_append_getElem h, List.map_append, this]
  rfl
theorem textB_len (cs : List (Int × Int)) (k : Nat) (h : k ≤ cs.length) : (textB (cs.take k)).length = k := by simp [textB]; omega


theorem Tryd.infoStr : (Tryd.prog.info? 9).map (fun i => (i.zero, i.size, i.bytes)) = some (some (.string ByteArray.empty), 1, 16) := by kernel_rfl
/-- The texts as far as they have been written. -/
def filled (cs : List (Int × Int)) (k : Nat) : List Value := (textB (cs.take k)).map Value.string ++ List.replicate (cs.length - k) (.string ByteArray.empty)
theorem made_str (cs : List (Int × Int)) : (madeCells (Value.string ByteArray.empty).cells (cs.length * 1)).toList = filled cs 0 := by
  rw [Nat.mul_one]
  exact toList_madeCells_one _ _
theorem filled_at (cs : List (Int × Int)) (k : Nat) (h : k < cs.length) : (filled cs k)[k]? = some (.string ByteArray.empty) := by
  unfold filled
  rw [List.getElem?_append_right (by simp [textB_len cs k (by omega)]), List.length_map, textB_len cs k (by omega), Nat.sub_self, List.getElem?_replicate, if_pos (by omega)]
theorem filled_next (cs : List (Int × Int)) (k : Nat) (h : k < cs.length) : (filled cs k).set k (.string (ptTextV (pt cs k).1 (pt cs k).2)) = filled cs (k + 1) := by
  have hl := textB_len cs k (by omega)
  unfold filled
  rw [show cs.length - k = (cs.length - (k + 1)) + 1 by omega, List.replicate_succ, List.set_append_right _ _ (by simp [hl]), List.length_map, hl, Nat.sub_self, List.set_cons_zero, textB_next cs k h, List.map_append, List.append_assoc]
  rfl
theorem filled_end (cs : List (Int × Int)) : filled cs cs.length = (textB cs).map Value.string := by simp [filled]

end Go.Proofs.YtggkodhfhhjihaaDoor
