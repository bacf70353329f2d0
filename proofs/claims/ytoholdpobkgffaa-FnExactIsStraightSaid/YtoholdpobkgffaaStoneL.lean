/- Stones in the laws: a stone as it comes in, its size, its copy, the comparison of stones. -/
import Derived.Test.YtoholdpobkgffaaStoneC
import Derived.Test.YtoholdpobkgffaaPtS
namespace Go.Proofs.Ytoholdpobkgffaa
set_option maxRecDepth 100000
open Go.ChangeShapes Go.WideShapes Go.ChangeAt Go.RowKit Go.Joins Go.Deep


theorem ad1 (a : Addr) : (⟨a.block, a.off + 1, none⟩ : Addr) = a.add 1 := rfl
theorem adb (a : Addr) (i : Nat) : (a.add i).block = a.block := by unfold Addr.add; split <;> rfl

/-- Points as far as they have been copied. -/
def flatTo (cs : List (Int × Int)) (k : Nat) : List Value := flat (cs.take k) ++ List.replicate ((cs.length - k) * 2) (.int .i64 0)
theorem flatTo_zero (cs : List (Int × Int)) : flatTo cs 0 = List.replicate (cs.length * 2) (.int .i64 0) := by simp [flatTo, flat_nil]
theorem flatTo_end (cs : List (Int × Int)) : flatTo cs cs.length = flat cs := by simp [flatTo]
theorem flatTo_next (cs : List (Int × Int)) (k : Nat) (h : k < cs.length) : ((flatTo cs k).set (k * 2) (.int .i64 (pt cs k).1)).set (k * 2 + 1) (.int .i64 (pt cs k).2) = flatTo cs (k + 1) := by
  have hl : (flat (cs.take k)).length = k * 2 := by rw [flat_length, List.length_take]; omega
  unfold flatTo
  rw [show (cs.length - k) * 2 = (cs.length - (k + 1)) * 2 + 1 + 1 by omega, List.replicate_succ, List.replicate_succ]
  rw [List.set_append_right _ _ (by omega), hl, Nat.sub_self, List.set_cons_zero, List.set_append_right _ _ (by omega), hl, show k * 2 + 1 - k * 2 = 1 by omega, List.set_cons_succ, List.set_cons_zero]
  rw [List.take_succ_eq_append_getElem h, flat_append, List.append_assoc]
  have : pt cs k = cs[k] := by unfold pt; rw [List.getD_eq_getElem?_getD, List.getElem?_eq_getElem h]; rfl
  rw [this]
  rfl

theorem flatTo_at (cs : List (Int × Int)) (k : Nat) (h : k < cs.length) : (flatTo cs k)[k * 2]? = some (.int .i64 0) ∧ (flatTo cs k)[k * 2 + 1]? = some (.int .i64 0) := by
  have hl : (flat (cs.take k)).length = k * 2 := by rw [flat_length, List.length_take]; omega
  unfold flatTo
  rw [List.getElem?_append_right (by omega), List.getElem?_append_right (by omega), hl, List.getElem?_replicate, List.getElem?_replicate, if_pos (by omega), if_pos (by omega)]
  exact ⟨rfl, rfl⟩

theorem made_zero (n : Nat) : (madeCells (Value.agg #[.int .i64 0, .int .i64 0]).cells n).toList = List.replicate n (Value.int .i64 0) := by
  unfold madeCells
  rw [Array.toList_map]
  refine List.ext_getElem (by simp) fun i h1 h2 => ?_
  rw [List.getElem_map, List.getElem_replicate]
  have : i % 2 = 0 ∨ i % 2 = 1 := by omega
  simp [Value.cells]
  rcases this with h | h <;> simp [h]

theorem Try.infoPt : (Try.prog.info? 36).map (fun i => (i.zero, i.size, i.bytes)) = some (some (.agg #[.int .i64 0, .int .i64 0]), 2, 16) := by kernel_rfl


end Go.Proofs.Ytoholdpobkgffaa
