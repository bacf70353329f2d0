/- Marks in the corners of a stone: what is written is read again. -/
import Derived.Test.YtggkodhfhhjihaaStoneL
namespace Go.Proofs.Ytggkodhfhhjihaa
open Go.ChangeShapes Go.WideShapes Go.ChangeAt Go.RowKit

/-- The numbers from k on, two for each point. -/
def marks (k : Int) : Nat → List (Int × Int)
  | 0 => []
  | n + 1 => (k, k + 1) :: marks (k + 2) n
theorem marks_length (k : Int) (n : Nat) : (marks k n).length = n := by
  induction n generalizing k with
  | zero => rfl
  | succ n ih => simp [marks, ih]
theorem marks_at (k : Int) (n i : Nat) (h : i < n) : pt (marks k n) i = (k + 2 * i, k + 2 * i + 1) := by
  induction n generalizing k i with
  | zero => omega
  | succ n ih =>
    cases i with
    | zero => simp [marks, pt]
    | succ i =>
      have := ih (k + 2) i (by omega)
      unfold pt at this ⊢
      simp only [marks, List.getD_cons_succ]
      rw [this, show k + 2 + 2 * (i : Int) = k + 2 * ((i + 1 : Nat) : Int) by omega]
theorem marks_next (k : Int) (n : Nat) : marks k (n + 1) = marks k n ++ [(k + 2 * n, k + 2 * n + 1)] := by
  induction n generalizing k with
  | zero => simp [marks]
  | succ n ih =>
    rw [marks, ih (k + 2), marks, List.cons_append]
    rw [show k + 2 + 2 * (n : Int) = k + 2 * ((n + 1 : Nat) : Int) by omega]

/-- The cells as far as they have been marked. -/
def flatMk (cs : List (Int × Int)) (k : Int) (i : Nat) : List (Int × Int) := marks k i ++ cs.drop i
theorem flatMk_zero (cs : List (Int × Int)) (k : Int) : flatMk cs k 0 = cs := rfl
theorem flatMk_end (cs : List (Int × Int)) (k : Int) : flatMk cs k cs.length = marks k cs.length := by simp [flatMk]
theorem flatMk_length (cs : List (Int × Int)) (k : Int) (i : Nat) (h : i ≤ cs.length) : (flatMk cs k i).length = cs.length := by simp [flatMk, marks_length]; omega
theorem flat_set (cs : List (Int × Int)) (i : Nat) (x y : Int) (h : i < cs.length) : ((flat cs).set (i * 2) (.int .i64 x)).set (i * 2 + 1) (.int .i64 y) = flat (cs.set i (x, y)) := by
  induction cs generalizing i with
  | nil => simp at h
  | cons p cs ih =>
    cases i with
    | zero => rfl
    | succ i =>
      have := ih i (by simpa using h)
      rw [flat_cons, show (i + 1) * 2 = i * 2 + 1 + 1 by omega, List.set_cons_succ, List.set_cons_succ, List.set_cons_succ, List.set_cons_succ, List.set_cons_succ, flat_cons, this]
theorem flatMk_set (cs : List (Int × Int)) (k : Int) (i : Nat) (h : i < cs.length) : (flatMk cs k i).set i (k + 2 * i, k + 2 * i + 1) = flatMk cs k (i + 1) := by
  unfold flatMk
  rw [List.set_append_right _ _ (by simp [marks_length]), marks_length, Nat.sub_self, List.drop_eq_getElem_cons h, List.set_cons_zero, marks_next, List.append_assoc]
  rfl

set_option maxHeartbeats 1000000 in
theorem markPointS (w : World) (B g cap n : Nat) (cs : List (Int × Int)) (hr : RowAt w B g cap cs) (hn : cs.length = n) (hm : n ≤ 1048576) :
    Calls Try.prog 37 #[.slice (some ⟨g, 0, none⟩) n cap, .int .i64 1] w fun e w' => e = .returned (.int .i64 (1 + 2 * n)) ∧ RowAt w' B g cap (marks 1 n) ∧ w.grownBy w' (some g) := by
  have HR := Lib.hid hr
  obtain ⟨-, hg, hc, hcm⟩ := hr.lt
  rw [hn] at hc
  unfold maxLen at hcm
  have HN := Lib.hid hn
  clear hr hn
  go_enter Try.func37, Try.ntmps37
  go_wp2_with fail
  go_loopw [1, 5] (fun q t wr => ∃ k : Nat, k ≤ n ∧ t = .int .i64 k ∧ q = .int .i64 (1 + 2 * (k : Int)) ∧ RowAt wr B g cap (flatMk cs 1 k) ∧ w.grownBy wr (some g))
    (fun _ t _ => n - (intOf t).toNat)
  case atStart => exact ⟨0, Nat.zero_le _, rfl, rfl, HR.out, World.grownBy.refl _ _⟩
  case round =>
    obtain ⟨k, hk, rfl, rfl, hrow, hgr⟩ := hrel
    have HO := Lib.hid hrow
    have HG := Lib.hid hgr
    have hlN := HN.out
    have hz : g < wr.heap.size := hrow.lt.2.1
    by_cases hlt : k < n
    · have hl := flatMk_length cs 1 k (by omega)
      obtain ⟨c0, c1⟩ := hrow.cells k (by omega)
      have f0 := World.ownsRow.frozenAt hrow (k * 2)
      have f1 := World.ownsRow.frozenAt hrow (k * 2 + 1)
      have hs1 := World.ownsRow.stored hrow (k * 2) (.int .i64 (1 + 2 * (k : Int)))
      have hs2 := World.ownsRow.stored hs1.1 (k * 2 + 1) (.int .i64 (1 + 2 * (k : Int) + 1))
      have hrow2 : RowAt ((wr.setCell ⟨g, k * 2, none⟩ (.int .i64 (1 + 2 * (k : Int)))).setCell ⟨g, k * 2 + 1, none⟩ (.int .i64 (1 + 2 * (k : Int) + 1))) B g cap (flatMk cs 1 (k + 1)) := by
        have := hs2.1
        rw [flat_set _ _ _ _ (by omega), flatMk_set cs 1 k (by omega)] at this
        have hl2 := flatMk_length cs 1 (k + 1) (by omega)
        show World.ownsRow _ _ _ _ (.slice _ (flatMk cs 1 (k + 1)).length cap) (flatMk cs 1 (k + 1)).length _
        rw [hl2, ← hl]
        exact this
      have HO2 := Lib.hid hrow2
      have HG2 := Lib.hid (⟨hs2.2.os.trans (hs1.2.os.trans hgr.os), hs2.2.tape.trans (hs1.2.tape.trans hgr.tape), hs2.2.output.trans (hs1.2.output.trans hgr.output), Nat.le_trans hgr.size (Nat.le_trans hs1.2.size hs2.2.size), fun i hi hne => (hs2.2.block i (Nat.lt_of_lt_of_le hi (Nat.le_trans hgr.size hs1.2.size)) hne).trans ((hs1.2.block i (Nat.lt_of_lt_of_le hi hgr.size) hne).trans (hgr.block i hi hne))⟩ : w.grownBy _ (some g))
      generalize (pt (flatMk cs 1 k) k).1 = q0 at *
      generalize (pt (flatMk cs 1 k) k).2 = q1 at *
      clear hs1 hs2 hrow2 hrow hgr hlN hl
      go_wp2_with fail
      go_roundw
      case rel => exact ⟨k + 1, by omega, by go_num, by first | rfl | (congr 1; omega), HO2.out, HG2.out⟩
      case measure => simp [intOf]; omega
    · have hkn : k = n := by omega
      rw [hkn] at hrow ⊢
      have hrow2 : RowAt wr B g cap (marks 1 n) := by rw [← hlN, ← flatMk_end, hlN]; exact hrow
      have HO2 := Lib.hid hrow2
      clear hrow hgr hlN hkn hlt hk hrow2
      go_wp2_with fail
      go_ret
      exact ⟨rfl, HO2.out, HG.out⟩

set_option maxHeartbeats 1000000 in
theorem heldPointS (w : World) (B g cap n : Nat) (hr : RowAt w B g cap (marks 1 n)) (hm : n ≤ 1048576) :
    Calls Try.prog 38 #[.slice (some ⟨g, 0, none⟩) n cap, .int .i64 1] w fun e w' => e = .returned (.int .i64 (1 + 2 * n)) ∧ w = w' := by
  have HR := Lib.hid hr
  obtain ⟨-, hg, hc, hcm⟩ := hr.lt
  rw [marks_length] at hc
  unfold maxLen at hcm
  clear hr
  go_enter Try.func38, Try.ntmps38
  go_wp2_with fail
  go_loop [1, 5] (fun q t => ∃ k : Nat, k ≤ n ∧ t = .int .i64 k ∧ q = .int .i64 (1 + 2 * (k : Int)))
    (fun _ t => n - (intOf t).toNat)
  case atStart => exact ⟨0, Nat.zero_le _, rfl, rfl⟩
  case round =>
    obtain ⟨k, hk, rfl, rfl⟩ := hrel
    by_cases hlt : k < n
    · obtain ⟨c0, c1⟩ := HR.out.cells k (by rw [marks_length]; exact hlt)
      rw [marks_at _ _ _ hlt] at c0 c1
      go_wp2_with fail
      go_round
      case rel => exact ⟨k + 1, by omega, by go_num, by first | rfl | (congr 1; omega)⟩
      case measure => simp [intOf]; omega
    · have hkn : k = n := by omega
      rw [hkn]
      clear hkn hlt hk
      go_wp2_with fail
      go_ret
      exact ⟨rfl, rfl⟩

theorem markPointS_none (w : World) (a : Option Addr) (cap : Nat) :
    Calls Try.prog 37 #[.slice a 0 cap, .int .i64 1] w fun e w' => e = .returned (.int .i64 1) ∧ w = w' := by
  go_enter Try.func37, Try.ntmps37
  go_wp2_with fail
  refine wp_loop_rounds 1 ?_
  rw [rounds_succ]
  go_wp2
  go_ret
  exact ⟨rfl, rfl⟩
theorem heldPointS_none (w : World) (a : Option Addr) (cap : Nat) :
    Calls Try.prog 38 #[.slice a 0 cap, .int .i64 1] w fun e w' => e = .returned (.int .i64 1) ∧ w = w' := by
  go_enter Try.func38, Try.ntmps38
  go_wp2_with fail
  refine wp_loop_rounds 1 ?_
  rw [rounds_succ]
  go_wp2
  go_ret
  exact ⟨rfl, rfl⟩

/-- The block of a row's value. -/
def MarkAns (w : World) (B : Nat) (v : Value) (n : Nat) (e : Ending) (w' : World) : Prop :=
  e = .returned (.int .i64 (1 + 2 * n)) ∧ Row w' B v (marks 1 n) ∧ ∀ (b : Nat), b < w.heap.size → some b ≠ v.ownBlock → w'.heap[b]? = w.heap[b]?

/-- A stone is marked: its own row alone is written. -/
theorem markStone (w : World) (B : Nat) (v : Value) (cs : List (Int × Int)) (hr : Row w B v cs) (hm : cs.length ≤ 1048576) :
    Calls Try.prog 20 #[.agg #[v], .int .i64 1] w fun e w' => e = .returned (.int .i64 (1 + 2 * cs.length)) ∧ Row w' B v (marks 1 cs.length) ∧ w.heap.size ≤ w'.heap.size ∧ w'.os = w.os ∧ w'.tape = w.tape ∧ w'.output = w.output ∧
      ∀ (b : Nat), b < w.heap.size → some b ≠ v.ownBlock → w'.heap[b]? = w.heap[b]? := by
  rcases hr.cases with ⟨rfl, rfl⟩ | ⟨g, cap, rfl, r, -⟩
  · go_enter Try.func20, Try.ntmps20
    go_wp2_with fail
    refine (markPointS_none _ _ _).mono ?_
    rintro e w1 ⟨rfl, rfl⟩
    go_wp2_with fail
    go_ret
    have hb := (Below.refl w.heap.size w).alloc (Nat.le_refl _) (.cells #[.slice none 0 0] 36)
    exact ⟨rfl, Row.nil _ _, hb.size, hb.os, hb.tape, hb.output, fun b hbl _ => hb.block b hbl⟩
  · generalize hn : cs.length = n at *
    have HN := Lib.hid hn
    have HR := Lib.hid r
    clear hn r hr
    go_enter Try.func20, Try.ntmps20
    go_wp2_with fail
    refine (markPointS _ B g cap n cs (HR.out.alloc _) HN.out hm).mono ?_
    rintro e w1 ⟨rfl, hrow, hgr⟩
    have HO := Lib.hid hrow
    have HG := Lib.hid hgr
    clear hrow hgr
    go_wp2_with fail
    go_ret
    have hb := (Below.refl w.heap.size w).alloc (Nat.le_refl _) (.cells #[.slice (some ⟨g, 0, none⟩) n cap] 36)
    have hg := HG.out
    refine ⟨rfl, ?_, Nat.le_trans hb.size hg.size, hg.os.trans hb.os, hg.tape.trans hb.tape, hg.output.trans hb.output, fun b hbl hne => ?_⟩
    · have := HO.out.row
      rw [marks_length] at this
      exact this
    · exact (hg.block b (Nat.lt_of_lt_of_le hbl hb.size) hne).trans (hb.block b hbl)

theorem heldStone (w : World) (B n : Nat) (v : Value) (hr : Row w B v (marks 1 n)) (hm : n ≤ 1048576) :
    Calls Try.prog 21 #[.agg #[v], .int .i64 1] w fun e w' => e = .returned (.int .i64 (1 + 2 * n)) ∧ Below w.heap.size w w' := by
  have hml := marks_length 1 n
  rcases hr.cases with ⟨rfl, hz⟩ | ⟨g, cap, rfl, r, -⟩
  · rw [hz] at hml
    obtain rfl : n = 0 := by simpa using hml.symm
    clear hz hml hr
    go_enter Try.func21, Try.ntmps21
    go_wp2_with fail
    refine (heldPointS_none _ _ _).mono ?_
    rintro e w1 ⟨rfl, rfl⟩
    go_wp2_with fail
    go_ret
    exact ⟨rfl, (Below.refl w.heap.size w).alloc (Nat.le_refl _) _⟩
  · rw [hml]
    have HR := Lib.hid r
    clear r hr hml
    go_enter Try.func21, Try.ntmps21
    go_wp2_with fail
    refine (heldPointS _ B g cap n (HR.out.alloc _) hm).mono ?_
    rintro e w1 ⟨rfl, rfl⟩
    go_wp2_with fail
    go_ret
    exact ⟨rfl, (Below.refl w.heap.size w).alloc (Nat.le_refl _) _⟩
end Go.Proofs.Ytggkodhfhhjihaa
