/- Marks in the joints of an arch: what is written is read again. -/
import Derived.Test.YtiallkkleilgiaaArchL
namespace Go.Proofs.Ytiallkkleilgiaa
set_option maxRecDepth 100000
open Go.ChangeShapes Go.WideShapes Go.ChangeAt Go.RowKit

/-- The numbers from k on, four for each joint. -/
def marksJ (k : Int) : Nat → List Jt
  | 0 => []
  | n + 1 => ((k, k + 1), (k + 1 + 1, k + 1 + 1 + 1)) :: marksJ (k + 4) n
theorem marksJ_length (k : Int) (n : Nat) : (marksJ k n).length = n := by
  induction n generalizing k with
  | zero => rfl
  | succ n ih => simp [marksJ, ih]
theorem marksJ_at (k : Int) (n i : Nat) (h : i < n) : jt (marksJ k n) i = ((k + 4 * i, k + 4 * i + 1), (k + 4 * i + 1 + 1, k + 4 * i + 1 + 1 + 1)) := by
  induction n generalizing k i with
  | zero => omega
  | succ n ih =>
    cases i with
    | zero => simp [marksJ, jt]
    | succ i =>
      have := ih (k + 4) i (by omega)
      unfold jt at this ⊢
      simp only [marksJ, List.getD_cons_succ]
      rw [this, show k + 4 + 4 * (i : Int) = k + 4 * ((i + 1 : Nat) : Int) by omega]
theorem marksJ_next (k : Int) (n : Nat) : marksJ k (n + 1) = marksJ k n ++ [((k + 4 * n, k + 4 * n + 1), (k + 4 * n + 1 + 1, k + 4 * n + 1 + 1 + 1))] := by
  induction n generalizing k with
  | zero => simp [marksJ]
  | succ n ih =>
    rw [marksJ, ih (k + 4), marksJ, List.cons_append]
    rw [show k + 4 + 4 * (n : Int) = k + 4 * ((n + 1 : Nat) : Int) by omega]

/-- The cells as far as they have been marked. -/
def jtsMk (js : List Jt) (k : Int) (i : Nat) : List Jt := marksJ k i ++ js.drop i
theorem jtsMk_zero (js : List Jt) (k : Int) : jtsMk js k 0 = js := rfl
theorem jtsMk_end (js : List Jt) (k : Int) : jtsMk js k js.length = marksJ k js.length := by simp [jtsMk]
theorem jtsMk_length (js : List Jt) (k : Int) (i : Nat) (h : i ≤ js.length) : (jtsMk js k i).length = js.length := by simp [jtsMk, marksJ_length]; omega
theorem flatJ_set (js : List Jt) (i : Nat) (x y z u : Int) (h : i < js.length) : ((((flatJ js).set (i * 4) (.int .i64 x)).set (i * 4 + 1) (.int .i64 y)).set (i * 4 + 2) (.int .i64 z)).set (i * 4 + 3) (.int .i64 u) = flatJ (js.set i ((x, y), (z, u))) := by
  induction js generalizing i with
  | nil => simp at h
  | cons j js ih =>
    cases i with
    | zero => rfl
    | succ i =>
      have := ih i (by simpa using h)
      rw [flatJ_cons, show (i + 1) * 4 = i * 4 + 1 + 1 + 1 + 1 by omega]
      simp only [List.set_cons_succ]
      rw [flatJ_cons, this]
theorem jtsMk_set (js : List Jt) (k : Int) (i : Nat) (h : i < js.length) : (jtsMk js k i).set i ((k + 4 * i, k + 4 * i + 1), (k + 4 * i + 1 + 1, k + 4 * i + 1 + 1 + 1)) = jtsMk js k (i + 1) := by
  unfold jtsMk
  rw [List.set_append_right _ _ (by simp [marksJ_length]), marksJ_length, Nat.sub_self, List.drop_eq_getElem_cons h, List.set_cons_zero, marksJ_next, List.append_assoc]
  rfl

theorem grownK_trans {a b c : World} {r : Option Nat} (h : a.grownBy b r) (k : b.grownBy c r) : a.grownBy c r :=
  ⟨k.os.trans h.os, k.tape.trans h.tape, k.output.trans h.output, Nat.le_trans h.size k.size, fun i hi hne => (k.block i (Nat.lt_of_lt_of_le hi h.size) hne).trans (h.block i hi hne)⟩

set_option maxHeartbeats 2000000 in
theorem markJointS (w : World) (B g cap n : Nat) (js : List Jt) (hr : JRowAt w B g cap js) (hn : js.length = n) (hm : n ≤ 1048576) :
    Calls Try.prog 50 #[.slice (some ⟨g, 0, none⟩) n cap, .int .i64 1] w fun e w' => e = .returned (.int .i64 (1 + 4 * n)) ∧ JRowAt w' B g cap (marksJ 1 n) ∧ w.grownBy w' (some g) := by
  have HR := Lib.hid hr
  obtain ⟨-, hg, hc, hcm⟩ := hr.lt
  rw [hn] at hc
  unfold maxLen at hcm
  have HN := Lib.hid hn
  clear hr hn
  go_enter Try.func50, Try.ntmps50
  go_wp2_with fail
  go_loopw [1, 5] (fun q t wr => ∃ k : Nat, k ≤ n ∧ t = .int .i64 k ∧ q = .int .i64 (1 + 4 * (k : Int)) ∧ JRowAt wr B g cap (jtsMk js 1 k) ∧ w.grownBy wr (some g))
    (fun _ t _ => n - (intOf t).toNat)
  case atStart => exact ⟨0, Nat.zero_le _, rfl, rfl, HR.out, World.grownBy.refl _ _⟩
  case round =>
    obtain ⟨k, hk, rfl, rfl, hrow, hgr⟩ := hrel
    have HO := Lib.hid hrow
    have HG := Lib.hid hgr
    have hlN := HN.out
    have hz : g < wr.heap.size := hrow.lt.2.1
    by_cases hlt : k < n
    · have hl := jtsMk_length js 1 k (by omega)
      obtain ⟨c0, c1, c2, c3⟩ := hrow.cells k (by omega)
      have f0 := World.ownsRow.frozenAt hrow (k * 4)
      have f1 := World.ownsRow.frozenAt hrow (k * 4 + 1)
      have f2 := World.ownsRow.frozenAt hrow (k * 4 + 2)
      have f3 := World.ownsRow.frozenAt hrow (k * 4 + 3)
      have hs1 := World.ownsRow.stored hrow (k * 4) (.int .i64 (1 + 4 * (k : Int)))
      have hs2 := World.ownsRow.stored hs1.1 (k * 4 + 1) (.int .i64 (1 + 4 * (k : Int) + 1))
      have hs3 := World.ownsRow.stored hs2.1 (k * 4 + 2) (.int .i64 (1 + 4 * (k : Int) + 1 + 1))
      have hs4 := World.ownsRow.stored hs3.1 (k * 4 + 3) (.int .i64 (1 + 4 * (k : Int) + 1 + 1 + 1))
      have hrow2 : JRowAt ((((wr.setCell ⟨g, k * 4, none⟩ (.int .i64 (1 + 4 * (k : Int)))).setCell ⟨g, k * 4 + 1, none⟩ (.int .i64 (1 + 4 * (k : Int) + 1))).setCell ⟨g, k * 4 + 2, none⟩ (.int .i64 (1 + 4 * (k : Int) + 1 + 1))).setCell ⟨g, k * 4 + 3, none⟩ (.int .i64 (1 + 4 * (k : Int) + 1 + 1 + 1))) B g cap (jtsMk js 1 (k + 1)) := by
        have := hs4.1
        rw [flatJ_set _ _ _ _ _ _ (by omega), jtsMk_set js 1 k (by omega)] at this
        have hl2 := jtsMk_length js 1 (k + 1) (by omega)
        show World.ownsRow _ _ _ _ (.slice _ (jtsMk js 1 (k + 1)).length cap) (jtsMk js 1 (k + 1)).length _
        rw [hl2, ← hl]
        exact this
      have HO2 := Lib.hid hrow2
      have HG2 := Lib.hid (grownK_trans (grownK_trans (grownK_trans (grownK_trans hgr hs1.2) hs2.2) hs3.2) hs4.2)
      generalize (jt (jtsMk js 1 k) k).1.1 = q0 at *
      generalize (jt (jtsMk js 1 k) k).1.2 = q1 at *
      generalize (jt (jtsMk js 1 k) k).2.1 = q2 at *
      generalize (jt (jtsMk js 1 k) k).2.2 = q3 at *
      clear hs1 hs2 hs3 hs4 hrow2 hrow hgr hlN hl
      go_wp2_with fail
      go_roundw
      case rel => exact ⟨k + 1, by omega, by go_num, by first | rfl | (congr 1; omega), HO2.out, HG2.out⟩
      case measure => simp [intOf]; omega
    · have hkn : k = n := by omega
      rw [hkn] at hrow ⊢
      have hrow2 : JRowAt wr B g cap (marksJ 1 n) := by rw [← hlN, ← jtsMk_end, hlN]; exact hrow
      have HO2 := Lib.hid hrow2
      clear hrow hgr hlN hkn hlt hk hrow2
      go_wp2_with fail
      go_ret
      exact ⟨rfl, HO2.out, HG.out⟩


theorem markJointS_none (w : World) (a : Option Addr) (cap : Nat) :
    Calls Try.prog 50 #[.slice a 0 cap, .int .i64 1] w fun e w' => e = .returned (.int .i64 1) ∧ w = w' := by
  go_enter Try.func50, Try.ntmps50
  go_wp2_with fail
  refine wp_loop_rounds 1 ?_
  rw [rounds_succ]
  go_wp2
  go_ret
  exact ⟨rfl, rfl⟩

/-- An arch is marked: its own row alone is written. -/
theorem markArch (w : World) (B : Nat) (v : Value) (js : List Jt) (hr : JRow w B v js) (hm : js.length ≤ 1048576) :
    Calls Try.prog 23 #[.agg #[v], .int .i64 1] w fun e w' => e = .returned (.int .i64 (1 + 4 * js.length)) ∧ JRow w' B v (marksJ 1 js.length) ∧ w.heap.size ≤ w'.heap.size ∧ w'.os = w.os ∧ w'.tape = w.tape ∧ w'.output = w.output ∧
      ∀ (b : Nat), b < w.heap.size → some b ≠ v.ownBlock → w'.heap[b]? = w.heap[b]? := by
  rcases hr.cases' with ⟨rfl, rfl⟩ | ⟨g, cap, rfl, r, -⟩
  · go_enter Try.func23, Try.ntmps23
    go_wp2_with fail
    refine (markJointS_none _ _ _).mono ?_
    rintro e w1 ⟨rfl, rfl⟩
    go_wp2_with fail
    go_ret
    have hb := (Below.refl w.heap.size w).alloc (Nat.le_refl _) (.cells #[.slice none 0 0] 44)
    exact ⟨rfl, JRow.nil _ _, hb.size, hb.os, hb.tape, hb.output, fun b hbl _ => hb.block b hbl⟩
  · generalize hn : js.length = n at *
    have HN := Lib.hid hn
    have HR := Lib.hid r
    clear hn r hr
    go_enter Try.func23, Try.ntmps23
    go_wp2_with fail
    refine (markJointS _ B g cap n js (HR.out.alloc _) HN.out hm).mono ?_
    rintro e w1 ⟨rfl, hrow, hgr⟩
    have HO := Lib.hid hrow
    have HG := Lib.hid hgr
    clear hrow hgr
    go_wp2_with fail
    go_ret
    have hb := (Below.refl w.heap.size w).alloc (Nat.le_refl _) (.cells #[.slice (some ⟨g, 0, none⟩) n cap] 44)
    have hg := HG.out
    refine ⟨rfl, ?_, Nat.le_trans hb.size hg.size, hg.os.trans hb.os, hg.tape.trans hb.tape, hg.output.trans hb.output, fun b hbl hne => ?_⟩
    · have := HO.out.row
      rw [marksJ_length] at this
      exact this
    · exact (hg.block b (Nat.lt_of_lt_of_le hbl hb.size) hne).trans (hb.block b hbl)

end Go.Proofs.Ytiallkkleilgiaa
