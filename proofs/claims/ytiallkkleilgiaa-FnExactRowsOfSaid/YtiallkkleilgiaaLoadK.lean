/- Marks in a row of loads: what is written is read again. -/
import Derived.Test.YtiallkkleilgiaaLoadL
namespace Go.Proofs.Ytiallkkleilgiaa
set_option maxRecDepth 100000
open Go.ChangeShapes Go.WideShapes Go.ChangeAt Go.RowKit

/-- The numbers from k on, three for each load. -/
def marksL (k : Int) : Nat → List Ld
  | 0 => []
  | n + 1 => (k, k + 1, k + 1 + 1) :: marksL (k + 3) n
theorem marksL_length (k : Int) (n : Nat) : (marksL k n).length = n := by
  induction n generalizing k with
  | zero => rfl
  | succ n ih => simp [marksL, ih]
theorem marksL_at (k : Int) (n i : Nat) (h : i < n) : ld (marksL k n) i = (k + 3 * i, k + 3 * i + 1, k + 3 * i + 1 + 1) := by
  induction n generalizing k i with
  | zero => omega
  | succ n ih =>
    cases i with
    | zero => simp [marksL, ld]
    | succ i =>
      have := ih (k + 3) i (by omega)
      unfold ld at this ⊢
      simp only [marksL, List.getD_cons_succ]
      rw [this, show k + 3 + 3 * (i : Int) = k + 3 * ((i + 1 : Nat) : Int) by omega]
theorem marksL_next (k : Int) (n : Nat) : marksL k (n + 1) = marksL k n ++ [(k + 3 * n, k + 3 * n + 1, k + 3 * n + 1 + 1)] := by
  induction n generalizing k with
  | zero => simp [marksL]
  | succ n ih =>
    rw [marksL, ih (k + 3), marksL, List.cons_append]
    rw [show k + 3 + 3 * (n : Int) = k + 3 * ((n + 1 : Nat) : Int) by omega]

/-- The cells as far as they have been marked. -/
def ldsMk (ls : List Ld) (k : Int) (i : Nat) : List Ld := marksL k i ++ ls.drop i
theorem ldsMk_zero (ls : List Ld) (k : Int) : ldsMk ls k 0 = ls := rfl
theorem ldsMk_end (ls : List Ld) (k : Int) : ldsMk ls k ls.length = marksL k ls.length := by simp [ldsMk]
theorem ldsMk_length (ls : List Ld) (k : Int) (i : Nat) (h : i ≤ ls.length) : (ldsMk ls k i).length = ls.length := by simp [ldsMk, marksL_length]; omega
theorem ldsMk_set (ls : List Ld) (k : Int) (i : Nat) (h : i < ls.length) : (ldsMk ls k i).set i (k + 3 * i, k + 3 * i + 1, k + 3 * i + 1 + 1) = ldsMk ls k (i + 1) := by
  unfold ldsMk
  rw [List.set_append_right _ _ (by simp [marksL_length]), marksL_length, Nat.sub_self, List.drop_eq_getElem_cons h, List.set_cons_zero, marksL_next, List.append_assoc]
  rfl

theorem grownL_trans {a b c : World} {r : Option Nat} (h : a.grownBy b r) (k : b.grownBy c r) : a.grownBy c r :=
  ⟨k.os.trans h.os, k.tape.trans h.tape, k.output.trans h.output, Nat.le_trans h.size k.size, fun i hi hne => (k.block i (Nat.lt_of_lt_of_le hi h.size) hne).trans (h.block i hi hne)⟩

set_option maxHeartbeats 2000000 in
theorem markLoadFrom (w : World) (s : Int) (hs : 0 ≤ s ∧ s ≤ 1000000000) (B g cap n : Nat) (ls : List Ld) (hr : LRowAt w B g cap ls) (hn : ls.length = n) (hm : n ≤ 1048576) :
    Calls Try.prog 24 #[.slice (some ⟨g, 0, none⟩) n cap, .int .i64 s] w fun e w' => e = .returned (.int .i64 (s + 3 * n)) ∧ LRowAt w' B g cap (marksL s n) ∧ w.grownBy w' (some g) := by
  have HR := Lib.hid hr
  obtain ⟨-, hg, hc, hcm⟩ := hr.lt
  rw [hn] at hc
  unfold maxLen at hcm
  have HN := Lib.hid hn
  clear hr hn
  go_enter Try.func24, Try.ntmps24
  go_wp2_with fail
  go_loopw [1, 5] (fun q t wr => ∃ k : Nat, k ≤ n ∧ t = .int .i64 k ∧ q = .int .i64 (s + 3 * (k : Int)) ∧ LRowAt wr B g cap (ldsMk ls s k) ∧ w.grownBy wr (some g))
    (fun _ t _ => n - (intOf t).toNat)
  case atStart => exact ⟨0, Nat.zero_le _, rfl, by simp, HR.out, World.grownBy.refl _ _⟩
  case round =>
    obtain ⟨k, hk, rfl, rfl, hrow, hgr⟩ := hrel
    have HO := Lib.hid hrow
    have HG := Lib.hid hgr
    have hlN := HN.out
    have hz : g < wr.heap.size := hrow.lt.2.1
    by_cases hlt : k < n
    · have hl := ldsMk_length ls s k (by omega)
      obtain ⟨c0, c1, c2⟩ := hrow.cells k (by omega)
      have f0 := World.ownsRow.frozenAt hrow (k * 3)
      have f1 := World.ownsRow.frozenAt hrow (k * 3 + 1)
      have f2 := World.ownsRow.frozenAt hrow (k * 3 + 2)
      have hs1 := World.ownsRow.stored hrow (k * 3) (.int .i64 (s + 3 * (k : Int)))
      have hs2 := World.ownsRow.stored hs1.1 (k * 3 + 1) (.int .i64 (s + 3 * (k : Int) + 1))
      have hs3 := World.ownsRow.stored hs2.1 (k * 3 + 2) (.int .i64 (s + 3 * (k : Int) + 1 + 1))
      have hrow2 : LRowAt (((wr.setCell ⟨g, k * 3, none⟩ (.int .i64 (s + 3 * (k : Int)))).setCell ⟨g, k * 3 + 1, none⟩ (.int .i64 (s + 3 * (k : Int) + 1))).setCell ⟨g, k * 3 + 2, none⟩ (.int .i64 (s + 3 * (k : Int) + 1 + 1))) B g cap (ldsMk ls s (k + 1)) := by
        have := hs3.1
        rw [flatL_set _ _ _ _ _ (by omega), ldsMk_set ls s k (by omega)] at this
        have hl2 := ldsMk_length ls s (k + 1) (by omega)
        show World.ownsRow _ _ _ _ (.slice _ (ldsMk ls s (k + 1)).length cap) (ldsMk ls s (k + 1)).length _
        rw [hl2, ← hl]
        exact this
      have HO2 := Lib.hid hrow2
      have HG2 := Lib.hid (grownL_trans (grownL_trans (grownL_trans hgr hs1.2) hs2.2) hs3.2)
      generalize (ld (ldsMk ls s k) k).1 = q0 at *
      generalize (ld (ldsMk ls s k) k).2.1 = q1 at *
      generalize (ld (ldsMk ls s k) k).2.2 = q2 at *
      clear hs1 hs2 hs3 hrow2 hrow hgr hlN hl
      go_wp2_with fail
      go_roundw
      case rel => exact ⟨k + 1, by omega, by go_num, by first | rfl | (congr 1; omega), HO2.out, HG2.out⟩
      case measure => simp [intOf]; omega
    · have hkn : k = n := by omega
      rw [hkn] at hrow ⊢
      have hrow2 : LRowAt wr B g cap (marksL s n) := by rw [← hlN, ← ldsMk_end, hlN]; exact hrow
      have HO2 := Lib.hid hrow2
      clear hrow hgr hlN hkn hlt hk hrow2
      go_wp2_with fail
      go_ret
      exact ⟨rfl, HO2.out, HG.out⟩


theorem markLoadNoneFrom (w : World) (s : Int) (a : Option Addr) (cap : Nat) :
    Calls Try.prog 24 #[.slice a 0 cap, .int .i64 s] w fun e w' => e = .returned (.int .i64 s) ∧ w = w' := by
  go_enter Try.func24, Try.ntmps24
  go_wp2_with fail
  refine wp_loop_rounds 1 ?_
  rw [rounds_succ]
  go_wp2
  go_ret
  exact ⟨rfl, rfl⟩
/-- A row of loads is marked from a number on: it alone is written. -/
theorem markLoadsFrom (w : World) (s : Int) (hs : 0 ≤ s ∧ s ≤ 1000000000) (B : Nat) (v : Value) (ls : List Ld) (hr : LRow w B v ls) (hm : ls.length ≤ 1048576) :
    Calls Try.prog 24 #[v, .int .i64 s] w fun e w' => e = .returned (.int .i64 (s + 3 * ls.length)) ∧ LRow w' B v (marksL s ls.length) ∧ w.heap.size ≤ w'.heap.size ∧ w'.os = w.os ∧ w'.tape = w.tape ∧ w'.output = w.output ∧
      ∀ (b : Nat), b < w.heap.size → some b ≠ v.ownBlock → w'.heap[b]? = w.heap[b]? := by
  rcases hr.cases' with ⟨rfl, rfl⟩ | ⟨g, cap, rfl, r, -⟩
  · refine (markLoadNoneFrom _ s _ _).mono ?_
    rintro e w1 ⟨rfl, rfl⟩
    exact ⟨by simp, LRow.nil _ _, Nat.le_refl _, rfl, rfl, rfl, fun b hbl _ => rfl⟩
  · refine (markLoadFrom _ s hs B g cap _ ls r rfl hm).mono ?_
    rintro e w1 ⟨rfl, hrow, hgr⟩
    refine ⟨rfl, ?_, hgr.size, hgr.os, hgr.tape, hgr.output, fun b hbl hne => hgr.block b hbl hne⟩
    have := hrow.row
    rw [marksL_length] at this
    exact this

/-- A row of loads is marked: it alone is written. -/
theorem markLoads (w : World) (B : Nat) (v : Value) (ls : List Ld) (hr : LRow w B v ls) (hm : ls.length ≤ 1048576) :
    Calls Try.prog 24 #[v, .int .i64 1] w fun e w' => e = .returned (.int .i64 (1 + 3 * ls.length)) ∧ LRow w' B v (marksL 1 ls.length) ∧ w.heap.size ≤ w'.heap.size ∧ w'.os = w.os ∧ w'.tape = w.tape ∧ w'.output = w.output ∧
      ∀ (b : Nat), b < w.heap.size → some b ≠ v.ownBlock → w'.heap[b]? = w.heap[b]? := markLoadsFrom w 1 ⟨by omega, by omega⟩ B v ls hr hm

end Go.Proofs.Ytiallkkleilgiaa
