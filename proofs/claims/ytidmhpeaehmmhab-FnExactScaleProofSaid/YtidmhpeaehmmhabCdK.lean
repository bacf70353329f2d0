/- Marks in a row of Row: what is written is read again. -/
import Derived.Test.YtidmhpeaehmmhabCdL
namespace Go.Proofs.Ytidmhpeaehmmhab
set_option maxRecDepth 100000
open Go.ChangeShapes Go.WideShapes Go.ChangeAt Go.RowKit

set_option maxHeartbeats 2000000 in
theorem markCdAt (w : World) (B g cap n : Nat) (rs : List Cd) (hr : CdRowAt w B g cap rs) (hn : rs.length = n) (hm : n ≤ 1048576) :
    Calls Try.prog 18 #[.slice (some ⟨g, 0, none⟩) n cap, .int .i64 1] w fun e w' => e = .returned (.int .i64 (1 + 4 * n)) ∧ CdRowAt w' B g cap (marks4 1 n) ∧ w.grownBy w' (some g) := by
  have HR := Lib.hid hr
  obtain ⟨-, hg, hc, hcm⟩ := hr.lt
  rw [hn] at hc
  unfold maxLen at hcm
  have HN := Lib.hid hn
  clear hr hn
  go_enter Try.func18, Try.ntmps18
  go_wp2_with fail
  go_loopw [1, 5] (fun q t wr => ∃ k : Nat, k ≤ n ∧ t = .int .i64 k ∧ q = .int .i64 (1 + 4 * (k : Int)) ∧ CdRowAt wr B g cap (cdsMk rs 1 k) ∧ w.grownBy wr (some g))
    (fun _ t _ => n - (intOf t).toNat)
  case atStart => exact ⟨0, Nat.zero_le _, rfl, rfl, HR.out, World.grownBy.refl _ _⟩
  case round =>
    obtain ⟨k, hk, rfl, rfl, hrow, hgr⟩ := hrel
    have HO := Lib.hid hrow
    have HG := Lib.hid hgr
    have hlN := HN.out
    have hz : g < wr.heap.size := hrow.lt.2.1
    by_cases hlt : k < n
    · have hl := cdsMk_length rs 1 k (by omega)
      obtain ⟨c0, c1, c2, c3⟩ := hrow.cells k (by omega)
      have f0 := World.ownsRow.frozenAt hrow (k * 4)
      have f1 := World.ownsRow.frozenAt hrow (k * 4 + 1)
      have f2 := World.ownsRow.frozenAt hrow (k * 4 + 2)
      have f3 := World.ownsRow.frozenAt hrow (k * 4 + 3)
      have hs1 := World.ownsRow.stored hrow (k * 4) (.int .i64 (1 + 4 * (k : Int)))
      have hs2 := World.ownsRow.stored hs1.1 (k * 4 + 1) (.int .i64 (1 + 4 * (k : Int) + 1))
      have hs3 := World.ownsRow.stored hs2.1 (k * 4 + 2) (.int .i64 (1 + 4 * (k : Int) + 1 + 1))
      have hs4 := World.ownsRow.stored hs3.1 (k * 4 + 3) (.int .i64 (1 + 4 * (k : Int) + 1 + 1 + 1))
      have hrow2 : CdRowAt ((((wr.setCell ⟨g, k * 4, none⟩ (.int .i64 (1 + 4 * (k : Int)))).setCell ⟨g, k * 4 + 1, none⟩ (.int .i64 (1 + 4 * (k : Int) + 1))).setCell ⟨g, k * 4 + 2, none⟩ (.int .i64 (1 + 4 * (k : Int) + 1 + 1))).setCell ⟨g, k * 4 + 3, none⟩ (.int .i64 (1 + 4 * (k : Int) + 1 + 1 + 1))) B g cap (cdsMk rs 1 (k + 1)) := by
        have := hs4.1
        rw [flat4_set _ _ _ _ _ _ (by omega), cdsMk_set rs 1 k (by omega)] at this
        have hl2 := cdsMk_length rs 1 (k + 1) (by omega)
        show World.ownsRow _ _ _ _ (.slice _ (cdsMk rs 1 (k + 1)).length cap) (cdsMk rs 1 (k + 1)).length _
        rw [hl2, ← hl]
        exact this
      have HO2 := Lib.hid hrow2
      have HG2 := Lib.hid (grown4_trans (grown4_trans (grown4_trans (grown4_trans hgr hs1.2) hs2.2) hs3.2) hs4.2)
      generalize (cd (cdsMk rs 1 k) k).1 = q0 at *
      generalize (cd (cdsMk rs 1 k) k).2.1 = q1 at *
      generalize (cd (cdsMk rs 1 k) k).2.2.1 = q2 at *
      generalize (cd (cdsMk rs 1 k) k).2.2.2 = q3 at *
      clear hs1 hs2 hs3 hs4 hrow2 hrow hgr hlN hl
      go_wp2_with fail
      go_roundw
      case rel => exact ⟨k + 1, by omega, by go_num, by first | rfl | (congr 1; omega), HO2.out, HG2.out⟩
      case measure => simp [intOf]; omega
    · have hkn : k = n := by omega
      rw [hkn] at hrow ⊢
      have hrow2 : CdRowAt wr B g cap (marks4 1 n) := by rw [← hlN, ← cdsMk_end, hlN]; exact hrow
      have HO2 := Lib.hid hrow2
      clear hrow hgr hlN hkn hlt hk hrow2
      go_wp2_with fail
      go_ret
      exact ⟨rfl, HO2.out, HG.out⟩


theorem markCdNone (w : World) (a : Option Addr) (cap : Nat) :
    Calls Try.prog 18 #[.slice a 0 cap, .int .i64 1] w fun e w' => e = .returned (.int .i64 1) ∧ w = w' := by
  go_enter Try.func18, Try.ntmps18
  go_wp2_with fail
  refine wp_loop_rounds 1 ?_
  rw [rounds_succ]
  go_wp2
  go_ret
  exact ⟨rfl, rfl⟩

/-- A row is marked: it alone is written. -/
theorem markCds (w : World) (B : Nat) (v : Value) (rs : List Cd) (hr : CdRow w B v rs) (hm : rs.length ≤ 1048576) :
    Calls Try.prog 18 #[v, .int .i64 1] w fun e w' => e = .returned (.int .i64 (1 + 4 * rs.length)) ∧ CdRow w' B v (marks4 1 rs.length) ∧ w.heap.size ≤ w'.heap.size ∧ w'.os = w.os ∧ w'.tape = w.tape ∧ w'.output = w.output ∧
      ∀ (b : Nat), b < w.heap.size → some b ≠ v.ownBlock → w'.heap[b]? = w.heap[b]? := by
  rcases hr.cases' with ⟨rfl, rfl⟩ | ⟨g, cap, rfl, r, -⟩
  · refine (markCdNone _ _ _).mono ?_
    rintro e w1 ⟨rfl, rfl⟩
    exact ⟨rfl, CdRow.nil _ _, Nat.le_refl _, rfl, rfl, rfl, fun b hbl _ => rfl⟩
  · refine (markCdAt _ B g cap _ rs r rfl hm).mono ?_
    rintro e w1 ⟨rfl, hrow, hgr⟩
    refine ⟨rfl, ?_, hgr.size, hgr.os, hgr.tape, hgr.output, fun b hbl hne => hgr.block b hbl hne⟩
    have := hrow.row
    rw [marks4_length] at this
    exact this


end Go.Proofs.Ytidmhpeaehmmhab
