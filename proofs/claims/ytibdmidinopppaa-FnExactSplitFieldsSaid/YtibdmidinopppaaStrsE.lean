/- The laws' comparison of two slices of strings that hold the same. -/
import Derived.Test.YtibdmidinopppaaStrsP
namespace Go.Proofs.Ytibdmidinopppaa
open Go.ChangeShapes Go.WideShapes Go.ChangeAt Go.RowKit

set_option maxHeartbeats 400000 in
/-- The laws' comparison of two such slices that hold the same strings. -/
theorem eqStrs (w : World) (B1 B2 : Nat) (v1 v2 : Value) (l : List ByteArray) (h1 : OwnsStrs w B1 v1 l) (h2 : OwnsStrs w B2 v2 l) :
    Calls Try.prog 17 #[v1, v2] w fun e w' => e = .returned (.bool true) ∧ Below w.heap.size w w' := by
  obtain ⟨a1, c1, hv1⟩ := h1.len
  obtain ⟨a2, c2, hv2⟩ := h2.len
  have hm : l.length ≤ 9223372036854775807 := by
    rcases h1.form with ⟨_, rfl⟩ | ⟨_, _, _, _, _, hm, _⟩
    · simp
    · unfold maxLen at hm; omega
  have F1 := Lib.hid h1.form
  have F2 := Lib.hid h2.form
  clear h1 h2
  subst hv1 hv2
  have hne : ((l.length : Int) != (l.length : Int)) = false := by simp
  go_enter Try.func17, Try.ntmps17
  go_wp2
  go_loopw [5] (fun i wr => ∃ k : Nat, k ≤ l.length ∧ i = .int .i64 k ∧ Below w.heap.size w wr) (fun i _ => l.length - (intOf i).toNat)
  case atStart => exact ⟨0, Nat.zero_le _, rfl, Below.refl _ _⟩
  case round =>
    obtain ⟨k, hk, rfl, hbel⟩ := hrel
    by_cases hlt : k < l.length
    · rcases F1.out with ⟨_, rfl⟩ | ⟨g1, cp1, e1, hB1, hg1, -, hc1, -⟩
      · simp at hlt
      rcases F2.out with ⟨_, rfl⟩ | ⟨g2, cp2, e2, hB2, hg2, -, hc2, -⟩
      · simp at hlt
      simp only [Value.slice.injEq, true_and] at e1 e2
      obtain ⟨rfl, rfl⟩ := e1
      obtain ⟨rfl, rfl⟩ := e2
      have x1 := (hbel.cell (p := ⟨g1, k, none⟩) hg1).trans (hc1 k hlt)
      have x2 := (hbel.cell (p := ⟨g2, k, none⟩) hg2).trans (hc2 k hlt)
      clear hc1 hc2
      have hk0 : (0 : Int) ≤ (k : Int) := Int.natCast_nonneg _
      have hk1 : (k : Int) < (l.length : Int) := by omega
      go_wp2
      go_quiet (fail)
      go_wp2
      go_roundw
      case rel => exact ⟨k + 1, by omega, by go_num, Below.drewN hbel _⟩
      case measure => simp [intOf]; omega
    · go_wp2
      go_ret
      exact ⟨rfl, hbel⟩
end Go.Proofs.Ytibdmidinopppaa
