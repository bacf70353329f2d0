/- Slices of strings that a call makes itself: the laws' comparison, marks and their check. -/
import Derived.Test.YtibdmidinopppaaBytesC
import Derived.Deep.AppendLies
import Derived.BigQuiet
import Derived.Deep.QuietTactic
import Derived.Outline
import Derived.Lib.Hide
namespace Go.Proofs.Ytibdmidinopppaa
open Go.ChangeShapes Go.WideShapes Go.ChangeAt Go.RowKit

/-- The slice value v owns the strings l, in a block from B on. -/
def OwnsStrs (w : World) (B : Nat) (v : Value) (l : List ByteArray) : Prop := w.ownsRow B 9 1 v l.length (l.map Value.string)

theorem Try.infoString : (Try.prog.info? 9).map (fun i => (i.zero, i.size, i.bytes)) = some (some (.string ByteArray.empty), 1, 16) := by kernel_rfl

/-- Such a slice, opened: a length, and each cell. -/
theorem OwnsStrs.form {w : World} {B : Nat} {v : Value} {l : List ByteArray} (h : OwnsStrs w B v l) :
    (v = .slice none 0 0 ∧ l = []) ∨ ∃ g cap, v = .slice (some ⟨g, 0, none⟩) l.length cap ∧ B ≤ g ∧ g < w.heap.size ∧ l.length ≤ maxLen ∧ (∀ k (hk : k < l.length), w.cell? ⟨g, k, none⟩ = some (.string l[k])) ∧ ∀ k, w.frozen? ⟨g, k, none⟩ = false := by
  obtain ⟨hl, hv⟩ := id h
  rcases hv with ⟨rfl, hn⟩ | ⟨g, cap, cur, rfl, hg, hh, hn, hcap, hsz, htake⟩
  · exact .inl ⟨rfl, List.eq_nil_of_length_eq_zero hn⟩
  · right
    refine ⟨g, cap, rfl, hg, (Array.getElem?_eq_some_iff.1 hh).1, by omega, fun k hk => ?_, fun k => ?_⟩
    · have hc := World.ownsRow.cells h (g := g) rfl k (.string l[k]) (by simp [hk])
      rwa [Addr.add_lit, Nat.zero_add] at hc
    · simp [World.frozen?, hh]

theorem OwnsStrs.len {w : World} {B : Nat} {v : Value} {l : List ByteArray} (h : OwnsStrs w B v l) : ∃ a cap, v = .slice a l.length cap := by
  rcases h.form with ⟨rfl, rfl⟩ | ⟨g, cap, rfl, _⟩
  · exact ⟨_, _, rfl⟩
  · exact ⟨_, _, rfl⟩

theorem Below.drewN {B : Nat} {a w : World} (h : Below B a w) (n : Nat) : Below B a (w.drewN n) := ⟨h.os, h.tape, h.output, h.size, h.block⟩

/-- Kept where its block is not written. -/
theorem OwnsStrs.below {w w' : World} {B : Nat} {v : Value} {l : List ByteArray} (h : OwnsStrs w B v l) (hb : Below w.heap.size w w') : OwnsStrs w' B v l :=
  World.ownsRow.kept (row := none) h ⟨hb.os, hb.tape, hb.output, hb.size, fun k hk _ => hb.block k hk⟩ (by cases v.ownBlock <;> simp)

set_option maxHeartbeats 400000 in
/-- The laws' comparison of two such slices that hold the same strings. -/
theorem eqStrs (w : World) (B1 B2 : Nat) (v1 v2 : Value) (l : List ByteArray) (h1 : OwnsStrs w B1 v1 l) (h2 : OwnsStrs w B2 v2 l) :
    Calls Try.prog 17 #[v1, v2] w fun e w' => e = .returned (.bool true) ∧ Below w.heap.size w w' := by
  obtain ⟨a1, c1, hv1⟩ := h1.len
  obtain ⟨a2, c2, hv2⟩ := h2.len
  have hm : l.length ≤ 9223372036854775807 := by
    rcases h1.form with ⟨_, rfl⟩ | ⟨_, _, _, _, _, hm, _⟩
    · simp
    · unfold maxLen at hm; omega
  have F1 := Lib.hid h1.form
  have F2 := Lib.hid h2.form
  clear h1 h2
  subst hv1 hv2
  have hne : ((l.length : Int) != (l.length : Int)) = false := by simp
  go_enter Try.func17, Try.ntmps17
  go_wp2
  go_loopw [5] (fun i wr => ∃ k : Nat, k ≤ l.length ∧ i = .int .i64 k ∧ Below w.heap.size w wr) (fun i _ => l.length - (intOf i).toNat)
  case atStart => exact ⟨0, Nat.zero_le _, rfl, Below.refl _ _⟩
  case round =>
    obtain ⟨k, hk, rfl, hbel⟩ := hrel
    by_cases hlt : k < l.length
    · rcases F1.out with ⟨_, rfl⟩ | ⟨g1, cp1, e1, hB1, hg1, -, hc1, -⟩
      · simp at hlt
      rcases F2.out with ⟨_, rfl⟩ | ⟨g2, cp2, e2, hB2, hg2, -, hc2, -⟩
      · simp at hlt
      simp only [Value.slice.injEq, true_and] at e1 e2
      obtain ⟨rfl, rfl⟩ := e1
      obtain ⟨rfl, rfl⟩ := e2
      have x1 := (hbel.cell (p := ⟨g1, k, none⟩) hg1).trans (hc1 k hlt)
      have x2 := (hbel.cell (p := ⟨g2, k, none⟩) hg2).trans (hc2 k hlt)
      clear hc1 hc2
      have hk0 : (0 : Int) ≤ (k : Int) := Int.natCast_nonneg _
      have hk1 : (k : Int) < (l.length : Int) := by omega
      go_wp2
      go_quiet (fail)
      go_wp2
      go_roundw
      case rel => exact ⟨k + 1, by omega, by go_num, Below.drewN hbel _⟩
      case measure => simp [intOf]; omega
    · go_wp2
      go_ret
      exact ⟨rfl, hbel⟩
end Go.Proofs.Ytibdmidinopppaa
