/- Ranges and the greatest common divisor: the contracts of isBetween and commonDivisor of the program, of l01In and l08Gcd of the model. -/
import Derived.Test.YtidmhpeaehmmhabDoorThrustP
namespace Go.Proofs.YtidmhpeaehmmhabDoor
set_option maxRecDepth 100000
open Go.ChangeShapes Go.WideShapes Go.ChangeAt Go.RowKit

theorem tcell {w w' : World} {b o : Nat} {v : Value} (h : w.cell? ⟨b, o, none⟩ = some v) (k : Below w.heap.size w w') : w'.cell? ⟨b, o, none⟩ = some v := (k.cell (p := ⟨b, o, none⟩) (cell_block_lt h)).trans h

theorem tcellD {w w' : World} {b o : Nat} {v : Value} (h : w.cell? ⟨b, o, none⟩ = some v) (k : Below w.drew.heap.size w.drew w') : w'.cell? ⟨b, o, none⟩ = some v := (k.cell (p := ⟨b, o, none⟩) (show b < w.heap.size from cell_block_lt h)).trans h
theorem tbelowD {B : Nat} {a w : World} (h : Below B a w) : Below B a w.drew := ⟨h.os, h.tape, h.output, h.size, h.block⟩


theorem gcd_step (p q : Int) : Nat.gcd q.natAbs (p.tmod q).natAbs = Nat.gcd p.natAbs q.natAbs := by
  rw [Int.natAbs_tmod, Nat.gcd_comm q.natAbs, ← Nat.gcd_rec, Nat.gcd_comm]
theorem tmod_lt {p q : Int} (hq : q ≠ 0) : (p.tmod q).natAbs < q.natAbs := by
  rw [Int.natAbs_tmod]; exact Nat.mod_lt _ (by omega)


/-- The greatest common divisor of the first k numbers. -/
def gTo (ns : List Int) : Nat → Nat
  | 0 => 0
  | k + 1 => Nat.gcd (gTo ns k) (ns.getD k 0).natAbs
theorem gTo_four (h v m d : Int) : gTo [h, v, m, d] 4 = gcd4 h v m d := gcd4_row h v m d
theorem gTo_le {ns : List Int} {M : Nat} (hM : ∀ k, k < ns.length → (ns.getD k 0).natAbs ≤ M) : ∀ k, k ≤ ns.length → gTo ns k ≤ M
  | 0, _ => Nat.zero_le _
  | k + 1, hk => by
    by_cases h0 : (ns.getD k 0).natAbs = 0
    · show Nat.gcd _ _ ≤ M
      rw [h0, Nat.gcd_zero_right]; exact gTo_le hM k (by omega)
    · exact Nat.le_trans (Nat.le_of_dvd (by omega) (Nat.gcd_dvd_right _ _)) (hM k (by omega))

/-- A slice's numbers: they lie at block b; none is the least int. -/
def NumRow (w : World) (b : Nat) (ns : List Int) : Prop := ∀ k, k < ns.length → w.cell? ⟨b, k, none⟩ = some (.int .i64 (ns.getD k 0)) ∧ (ns.getD k 0).natAbs ≤ 9223372036854775807
theorem NumRow.below {w w' : World} {b : Nat} {ns : List Int} (h : NumRow w b ns) (hb : Below w.heap.size w w') : NumRow w' b ns := fun k hk => ⟨by
  rw [hb.cell (p := ⟨b, k, none⟩) (cell_block_lt (h k hk).1)]; exact (h k hk).1, (h k hk).2⟩

end Go.Proofs.YtidmhpeaehmmhabDoor
