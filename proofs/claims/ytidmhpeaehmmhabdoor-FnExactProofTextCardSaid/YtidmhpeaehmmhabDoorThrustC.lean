/- Thrusts: the struct as it comes in; ThrustOk of the program and of the model. -/
import Derived.Test.YtidmhpeaehmmhabDoorThrustG
import Derived.Deep.RegionWith
namespace Go.Proofs.YtidmhpeaehmmhabDoor
set_option maxRecDepth 100000
open Go.ChangeShapes Go.WideShapes Go.ChangeAt Go.RowKit

/-- A thrust, as a value. -/
abbrev tv (h v m d : Int) : Value := .agg #[.int .i64 h, .int .i64 v, .int .i64 m, .int .i64 d]
theorem array4T {α : Type} {cs : Array α} (h : cs.size = 4) : ∃ a b c d, cs = #[a, b, c, d] := by
  obtain ⟨l⟩ := cs
  match l, h with
  | [a, b, c, d], _ => exact ⟨a, b, c, d, rfl⟩

/-- A struct of four fields, field by field. -/
theorem four_fields {H : Type} {enc : TypeId × Value → H} {P : Program} {w : World} {base fuel : Nat} {spare : Nat → Bool} {held : Bool} {t : TypeId} {f0 f1 f2 f3 : Field} {cs : List Value} {x : DataW H × List MemPlace}
    (ht : P.underlying t = some (.struct #[f0, f1, f2, f3])) (h : DataW.trod enc P w base spare held fuel t cs = some x) :
    ∃ y0 y1 y2 y3 n, DataW.trod enc P w base spare held n f0.type ((cs.drop f0.offset).take (P.cellsOf f0.type)) = some y0 ∧ DataW.trod enc P w base spare held n f1.type ((cs.drop f1.offset).take (P.cellsOf f1.type)) = some y1 ∧
      DataW.trod enc P w base spare held n f2.type ((cs.drop f2.offset).take (P.cellsOf f2.type)) = some y2 ∧ DataW.trod enc P w base spare held n f3.type ((cs.drop f3.offset).take (P.cellsOf f3.type)) = some y3 := by
  obtain ⟨xs, n, -, -, -, hlen, hg⟩ := DataW.trod_struct ht h
  match xs, hlen with
  | [y0, y1, y2, y3], _ => exact ⟨y0, y1, y2, y3, n, by simpa using hg 0 f0 rfl, by simpa using hg 1 f1 rfl, by simpa using hg 2 f2 rfl, by simpa using hg 3 f3 rfl⟩

theorem okT_d {h v m d : Int} (hd : inR d 1 1000000 = false) : okT h v m d = false := by unfold okT; rw [hd]; rfl
theorem okT_h {h v m d : Int} (hh : inR h 0 1000000000000 = false) : okT h v m d = false := by unfold okT; rw [hh]; simp
theorem okT_v {h v m d : Int} (hv : inR v (-10000000000000) 10000000000000 = false) : okT h v m d = false := by unfold okT; rw [hv]; simp
theorem okT_m {h v m d : Int} (hm : inR m (-10000000000000) 10000000000000 = false) : okT h v m d = false := by unfold okT; rw [hm]; simp
theorem okT_yes {h v m d : Int} (hd : inR d 1 1000000 = true) (hh : inR h 0 1000000000000 = true) (hv : inR v (-10000000000000) 10000000000000 = true) (hm : inR m (-10000000000000) 10000000000000 = true) :
    okT h v m d = decide (((gcd4 h v m d : Nat) : Int) = 1) := by
  unfold okT; rw [hd, hh, hv, hm, Bool.eq_iff_iff]; simp <;> omega

theorem gcd_bd (a b : Int) (ha : a.natAbs ≤ 9223372036854775807) (hb : b.natAbs ≤ 9223372036854775807) : Nat.gcd a.natAbs b.natAbs ≤ 9223372036854775807 := by
  by_cases h0 : b.natAbs = 0
  · rw [h0, Nat.gcd_zero_right]; exact ha
  · exact Nat.le_trans (Nat.le_of_dvd (by omega) (Nat.gcd_dvd_right _ _)) hb
theorem inR_abs {n a b : Int} (h : inR n a b = true) (ha : -9223372036854775807 ≤ a) (hb : b ≤ 9223372036854775807) : n.natAbs ≤ 9223372036854775807 := by
  have := inR_iff.1 h
  omega


end Go.Proofs.YtidmhpeaehmmhabDoor
