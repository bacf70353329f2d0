/- Standing, of the model: StandsWith and FirstThrust. -/
import Derived.Test.YtbmlcfdilopmgaaGCond
import Derived.Test.YtbmlcfdilopmgaaStandC
import Derived.Test.YtbmlcfdilopmgaaThrustX
namespace Go.Proofs.Ytbmlcfdilopmgaa
set_option maxRecDepth 100000
open Go.ChangeShapes Go.WideShapes Go.ChangeAt Go.RowKit

/-- What is known of the rows of a drawn arch that stands. -/
theorem standK_rows {js : List Jt} {ls : List Ld} (h : StandK js ls) : loadsV js ls = true ∧ cdsOk (cdsV js ls) = true := by
  rcases h with h | ⟨rfl, rfl⟩
  · unfold stB at h
    have h0 := of_decide_eq_true h
    cases hl : loadsV js ls
    · rw [rowsV_l hl, coV_no (by decide)] at h0
      exact absurd h0 (Nat.lt_irrefl 0)
    · cases hc : cdsOk (cdsV js ls)
      · rw [rowsV_c hc, coV_no (by decide)] at h0
        exact absurd h0 (Nat.lt_irrefl 0)
      · exact ⟨rfl, rfl⟩
  · exact ⟨by decide +kernel, by decide +kernel⟩
theorem standK_len {js : List Jt} {ls : List Ld} (h : StandK js ls) : (rowsV js ls).length = 2 * js.length + 1 := by
  rw [rowsV_yes (standK_rows h).1 (standK_rows h).2, cdsV_length]


/-- A thrust and whether there is one were answered. -/
def FtAns (w : World) (F : Cd) (o : Bool) (e : Ending) (w' : World) : Prop := e = .returned (.tuple #[.agg #[.int .i64 F.1, .int .i64 F.2.1, .int .i64 F.2.2.1, .int .i64 F.2.2.2], .bool o]) ∧ Below w.heap.size w w'
/-- Four cells of a box are written. -/
theorem tset {w : World} {b : Nat} {h v m d : Value} (H V M D : Int) (h0 : w.cell? ⟨b, 0, none⟩ = some h) (h1 : w.cell? ⟨b, 1, none⟩ = some v) (h2 : w.cell? ⟨b, 2, none⟩ = some m) (h3 : w.cell? ⟨b, 3, none⟩ = some d) :
    TBox ((((w.setCell ⟨b, 0, none⟩ (.int .i64 H)).setCell ⟨b, 1, none⟩ (.int .i64 V)).setCell ⟨b, 2, none⟩ (.int .i64 M)).setCell ⟨b, 3, none⟩ (.int .i64 D)) b H V M D := by
  refine ⟨?_, ?_, ?_, ?_⟩ <;> go_simp
theorem tset_below {w0 w : World} {B b : Nat} (hb : Below B w0 w) (hB : B ≤ b) (H V M D : Value) :
    Below B w0 ((((w.setCell ⟨b, 0, none⟩ H).setCell ⟨b, 1, none⟩ V).setCell ⟨b, 2, none⟩ M).setCell ⟨b, 3, none⟩ D) := (((hb.setCell (p := ⟨b, 0, none⟩) hB H).setCell (p := ⟨b, 1, none⟩) hB V).setCell (p := ⟨b, 2, none⟩) hB M).setCell (p := ⟨b, 3, none⟩) hB D

/-- The first thrust; the zero thrust where there is none. -/
def firV (js : List Jt) (ls : List Ld) : Cd := cd (coV (rowsV js ls)) 0
end Go.Proofs.Ytbmlcfdilopmgaa
