/- Lists of conditions: FulfillsAll and CountBroken of the program and of the model; whether all are valid. -/
import Derived.Test.YtidmhpeaehmmhabDoorCondC
import Derived.Test.YtidmhpeaehmmhabDoorCdL
namespace Go.Proofs.YtidmhpeaehmmhabDoor
set_option maxRecDepth 100000
open Go.ChangeShapes Go.WideShapes Go.ChangeAt Go.RowKit

/-- A thrust in its box. -/
def TBox (W : World) (H : Nat) (h v m d : Int) : Prop :=
  W.cell? ⟨H, 0, none⟩ = some (.int .i64 h) ∧ W.cell? ⟨H, 1, none⟩ = some (.int .i64 v) ∧ W.cell? ⟨H, 2, none⟩ = some (.int .i64 m) ∧ W.cell? ⟨H, 3, none⟩ = some (.int .i64 d)
theorem TBox.below {w w' : World} {H : Nat} {h v m d : Int} (x : TBox w H h v m d) (hb : Below w.heap.size w w') : TBox w' H h v m d :=
  ⟨tcell x.1 hb, tcell x.2.1 hb, tcell x.2.2.1 hb, tcell x.2.2.2 hb⟩

theorem cd_al (w : World) (o : Obj) : Below w.heap.size w (w.alloc o) := (Below.refl w.heap.size w).alloc (Nat.le_refl _) o
def cdOkAt (rs : List Cd) (i : Nat) : Bool := cdOk (cd rs i).1 (cd rs i).2.1 (cd rs i).2.2.1 (cd rs i).2.2.2
def cdsOk (rs : List Cd) : Bool := allV rs.length (cdOkAt rs)

/-- Conditions in the cells of a slice, whoever made its block. -/
structure CdCells (w : World) (a : Option Addr) (n cap : Nat) (rs : List Cd) : Prop where
  cap : n ≤ cap ∧ cap ≤ maxLen
  len : rs.length = n
  each : ∀ i, i < n → ∃ g, a = some ⟨g, 0, Option.none⟩ ∧ True ∧ w.cell? ⟨g, i * 4, Option.none⟩ = some (.int .i64 (cd rs i).1) ∧ w.cell? ⟨g, i * 4 + 1, Option.none⟩ = some (.int .i64 (cd rs i).2.1) ∧ w.cell? ⟨g, i * 4 + 2, Option.none⟩ = some (.int .i64 (cd rs i).2.2.1) ∧ w.cell? ⟨g, i * 4 + 3, Option.none⟩ = some (.int .i64 (cd rs i).2.2.2)
theorem CdCells.below {w w' : World} {n cap : Nat} {a : Option Addr} {rs : List Cd} (h : CdCells w a n cap rs) (hb : Below w.heap.size w w') : CdCells w' a n cap rs :=
  ⟨h.cap, h.len, fun i hi => by obtain ⟨g, e, t, h0, h1, h2, h3⟩ := h.each i hi; exact ⟨g, e, t, tcell h0 hb, tcell h1 hb, tcell h2 hb, tcell h3 hb⟩⟩

end Go.Proofs.YtidmhpeaehmmhabDoor
