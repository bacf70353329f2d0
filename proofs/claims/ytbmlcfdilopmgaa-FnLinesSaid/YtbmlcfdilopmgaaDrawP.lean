/- A pick out of a list of ints of which something is known. -/
import Derived.Test.YtbmlcfdilopmgaaDrawC
namespace Go.Proofs.Ytbmlcfdilopmgaa
set_option maxRecDepth 100000
open Go.ChangeShapes Go.WideShapes Go.ChangeAt Go.RowKit

/-- A list of ints that meet P lies at block bl: m of them. -/
def PIntsAt (P : Int → Prop) (w : World) (bl m : Nat) : Prop := ∀ k : Nat, k < m → ∃ v : Int, P v ∧ w.cell? ⟨bl, k, none⟩ = some (.int .i64 v)
theorem PIntsAt.grown {P : Int → Prop} {w w' : World} {bl m bc : Nat} (h : PIntsAt P w bl m) (hg : w.grownBy w' (some bc)) (hne : bl ≠ bc) : PIntsAt P w' bl m := fun k hk => by
  obtain ⟨v, hv, hc⟩ := h k hk
  exact ⟨v, hv, hg.cell hc (by simpa using hne)⟩

set_option maxHeartbeats 400000 in
theorem pickInt_of (P : Int → Prop) (w : World) (bc : Nat) (a : Option Addr) (n cap : Nat) (bl m cp : Nat) (hm0 : 0 < m) (hm : m ≤ 1000000) (hne : bl ≠ bc) (hl : PIntsAt P w bl m) (hc : CurOk w bc a n cap) :
    Calls Try.prog 72 #[.pointer (some ⟨bc, 0, none⟩), .slice (some ⟨bl, 0, none⟩) m cp] w (Drawn P bc a n cap w) := by
  have HL := Lib.hid hl
  clear hl
  go_enter Try.func72, Try.ntmps72
  go_wp2_with fail
  refine (below_any _ _ _ _ _ _ (by omega) hc).mono ?_
  rintro e w1 ⟨x, ⟨hx0, hx1, -⟩, rfl, hc1, hg1⟩
  obtain ⟨k, rfl⟩ := Int.eq_ofNat_of_zero_le hx0
  have hk := hx1 (by omega)
  obtain ⟨v, hv, hcell⟩ := (HL.out.grown hg1 hne) k (by omega)
  have HV := Lib.hid hv
  clear hx1 hv
  go_wp2_with fail
  go_ret
  exact ⟨v, HV.out, rfl, hc1, hg1⟩
end Go.Proofs.Ytbmlcfdilopmgaa
