/- The decimal figures of a number, and one byte as a text: what the loops that write numerals need. -/
import Derived.Test.YtidmhpeaehmmhaaDoorBytesC
namespace Go.Proofs.YtidmhpeaehmmhaaDoor
set_option maxRecDepth 100000
open Go.ChangeShapes Go.WideShapes Go.ChangeAt Go.RowKit

/-- The decimal figures of a number; none for 0. -/
def digs (n : Nat) : List UInt8 := if n = 0 then [] else digs (n / 10) ++ [UInt8.ofNat (48 + n % 10)]
  decreasing_by omega
theorem digs_zero : digs 0 = [] := by rw [digs]; simp
theorem digs_pos (n : Nat) (h : 0 < n) : digs n = digs (n / 10) ++ [UInt8.ofNat (48 + n % 10)] := by rw [digs, if_neg (by omega)]
theorem digs_len (n k : Nat) (h : n < 10 ^ k) : (digs n).length ≤ k := by
  induction k generalizing n with
  | zero => have : n = 0 := by simpa using h
            subst this; rw [digs_zero]; simp
  | succ k ih =>
    by_cases h0 : 0 < n
    · rw [digs_pos n h0]
      have := ih (n / 10) (by rw [Nat.pow_succ] at h; omega)
      simp; omega
    · have : n = 0 := by omega
      subst this; rw [digs_zero]; simp

theorem str_append (a b : List UInt8) : strOf a ++ strOf b = strOf (a ++ b) := by
  rw [ByteArray.mk_append_mk]

/-- One byte, as a text. -/
theorem convert_one (w : World) (x : Int) (c : UInt8) (hc : (c.toNat : Int) = x) :
    (Go.convert 22 9 (.slice (some ⟨w.heap.size, 0, none⟩) 1 1)).run Tryd.prog (w.alloc (.cells #[.int .u8 x] 5)) = .ok (.string (strOf [c])) (w.alloc (.cells #[.int .u8 x] 5)) := by
  refine run_convert_bytes_back (P := Tryd.prog) _ _ _ 5 ⟨w.heap.size, 0, none⟩ 1 [c] Tryd.underlying22 Tryd.underlying5 Tryd.underlying9 fun j hj => ?_
  match j, hj with
  | 0, _ =>
    rw [Addr.add_lit]
    simp only [List.getElem_cons_zero]
    rw [hc]
    go_simp

theorem last_dig (m : Nat) : ∃ c : UInt8, (c.toNat : Int) = 48 + (m : Int) % 10 ∧ (0 < m → digs m = digs (m / 10) ++ [c]) :=
  ⟨UInt8.ofNat (48 + m % 10), by rw [UInt8.toNat_ofNat']; omega, digs_pos m⟩

end Go.Proofs.YtidmhpeaehmmhaaDoor
