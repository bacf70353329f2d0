/- Hexadecimal figures: plain facts, and small steps of the walks of EncodeHex. -/
import Derived.Test.YtibdmidinopppaaDoorBytesC
import Derived.Deep.RegionHeld3
import Derived.Deep.AppendLies
import Derived.Outline
import Derived.Lib.Hide
namespace Go.Proofs.YtibdmidinopppaaDoor
open Go.ChangeShapes Go.WideShapes Go.ChangeAt Go.RowKit

theorem ret_int8 {k : IntKind} {a b : Int} (h : a = b) : Ending.returned (.int k a) = .returned (.int k b) := by rw [h]

/-- A hexadecimal figure. -/
def figI (x : Int) : Int := if x < 10 then 48 + x else 87 + x

def fig (n : Nat) : UInt8 := if n < 10 then UInt8.ofNat (48 + n) else UInt8.ofNat (87 + n)

theorem fig_eq (n : Nat) (h : n < 16) : ((fig n).toNat : Int) = figI n := by
  unfold fig figI
  split
  · rw [UInt8.toNat_ofNat']; omega
  · rw [UInt8.toNat_ofNat']; omega

/-- What EncodeHex makes of bytes. -/
def hexOf (l : List UInt8) : List UInt8 := l.flatMap fun c => [fig (c.toNat / 16), fig (c.toNat % 16)]

theorem hexOf_length (l : List UInt8) : (hexOf l).length = 2 * l.length := by
  induction l with
  | nil => rfl
  | cons c l ih => simp only [hexOf, List.flatMap_cons, List.length_append, List.length_cons, List.length_nil] at *; omega

theorem hexOf_snoc (l : List UInt8) (c : UInt8) : hexOf (l ++ [c]) = hexOf l ++ [fig (c.toNat / 16), fig (c.toNat % 16)] := by simp [hexOf]

theorem byte_lt (b : UInt8) : (b.toNat : Int) < 256 := by have := b.toNat_lt; omega

theorem own_below {w wr w1 : World} {v : Value} {l : List UInt8} {o : Obj} (hown : OwnsBytes wr w.heap.size v l) (hbel : Below w.heap.size w wr) (hg : ((wr.alloc o).drew).grownBy w1 v.ownBlock) : Below w.heap.size w w1 :=
  ((hbel.alloc hbel.size o).drew).grown hg (by have := hbel.size; simp; omega) (fun k hk => (hown.lt k hk).1)

theorem hex_step {w1 : World} {B : Nat} {v : Value} (s : ByteArray) (k : Nat) (hlt : k < s.size)
    (h : w1.ownsRow B 5 1 v ((hexOf (s.data.toList.take k)).length + 2) (bv (hexOf (s.data.toList.take k)) ++ [.int .u8 (figI (s[k].toNat / 16)), .int .u8 (figI (s[k].toNat % 16))])) :
    OwnsBytes w1 B v (hexOf (s.data.toList.take (k + 1))) := by
  have hb := s[k].toNat_lt
  rw [take_snoc s k hlt, hexOf_snoc]
  unfold OwnsBytes
  rw [bv_append, List.length_append]
  have e1 := fig_eq (s[k].toNat / 16) (by omega)
  have e2 := fig_eq (s[k].toNat % 16) (by omega)
  have e : bv [fig (s[k].toNat / 16), fig (s[k].toNat % 16)] = [.int .u8 (figI ((s[k].toNat : Int) / 16)), .int .u8 (figI ((s[k].toNat : Int) % 16))] := by
    simp only [bv, List.map_cons, List.map_nil, e1, e2]
    rfl
  rw [e]
  exact h

theorem and15 (b : UInt8) : bits .and .u8 (b.toNat : Int) 15 = (b.toNat : Int) % 16 := by
  have hb := b.toNat_lt
  have h1 : (BitVec.ofInt 8 (b.toNat : Int)).toNat = b.toNat := by
    rw [BitVec.ofInt_natCast, BitVec.toNat_ofNat]; exact Nat.mod_eq_of_lt (by omega)
  have h2 : (BitVec.ofInt 8 (15 : Int)).toNat = 15 := by decide
  show IntKind.u8.wrap ((BitVec.ofInt 8 (b.toNat : Int) &&& BitVec.ofInt 8 15).toNat : Int) = _
  rw [BitVec.toNat_and, h1, h2, show (15 : Nat) = 2 ^ 4 - 1 from rfl, Nat.and_two_pow_sub_one_eq_mod, IntKind.wrap_u8]
  omega

/-- The sixteen figures. -/
abbrev figs : ByteArray := ⟨#[48, 49, 50, 51, 52, 53, 54, 55, 56, 57, 97, 98, 99, 100, 101, 102]⟩

theorem figs_at (n : Nat) (h : n < 16) (w : World) : (Instr.index 9 (.string figs) (.int .u8 (n : Int))).run Tryd.prog w = .ok (.int .u8 (figI n)) w := by
  rcases (by omega : n = 0 ∨ n = 1 ∨ n = 2 ∨ n = 3 ∨ n = 4 ∨ n = 5 ∨ n = 6 ∨ n = 7 ∨ n = 8 ∨ n = 9 ∨ n = 10 ∨ n = 11 ∨ n = 12 ∨ n = 13 ∨ n = 14 ∨ n = 15) with rfl | rfl | rfl | rfl | rfl | rfl | rfl | rfl | rfl | rfl | rfl | rfl | rfl | rfl | rfl | rfl
  all_goals rfl
end Go.Proofs.YtibdmidinopppaaDoor
