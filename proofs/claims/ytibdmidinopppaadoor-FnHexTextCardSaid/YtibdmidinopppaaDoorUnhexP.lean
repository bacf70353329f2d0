/- What hexadecimal figures stand for: plain facts, and small steps of the walks of DecodeHex. -/
import Derived.Test.YtibdmidinopppaaDoorBytesC
import Derived.Deep.AppendLies
import Derived.Outline
import Derived.Lib.Hide
import Derived.Shelf.Small.Strs
namespace Go.Proofs.YtibdmidinopppaaDoor
open Go.ChangeShapes Go.WideShapes Go.ChangeAt Go.RowKit

/-- The value of a hexadecimal figure, or -1. -/
def valI (c : Int) : Int := if 48 ≤ c ∧ c ≤ 57 then c - 48 else if 97 ≤ c ∧ c ≤ 102 then c - 87 else -1

theorem valI_bd (c : Int) : -1 ≤ valI c ∧ valI c ≤ 15 := by unfold valI; split <;> try split
                                                            all_goals omega

/-- What the first k pairs of figures stand for. -/
def unhexTo (l : List UInt8) : Nat → Option (List UInt8)
  | 0 => some []
  | k + 1 => match unhexTo l k with
    | none => none
    | some r => if valI (l.getD (2 * k) 0).toNat < 0 ∨ valI (l.getD (2 * k + 1) 0).toNat < 0 then none
      else some (r ++ [UInt8.ofNat (16 * valI (l.getD (2 * k) 0).toNat + valI (l.getD (2 * k + 1) 0).toNat).toNat])

theorem unhexTo_length (l : List UInt8) (k : Nat) (r : List UInt8) (h : unhexTo l k = some r) : r.length = k := by
  induction k generalizing r with
  | zero => simp [unhexTo] at h; simp [← h]
  | succ k ih =>
    unfold unhexTo at h
    split at h
    · cases h
    · rename_i r' hr'
      split at h
      · cases h
      · cases h
        simp [ih r' hr']

theorem unhexTo_none (l : List UInt8) (k m : Nat) (h : unhexTo l k = none) (hkm : k ≤ m) : unhexTo l m = none := by
  obtain ⟨d, rfl⟩ : ∃ d, m = k + d := ⟨m - k, by omega⟩
  clear hkm
  induction d with
  | zero => exact h
  | succ d ih => show unhexTo l (k + d + 1) = none; unfold unhexTo; rw [ih]

/-- What DecodeHex answers to an even text. -/
def decOf (s : ByteArray) : List UInt8 × Bool := match unhexTo s.data.toList (s.size / 2) with
  | some r => (r, true)
  | none => ([], false)

theorem getD_at (s : ByteArray) (j : Nat) (h : j < s.size) : s.data.toList.getD j 0 = s[j] := by
  rw [List.getD_eq_getElem?_getD, List.getElem?_eq_getElem (by simpa using h)]; rfl

theorem step_none {s : ByteArray} {j : Nat} {r : List UInt8} (he : j % 2 = 0) (h1 : j + 1 < s.size) (hr : unhexTo s.data.toList (j / 2) = some r)
    (hv : valI (s[j].toNat : Int) < 0 ∨ valI (s[j + 1].toNat : Int) < 0) : decOf s = ([], false) := by
  have h2 : unhexTo s.data.toList (j / 2 + 1) = none := by
    unfold unhexTo
    rw [hr]
    simp only
    rw [show 2 * (j / 2) = j by omega, getD_at s j (by omega), getD_at s (j + 1) h1, if_pos hv]
  have h3 := unhexTo_none _ _ (s.size / 2) h2 (by omega)
  unfold decOf
  rw [h3]

theorem step_some {s : ByteArray} {j : Nat} {r : List UInt8} (he : j % 2 = 0) (h1 : j + 1 < s.size) (hr : unhexTo s.data.toList (j / 2) = some r)
    (hv1 : ¬ valI (s[j].toNat : Int) < 0) (hv2 : ¬ valI (s[j + 1].toNat : Int) < 0) :
    unhexTo s.data.toList ((j + 2) / 2) = some (r ++ [UInt8.ofNat (16 * valI (s[j].toNat : Int) + valI (s[j + 1].toNat : Int)).toNat]) := by
  rw [show (j + 2) / 2 = j / 2 + 1 by omega]
  unfold unhexTo
  rw [hr]
  simp only
  rw [show 2 * (j / 2) = j by omega, getD_at s j (by omega), getD_at s (j + 1) h1, if_neg (by omega)]

theorem index_fin : ∀ c : Fin 256, Lib.indexByte [48, 49, 50, 51, 52, 53, 54, 55, 56, 57, 97, 98, 99, 100, 101, 102] (UInt8.ofNat c.val) = valI c.val := by decide +kernel

theorem or_fin : ∀ h l : Fin 16, bits .or .i64 ((h.val : Int) * 16) (l.val : Int) = (h.val : Int) * 16 + (l.val : Int) := by decide +kernel

theorem or16 (h l : Int) (h0 : 0 ≤ h) (h1 : h ≤ 15) (l0 : 0 ≤ l) (l1 : l ≤ 15) : bits .or .i64 (h * 16) l = h * 16 + l := by
  obtain ⟨a, rfl⟩ := Int.eq_ofNat_of_zero_le h0
  obtain ⟨b, rfl⟩ := Int.eq_ofNat_of_zero_le l0
  exact or_fin ⟨a, by omega⟩ ⟨b, by omega⟩

theorem byte_rng (b : UInt8) : 0 ≤ (b.toNat : Int) ∧ (b.toNat : Int) ≤ 255 := by have := b.toNat_lt; omega

/-- A step of the collected bytes. -/
theorem unhex_own {w1 : World} {B : Nat} {v : Value} {r : List UInt8} {x : Int} (h0 : 0 ≤ x) (h1 : x ≤ 255)
    (h : w1.ownsRow B 5 1 v (r.length + 1) (bv r ++ [.int .u8 x])) : OwnsBytes w1 B v (r ++ [UInt8.ofNat x.toNat]) := by
  unfold OwnsBytes
  rw [bv_append, List.length_append]
  have e : bv [UInt8.ofNat x.toNat] = [.int .u8 x] := by
    simp only [bv, List.map_cons, List.map_nil, UInt8.toNat_ofNat']
    rw [show ((x.toNat % 2 ^ 8 : Nat) : Int) = x by omega]
  rw [e]
  exact h

theorem own_below1 {w wr w1 : World} {v : Value} {l : List UInt8} {o : Obj} (hown : OwnsBytes wr w.heap.size v l) (hbel : Below w.heap.size w wr) (hg : (wr.alloc o).grownBy w1 v.ownBlock) : Below w.heap.size w w1 :=
  (hbel.alloc hbel.size o).grown hg (by have := hbel.size; simp; omega) (fun k hk => (hown.lt k hk).1)

/-- The relation of both loops: j bytes of the text are read; what their pairs stand for is collected. -/
def UnhexRel (s : ByteArray) (w : World) (v i : Value) (wr : World) : Prop :=
  ∃ (j : Nat) (r : List UInt8), j ≤ s.size ∧ j % 2 = 0 ∧ i = .int .i64 j ∧ unhexTo s.data.toList (j / 2) = some r ∧ OwnsBytes wr w.heap.size v r ∧ Below w.heap.size w wr

/-- What both answer to a text of even length. -/
def UnhexPost (s : ByteArray) (w : World) (e : Ending) (w' : World) : Prop := e = .returned (.tuple #[.string (strOf (decOf s).1), .bool (decOf s).2]) ∧ Below w.heap.size w w'

theorem post_none {s : ByteArray} {w w' : World} (h : decOf s = ([], false)) (hb : Below w.heap.size w w') : UnhexPost s w (.returned (.tuple #[.string (strOf []), .bool false])) w' := by
  unfold UnhexPost; rw [h]; exact ⟨rfl, hb⟩

theorem post_some {s : ByteArray} {w w' : World} {r : List UInt8} (h : unhexTo s.data.toList (s.size / 2) = some r) (hb : Below w.heap.size w w') : UnhexPost s w (.returned (.tuple #[.string (strOf r), .bool true])) w' := by
  unfold UnhexPost decOf; rw [h]; exact ⟨rfl, hb⟩
end Go.Proofs.YtibdmidinopppaaDoor
