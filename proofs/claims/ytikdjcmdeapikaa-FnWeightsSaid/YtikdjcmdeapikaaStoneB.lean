/- The contracts of BoxOf, the program's and the model's. -/
import Derived.Test.YtikdjcmdeapikaaStoneI
import Derived.Test.YtikdjcmdeapikaaStoneS
import Derived.Deep.Cut
import Derived.Deep.CutRange
namespace Go.Proofs.Ytikdjcmdeapikaa
open Go.ChangeShapes Go.WideShapes Go.ChangeAt Go.RowKit

/-- The least and the greatest coordinates of the first k corners (and the first one). -/
def loX (cs : List (Int × Int)) : Nat → Int
  | 0 => (pt cs 0).1
  | k + 1 => min (loX cs k) (pt cs k).1
def loY (cs : List (Int × Int)) : Nat → Int
  | 0 => (pt cs 0).2
  | k + 1 => min (loY cs k) (pt cs k).2
def hiX (cs : List (Int × Int)) : Nat → Int
  | 0 => (pt cs 0).1
  | k + 1 => max (hiX cs k) (pt cs k).1
def hiY (cs : List (Int × Int)) : Nat → Int
  | 0 => (pt cs 0).2
  | k + 1 => max (hiY cs k) (pt cs k).2
/-- What BoxOf answers. -/
def boxV (cs : List (Int × Int)) (q : List (Int × Int) → Nat → Int) : Int := if stoneV cs then q cs cs.length else 0

theorem imin (a b : Int) : (if b < a then b else a) = min a b := by rw [Int.min_def]; split <;> split <;> omega
theorem imaxB (a b : Int) : (if a < b then b else a) = max a b := by rw [Int.max_def]; split <;> split <;> omega
theorem cda (w : World) (n : Nat) (o : Obj) (a : Addr) : ((w.drewN n).alloc o).cell? a = (w.alloc o).cell? a := rfl
theorem fda (w : World) (n : Nat) (o : Obj) (a : Addr) : ((w.drewN n).alloc o).frozen? a = (w.alloc o).frozen? a := rfl
theorem cda2 (w : World) (n : Nat) (o o' : Obj) (a : Addr) : (((w.drewN n).alloc o).alloc o').cell? a = ((w.alloc o).alloc o').cell? a := rfl
theorem fda2 (w : World) (n : Nat) (o o' : Obj) (a : Addr) : (((w.drewN n).alloc o).alloc o').frozen? a = ((w.alloc o).alloc o').frozen? a := rfl
theorem below_al {a w : World} (h : Below a.heap.size a w) (o : Obj) : Below a.heap.size a (w.alloc o) := h.alloc h.size o

end Go.Proofs.Ytikdjcmdeapikaa
