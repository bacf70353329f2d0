/- The program's LoadsOk, WeightLeft, MomentLeft, TotalOf. -/
import Derived.Test.YtiallkkleilgiaaLoadU
import Derived.Test.YtiallkkleilgiaaLoadA
namespace Go.Proofs.Ytiallkkleilgiaa
set_option maxRecDepth 100000
open Go.ChangeShapes Go.WideShapes Go.ChangeAt Go.RowKit

theorem burden_f0 : ∀ (x y : Int) (W : World), (Instr.field 111 (.agg #[.int .i64 x, .int .i64 y]) 0).run Try.prog W = .ok (.int .i64 x) W := fun _ _ _ => by kernel_rfl
theorem burden_f1 : ∀ (x y : Int) (W : World), (Instr.field 111 (.agg #[.int .i64 x, .int .i64 y]) 1).run Try.prog W = .ok (.int .i64 y) W := fun _ _ _ => by kernel_rfl
theorem left_w {js : List Jt} {ls : List Ld} {n m K : Nat} (h : loadsV js ls = true) (hn : js.length = n) (hm : ls.length = m) (hK : K < n) :
    sumTo (fun i => weightV (st (stonesTo js (n - 1)) i)) K + sumTo (befF ldw ls K) m = leftF wL js ls K := by
  subst hn hm
  rw [leftF_yes h hK, show sumTo (fun i => weightV (st (stonesTo js (js.length - 1)) i)) K = sumTo (wK js) K from sumTo_congr _ fun i hi => by rw [st_stonesTo _ _ _ (by omega)]; rfl]
  unfold wL
  rw [stF_sum wK ldw js ls fun i hi => (ldOk_iff.1 ((loadsV_iff.1 h).2.2 i hi)).1.1]
theorem left_m {js : List Jt} {ls : List Ld} {n m K : Nat} (h : loadsV js ls = true) (hn : js.length = n) (hm : ls.length = m) (hK : K < n) :
    sumTo (fun i => momV (st (stonesTo js (n - 1)) i)) K + sumTo (befF ldm ls K) m = leftF mL js ls K := by
  subst hn hm
  rw [leftF_yes h hK, show sumTo (fun i => momV (st (stonesTo js (js.length - 1)) i)) K = sumTo (mK js) K from sumTo_congr _ fun i hi => by rw [st_stonesTo _ _ _ (by omega)]; rfl]
  unfold mL
  rw [stF_sum mK ldm js ls fun i hi => (ldOk_iff.1 ((loadsV_iff.1 h).2.2 i hi)).1.1]

theorem burdenLeft (w W : World) (B2 g n cap sg sc : Nat) (la : Option Addr) (m lc : Nat) (js : List Jt) (ls : List Ld) (k : Int) (hb : Built w W js n sg sc) (hl : Lds W B2 la m lc ls) (h : loadsV js ls = true) (hn : js.length = n) :
    Calls Try.prog 63 #[.agg #[.slice (some ⟨g, 0, none⟩) n cap, .slice (some ⟨sg, 0, none⟩) (n - 1) sc, .slice la m lc], .int .i64 k] W fun e w' => e = .returned (.agg #[.int .i64 (leftF wL js ls k), .int .i64 (leftF mL js ls k)]) ∧ Below W.heap.size W w' := by
  by_cases hk : 0 ≤ k ∧ k < (n : Int)
  · obtain ⟨K, rfl⟩ : ∃ K : Nat, k = K := ⟨k.toNat, by omega⟩
    have hm := hl.2
    obtain ⟨h1, h6, hok⟩ := loadsV_iff.1 h
    have h38 := arch_size h1
    rw [← left_w h hn hm (by omega), ← left_m h hn hm (by omega)]
    exact burdenYes W w.heap.size B2 (some ⟨g, 0, none⟩) la sg n cap (n - 1) sc m lc K js.length (stonesTo js (n - 1)) ls hb.1 (stonesTo_length _ _) hb.2.2.1 hl (by omega) hok (by omega) (by omega) (by omega)
  · rw [leftF_no (f := wL) (by rw [hn]; omega), leftF_no (f := mL) (by rw [hn]; omega)]
    exact burdenNo W _ _ _ _ _ _ _ _ _ k hk




end Go.Proofs.Ytiallkkleilgiaa
