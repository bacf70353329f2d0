/- The program's LoadsOk, WeightLeft, MomentLeft, TotalOf. -/
import Derived.Test.YthkabimaebglhaaLoadU
import Derived.Test.YthkabimaebglhaaLoadA
namespace Go.Proofs.Ythkabimaebglhaa
set_option maxRecDepth 100000
open Go.ChangeShapes Go.WideShapes Go.ChangeAt Go.RowKit

theorem burden_f0 : ∀ (x y : Int) (W : World), (Instr.field 69 (.agg #[.int .i64 x, .int .i64 y]) 0).run Try.prog W = .ok (.int .i64 x) W := fun _ _ _ => by kernel_rfl
theorem burden_f1 : ∀ (x y : Int) (W : World), (Instr.field 69 (.agg #[.int .i64 x, .int .i64 y]) 1).run Try.prog W = .ok (.int .i64 y) W := fun _ _ _ => by kernel_rfl
theorem left_w {js : List Jt} {ls : List Ld} {n m K : Nat} (h : loadsV js ls = true) (hn : js.length = n) (hm : ls.length = m) (hK : K < n) :
    sumTo (fun i => weightV (st (stonesTo js (n - 1)) i)) K + sumTo (befF ldw ls K) m = leftF wL js ls K := by
  subst hn hm
  rw [leftF_yes h hK, show sumTo (fun i => weightV (st (stonesTo js (js.length - 1)) i)) K = sumTo (wK js) K from sumTo_congr _ fun i hi => by rw [st_stonesTo _ _ _ (by omega)]; rfl]
  unfold wL
  rw [stF_sum wK ldw js ls fun i hi => (ldOk_iff.1 ((loadsV_iff.1 h).2.2 i hi)).1.1]
theorem left_m {js : List Jt} {ls : List Ld} {n m K : Nat} (h : loadsV js ls = true) (hn : js.length = n) (hm : ls.length = m) (hK : K < n) :
    sumTo (fun i => momV (st (stonesTo js (n - 1)) i)) K + sumTo (befF ldm ls K) m = leftF mL js ls K := by
  subst hn hm
  rw [leftF_yes h hK, show sumTo (fun i => momV (st (stonesTo js (js.length - 1)) i)) K = sumTo (mK js) K from sumTo_congr _ fun i hi => by rw [st_stonesTo _ _ _ (by omega)]; rfl]
  unfold mL
  rw [stF_sum mK ldm js ls fun i hi => (ldOk_iff.1 ((loadsV_iff.1 h).2.2 i hi)).1.1]

theorem burdenLeft (w W : World) (B2 g n cap sg sc : Nat) (la : Option Addr) (m lc : Nat) (js : List Jt) (ls : List Ld) (k : Int) (hb : Built w W js n sg sc) (hl : Lds W B2 la m lc ls) (h : loadsV js ls = true) (hn : js.length = n) :
    Calls Try.prog 36 #[.agg #[.slice (some ⟨g, 0, none⟩) n cap, .slice (some ⟨sg, 0, none⟩) (n - 1) sc, .slice la m lc], .int .i64 k] W fun e w' => e = .returned (.agg #[.int .i64 (leftF wL js ls k), .int .i64 (leftF mL js ls k)]) ∧ Below W.heap.size W w' := by
  by_cases hk : 0 ≤ k ∧ k < (n : Int)
  · obtain ⟨K, rfl⟩ : ∃ K : Nat, k = K := ⟨k.toNat, by omega⟩
    have hm := hl.2
    obtain ⟨h1, h6, hok⟩ := loadsV_iff.1 h
    have h38 := arch_size h1
    rw [← left_w h hn hm (by omega), ← left_m h hn hm (by omega)]
    exact burdenYes W w.heap.size B2 (some ⟨g, 0, none⟩) la sg n cap (n - 1) sc m lc K js.length (stonesTo js (n - 1)) ls hb.1 (stonesTo_length _ _) hb.2.2.1 hl (by omega) hok (by omega) (by omega) (by omega)
  · rw [leftF_no (f := wL) (by rw [hn]; omega), leftF_no (f := mL) (by rw [hn]; omega)]
    exact burdenNo W _ _ _ _ _ _ _ _ _ k hk

set_option maxHeartbeats 1000000 in
theorem implLoadsOk (w : World) (B B2 g cap n : Nat) (la : Option Addr) (m lc : Nat) (js : List Jt) (ls : List Ld) (hr : JRowAt w B g cap js) (hn : js.length = n) (hl : Lds w B2 la m lc ls) :
    Calls Try.prog 17 #[.agg #[.slice (some ⟨g, 0, none⟩) n cap], .slice la m lc] w fun e w' => e = .returned (.bool (loadsV js ls)) ∧ Below w.heap.size w w' := by
  have hb0 := (Below.refl w.heap.size w).alloc (Nat.le_refl _) (.cells #[.slice (some ⟨g, 0, none⟩) n cap] 26)
  have HR := Lib.hid (hr.below hb0)
  have HL := Lib.hid (hl.below hb0)
  have HB0 := Lib.hid hb0
  have HN := Lib.hid hn
  clear hr hn hl hb0
  cases h : loadsV js ls
  · have H := Lib.hid h
    clear h
    go_enter Try.func17, Try.ntmps17
    go_wp2_with fail
    refine (loadNo _ _ _ _ _ _ _ _ _ js ls HR.out HN.out HL.out H.out).mono ?_
    rintro e w1 ⟨rfl, hb1⟩
    have HB1 := Lib.hid (HB0.out.trans (hb1.mono HB0.out.size))
    have hz1 := HB1.out.size
    clear hb1
    go_wp2_with fail
    go_ret
    exact ⟨rfl, below_al3 HB1.out _⟩
  · have H := Lib.hid h
    clear h
    go_enter Try.func17, Try.ntmps17
    go_wp2_with fail
    refine (loadYes _ _ _ _ _ _ _ _ _ js ls HR.out HN.out HL.out H.out).mono ?_
    rintro e w1 ⟨sg, sc, rfl, hbu, hb1⟩
    have HB1 := Lib.hid (HB0.out.trans (hb1.mono HB0.out.size))
    have hz1 := HB1.out.size
    clear hb1 hbu
    go_wp2_with fail
    go_ret
    exact ⟨rfl, below_al3 HB1.out _⟩

set_option maxHeartbeats 1000000 in
theorem implWeightLeft (w : World) (B B2 g cap n : Nat) (la : Option Addr) (m lc : Nat) (js : List Jt) (ls : List Ld) (k : Int) (hr : JRowAt w B g cap js) (hn : js.length = n) (hl : Lds w B2 la m lc ls) :
    Calls Try.prog 11 #[.agg #[.slice (some ⟨g, 0, none⟩) n cap], .slice la m lc, .int .i64 k] w fun e w' => e = .returned (.int .i64 (leftF wL js ls k)) ∧ Below w.heap.size w w' := by
  have hb0 := (Below.refl w.heap.size w).alloc (Nat.le_refl _) (.cells #[.slice (some ⟨g, 0, none⟩) n cap] 26)
  have HR := Lib.hid (hr.below hb0)
  have HL := Lib.hid (hl.below hb0)
  have HB0 := Lib.hid hb0
  have HN := Lib.hid hn
  clear hr hn hl hb0
  cases h : loadsV js ls
  · have H := Lib.hid h
    have HV := Lib.hid (leftF_not (f := wL) h k)
    clear h
    go_enter Try.func11, Try.ntmps11
    go_wp2_with fail
    refine (loadNo _ _ _ _ _ _ _ _ _ js ls HR.out HN.out HL.out H.out).mono ?_
    rintro e w1 ⟨rfl, hb1⟩
    have HB1 := Lib.hid (HB0.out.trans (hb1.mono HB0.out.size))
    have hz1 := HB1.out.size
    clear hb1
    go_wp2_with fail
    have HB2 := Lib.hid (below_al3 HB1.out (.cells #[.slice none 0 0, .slice none 0 0, .slice none 0 0] 65))
    refine (burdenNo _ _ _ _ _ _ _ _ _ _ k (by omega)).mono ?_
    rintro e w2 ⟨rfl, hb2⟩
    have HB3 := Lib.hid (HB2.out.trans (hb2.mono HB2.out.size))
    clear hb2
    have hfd0 := burden_f0
    have hfd1 := burden_f1
    go_wp2_with fail
    go_ret
    exact ⟨ret_i64 HV.out.symm, HB3.out⟩
  · have H := Lib.hid h
    clear h
    go_enter Try.func11, Try.ntmps11
    go_wp2_with fail
    refine (loadYes _ _ _ _ _ _ _ _ _ js ls HR.out HN.out HL.out H.out).mono ?_
    rintro e w1 ⟨sg, sc, rfl, hbu, hb1⟩
    have hal : Below w1.heap.size w1 (w1.alloc (.cells #[.slice (some ⟨g, 0, none⟩) n cap, .slice (some ⟨sg, 0, none⟩) (n - 1) sc, .slice la m lc] 65)) := (Below.refl _ _).alloc (Nat.le_refl _) _
    have HBU := Lib.hid (hbu.below hal)
    have HL1 := Lib.hid ((HL.out.below hb1).below hal)
    have HB1 := Lib.hid (HB0.out.trans (hb1.mono HB0.out.size))
    have hz1 := HB1.out.size
    clear hb1 hbu hal
    go_wp2_with fail
    have HB2 := Lib.hid (below_al3 HB1.out (.cells #[.slice (some ⟨g, 0, none⟩) n cap, .slice (some ⟨sg, 0, none⟩) (n - 1) sc, .slice la m lc] 65))
    refine (burdenLeft _ _ _ _ _ _ _ _ _ _ _ js ls k HBU.out HL1.out H.out HN.out).mono ?_
    rintro e w2 ⟨rfl, hb2⟩
    have HB3 := Lib.hid (HB2.out.trans (hb2.mono HB2.out.size))
    clear hb2
    have hfd0 := burden_f0
    have hfd1 := burden_f1
    go_wp2_with fail
    go_ret
    exact ⟨rfl, HB3.out⟩

set_option maxHeartbeats 1000000 in
theorem implMomentLeft (w : World) (B B2 g cap n : Nat) (la : Option Addr) (m lc : Nat) (js : List Jt) (ls : List Ld) (k : Int) (hr : JRowAt w B g cap js) (hn : js.length = n) (hl : Lds w B2 la m lc ls) :
    Calls Try.prog 12 #[.agg #[.slice (some ⟨g, 0, none⟩) n cap], .slice la m lc, .int .i64 k] w fun e w' => e = .returned (.int .i64 (leftF mL js ls k)) ∧ Below w.heap.size w w' := by
  have hb0 := (Below.refl w.heap.size w).alloc (Nat.le_refl _) (.cells #[.slice (some ⟨g, 0, none⟩) n cap] 26)
  have HR := Lib.hid (hr.below hb0)
  have HL := Lib.hid (hl.below hb0)
  have HB0 := Lib.hid hb0
  have HN := Lib.hid hn
  clear hr hn hl hb0
  cases h : loadsV js ls
  · have H := Lib.hid h
    have HV := Lib.hid (leftF_not (f := mL) h k)
    clear h
    go_enter Try.func12, Try.ntmps12
    go_wp2_with fail
    refine (loadNo _ _ _ _ _ _ _ _ _ js ls HR.out HN.out HL.out H.out).mono ?_
    rintro e w1 ⟨rfl, hb1⟩
    have HB1 := Lib.hid (HB0.out.trans (hb1.mono HB0.out.size))
    have hz1 := HB1.out.size
    clear hb1
    go_wp2_with fail
    have HB2 := Lib.hid (below_al3 HB1.out (.cells #[.slice none 0 0, .slice none 0 0, .slice none 0 0] 65))
    refine (burdenNo _ _ _ _ _ _ _ _ _ _ k (by omega)).mono ?_
    rintro e w2 ⟨rfl, hb2⟩
    have HB3 := Lib.hid (HB2.out.trans (hb2.mono HB2.out.size))
    clear hb2
    have hfd0 := burden_f0
    have hfd1 := burden_f1
    go_wp2_with fail
    go_ret
    exact ⟨ret_i64 HV.out.symm, HB3.out⟩
  · have H := Lib.hid h
    clear h
    go_enter Try.func12, Try.ntmps12
    go_wp2_with fail
    refine (loadYes _ _ _ _ _ _ _ _ _ js ls HR.out HN.out HL.out H.out).mono ?_
    rintro e w1 ⟨sg, sc, rfl, hbu, hb1⟩
    have hal : Below w1.heap.size w1 (w1.alloc (.cells #[.slice (some ⟨g, 0, none⟩) n cap, .slice (some ⟨sg, 0, none⟩) (n - 1) sc, .slice la m lc] 65)) := (Below.refl _ _).alloc (Nat.le_refl _) _
    have HBU := Lib.hid (hbu.below hal)
    have HL1 := Lib.hid ((HL.out.below hb1).below hal)
    have HB1 := Lib.hid (HB0.out.trans (hb1.mono HB0.out.size))
    have hz1 := HB1.out.size
    clear hb1 hbu hal
    go_wp2_with fail
    have HB2 := Lib.hid (below_al3 HB1.out (.cells #[.slice (some ⟨g, 0, none⟩) n cap, .slice (some ⟨sg, 0, none⟩) (n - 1) sc, .slice la m lc] 65))
    refine (burdenLeft _ _ _ _ _ _ _ _ _ _ _ js ls k HBU.out HL1.out H.out HN.out).mono ?_
    rintro e w2 ⟨rfl, hb2⟩
    have HB3 := Lib.hid (HB2.out.trans (hb2.mono HB2.out.size))
    clear hb2
    have hfd0 := burden_f0
    have hfd1 := burden_f1
    go_wp2_with fail
    go_ret
    exact ⟨rfl, HB3.out⟩

set_option maxHeartbeats 1000000 in
theorem implTotalOf (w : World) (B B2 g cap n : Nat) (la : Option Addr) (m lc : Nat) (js : List Jt) (ls : List Ld) (hr : JRowAt w B g cap js) (hn : js.length = n) (hl : Lds w B2 la m lc ls) :
    Calls Try.prog 18 #[.agg #[.slice (some ⟨g, 0, none⟩) n cap], .slice la m lc] w fun e w' => e = .returned (.int .i64 (leftF wL js ls ((n : Int) - 1))) ∧ Below w.heap.size w w' := by
  have hb0 := (Below.refl w.heap.size w).alloc (Nat.le_refl _) (.cells #[.slice (some ⟨g, 0, none⟩) n cap] 26)
  have HR := Lib.hid (hr.below hb0)
  have HL := Lib.hid (hl.below hb0)
  have HB0 := Lib.hid hb0
  have HN := Lib.hid hn
  clear hr hn hl hb0
  cases h : loadsV js ls
  · have H := Lib.hid h
    have HV := Lib.hid (leftF_not (f := wL) h ((n : Int) - 1))
    clear h
    go_enter Try.func18, Try.ntmps18
    go_wp2_with fail
    refine (loadNo _ _ _ _ _ _ _ _ _ js ls HR.out HN.out HL.out H.out).mono ?_
    rintro e w1 ⟨rfl, hb1⟩
    have HB1 := Lib.hid (HB0.out.trans (hb1.mono HB0.out.size))
    have hz1 := HB1.out.size
    clear hb1
    go_wp2_with fail
    have HB2 := Lib.hid (below_al3 HB1.out (.cells #[.slice none 0 0, .slice none 0 0, .slice none 0 0] 65))
    refine (burdenNo _ _ _ _ _ _ _ _ _ _ 0 (by omega)).mono ?_
    rintro e w2 ⟨rfl, hb2⟩
    have HB3 := Lib.hid (HB2.out.trans (hb2.mono HB2.out.size))
    clear hb2
    have hfd0 := burden_f0
    have hfd1 := burden_f1
    go_wp2_with fail
    go_ret
    exact ⟨ret_i64 HV.out.symm, HB3.out⟩
  · have H := Lib.hid h
    have h3 := arch_size (loadsV_iff.1 h).1
    rw [HN.out] at h3
    have HE := Lib.hid (show ((n - 1 : Nat) : Int) = (n : Int) - 1 by omega)
    clear h h3
    go_enter Try.func18, Try.ntmps18
    go_wp2_with fail
    refine (loadYes _ _ _ _ _ _ _ _ _ js ls HR.out HN.out HL.out H.out).mono ?_
    rintro e w1 ⟨sg, sc, rfl, hbu, hb1⟩
    have hal : Below w1.heap.size w1 (w1.alloc (.cells #[.slice (some ⟨g, 0, none⟩) n cap, .slice (some ⟨sg, 0, none⟩) (n - 1) sc, .slice la m lc] 65)) := (Below.refl _ _).alloc (Nat.le_refl _) _
    have HBU := Lib.hid (hbu.below hal)
    have HL1 := Lib.hid ((HL.out.below hb1).below hal)
    have HB1 := Lib.hid (HB0.out.trans (hb1.mono HB0.out.size))
    have hz1 := HB1.out.size
    clear hb1 hbu hal
    go_wp2_with fail
    have HB2 := Lib.hid (below_al3 HB1.out (.cells #[.slice (some ⟨g, 0, none⟩) n cap, .slice (some ⟨sg, 0, none⟩) (n - 1) sc, .slice la m lc] 65))
    refine (burdenLeft _ _ _ _ _ _ _ _ _ _ _ js ls ((n - 1 : Nat) : Int) HBU.out HL1.out H.out HN.out).mono ?_
    rintro e w2 ⟨rfl, hb2⟩
    have HB3 := Lib.hid (HB2.out.trans (hb2.mono HB2.out.size))
    clear hb2
    have hfd0 := burden_f0
    have hfd1 := burden_f1
    go_wp2_with fail
    go_ret
    exact ⟨ret_i64 (by rw [HE.out]), HB3.out⟩
end Go.Proofs.Ythkabimaebglhaa
