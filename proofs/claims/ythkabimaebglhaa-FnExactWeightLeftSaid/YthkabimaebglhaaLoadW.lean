/- The model's WeightLeft, MomentLeft, TotalOf, with loads. -/
import Derived.Test.YthkabimaebglhaaLoadV
namespace Go.Proofs.Ythkabimaebglhaa
set_option maxRecDepth 100000
open Go.ChangeShapes Go.WideShapes Go.ChangeAt Go.RowKit

set_option maxHeartbeats 1000000 in
theorem specWeightLeft (w : World) (B B2 g cap n : Nat) (la : Option Addr) (m lc : Nat) (js : List Jt) (ls : List Ld) (k : Int) (hr : JRowAt w B g cap js) (hn : js.length = n) (h8 : n ≤ 1048576) (hl : Lds w B2 la m lc ls) :
    Calls Try.prog 26 #[.agg #[.slice (some ⟨g, 0, none⟩) n cap], .slice la m lc, .int .i64 k] w fun e w' => e = .returned (.int .i64 (leftF wL js ls k)) ∧ Below w.heap.size w w' := by
  have hb0 := (Below.refl w.heap.size w).alloc (Nat.le_refl _) (.cells #[.slice (some ⟨g, 0, none⟩) n cap] 26)
  have hs0 : (w.alloc (.cells #[.slice (some ⟨g, 0, none⟩) n cap] 26)).cell? ⟨w.heap.size, 0, none⟩ = some (.slice (some ⟨g, 0, none⟩) n cap) := by go_simp
  have HR := Lib.hid (hr.below hb0)
  have HL := Lib.hid (hl.below hb0)
  have HB0 := Lib.hid hb0
  have HS0 := Lib.hid hs0
  have HN := Lib.hid hn
  have e1 : IntKind.i64.wrap ((n : Int) - 1) = (n : Int) - 1 := IntWalk.i64_in _ (by omega)
  clear hr hl hb0 hs0
  cases h : loadsV js ls
  · have H := Lib.hid h
    have HV := Lib.hid (leftF_not (f := wL) h k)
    clear h hn
    go_enter Try.func26, Try.ntmps26
    go_wp2_with fail
    refine (specLoadsOk _ _ _ _ _ _ _ _ _ js ls HR.out HN.out h8 HL.out).mono ?_
    rintro e w1 ⟨rfl, hb1⟩
    rw [H.out]
    have HB1 := Lib.hid (HB0.out.trans (hb1.mono HB0.out.size))
    clear hb1
    go_wp2_with fail
    go_ret
    exact ⟨ret_i64 HV.out.symm, HB1.out⟩
  · have H := Lib.hid h
    by_cases hk : 0 ≤ k ∧ k ≤ (n : Int) - 1
    · obtain ⟨K, rfl⟩ : ∃ K : Nat, k = K := ⟨k.toNat, by omega⟩
      have hKn : K < n := by omega
      have HV := Lib.hid (leftF_yes (f := wL) h (show K < js.length by omega))
      have HD := Lib.hid (show decide ((0 : Int) ≤ (K : Int) ∧ (K : Int) ≤ (n : Int) - 1) = true from decide_eq_true hk)
      have hK0 : (0 : Int) ≤ (K : Int) := Int.natCast_nonneg _
      have hKn' : (K : Int) < (n : Int) := by omega
      clear h hn hk
      go_enter Try.func26, Try.ntmps26
      go_wp2_with fail
      refine (specLoadsOk _ _ _ _ _ _ _ _ _ js ls HR.out HN.out h8 HL.out).mono ?_
      rintro e w1 ⟨rfl, hb1⟩
      rw [H.out]
      have s1 := cell_kept HS0.out hb1
      have HR1 := Lib.hid (HR.out.below hb1)
      have HL1 := Lib.hid (HL.out.below hb1)
      have HB1 := Lib.hid (HB0.out.trans (hb1.mono HB0.out.size))
      clear hb1
      go_wp2_with fail
      refine (l01InG _ _ _ _).mono ?_
      rintro e w2 ⟨rfl, rfl⟩
      rw [HD.out]
      go_wp2_with fail
      refine (specLeft _ _ _ _ _ _ _ _ _ js ls HR1.out HN.out HL1.out H.out).mono ?_
      rintro e w3 ⟨g1, c1, g2, c2, rfl, hr3, hr4, hb3⟩
      have x3 := hr3.cell K hKn
      have hlt3 := hr3.lt
      have HB3 := Lib.hid (HB1.out.trans (hb3.mono HB1.out.size))
      obtain ⟨-, -, hnc, hcm⟩ := hlt3
      unfold maxLen at hcm
      generalize hSS : sumTo (wL js ls) K = S at *
      have HSS := Lib.hid hSS
      clear hb3 hr3 hr4 s1 hSS
      go_wp2_with fail
      go_ret
      exact ⟨ret_i64 (by rw [HV.out]), HB3.out⟩
    · have HV := Lib.hid (leftF_no (f := wL) (js := js) (ls := ls) (k := k) (by omega))
      have HD := Lib.hid (show decide ((0 : Int) ≤ k ∧ k ≤ (n : Int) - 1) = false from decide_eq_false hk)
      clear h hn hk
      go_enter Try.func26, Try.ntmps26
      go_wp2_with fail
      refine (specLoadsOk _ _ _ _ _ _ _ _ _ js ls HR.out HN.out h8 HL.out).mono ?_
      rintro e w1 ⟨rfl, hb1⟩
      rw [H.out]
      have s1 := cell_kept HS0.out hb1
      have HB1 := Lib.hid (HB0.out.trans (hb1.mono HB0.out.size))
      clear hb1
      go_wp2_with fail
      refine (l01InG _ _ _ _).mono ?_
      rintro e w2 ⟨rfl, rfl⟩
      rw [HD.out]
      go_wp2_with fail
      go_ret
      exact ⟨ret_i64 HV.out.symm, HB1.out⟩

set_option maxHeartbeats 1000000 in
theorem specMomentLeft (w : World) (B B2 g cap n : Nat) (la : Option Addr) (m lc : Nat) (js : List Jt) (ls : List Ld) (k : Int) (hr : JRowAt w B g cap js) (hn : js.length = n) (h8 : n ≤ 1048576) (hl : Lds w B2 la m lc ls) :
    Calls Try.prog 27 #[.agg #[.slice (some ⟨g, 0, none⟩) n cap], .slice la m lc, .int .i64 k] w fun e w' => e = .returned (.int .i64 (leftF mL js ls k)) ∧ Below w.heap.size w w' := by
  have hb0 := (Below.refl w.heap.size w).alloc (Nat.le_refl _) (.cells #[.slice (some ⟨g, 0, none⟩) n cap] 26)
  have hs0 : (w.alloc (.cells #[.slice (some ⟨g, 0, none⟩) n cap] 26)).cell? ⟨w.heap.size, 0, none⟩ = some (.slice (some ⟨g, 0, none⟩) n cap) := by go_simp
  have HR := Lib.hid (hr.below hb0)
  have HL := Lib.hid (hl.below hb0)
  have HB0 := Lib.hid hb0
  have HS0 := Lib.hid hs0
  have HN := Lib.hid hn
  have e1 : IntKind.i64.wrap ((n : Int) - 1) = (n : Int) - 1 := IntWalk.i64_in _ (by omega)
  clear hr hl hb0 hs0
  cases h : loadsV js ls
  · have H := Lib.hid h
    have HV := Lib.hid (leftF_not (f := mL) h k)
    clear h hn
    go_enter Try.func27, Try.ntmps27
    go_wp2_with fail
    refine (specLoadsOk _ _ _ _ _ _ _ _ _ js ls HR.out HN.out h8 HL.out).mono ?_
    rintro e w1 ⟨rfl, hb1⟩
    rw [H.out]
    have HB1 := Lib.hid (HB0.out.trans (hb1.mono HB0.out.size))
    clear hb1
    go_wp2_with fail
    go_ret
    exact ⟨ret_i64 HV.out.symm, HB1.out⟩
  · have H := Lib.hid h
    by_cases hk : 0 ≤ k ∧ k ≤ (n : Int) - 1
    · obtain ⟨K, rfl⟩ : ∃ K : Nat, k = K := ⟨k.toNat, by omega⟩
      have hKn : K < n := by omega
      have HV := Lib.hid (leftF_yes (f := mL) h (show K < js.length by omega))
      have HD := Lib.hid (show decide ((0 : Int) ≤ (K : Int) ∧ (K : Int) ≤ (n : Int) - 1) = true from decide_eq_true hk)
      have hK0 : (0 : Int) ≤ (K : Int) := Int.natCast_nonneg _
      have hKn' : (K : Int) < (n : Int) := by omega
      clear h hn hk
      go_enter Try.func27, Try.ntmps27
      go_wp2_with fail
      refine (specLoadsOk _ _ _ _ _ _ _ _ _ js ls HR.out HN.out h8 HL.out).mono ?_
      rintro e w1 ⟨rfl, hb1⟩
      rw [H.out]
      have s1 := cell_kept HS0.out hb1
      have HR1 := Lib.hid (HR.out.below hb1)
      have HL1 := Lib.hid (HL.out.below hb1)
      have HB1 := Lib.hid (HB0.out.trans (hb1.mono HB0.out.size))
      clear hb1
      go_wp2_with fail
      refine (l01InG _ _ _ _).mono ?_
      rintro e w2 ⟨rfl, rfl⟩
      rw [HD.out]
      go_wp2_with fail
      refine (specLeft _ _ _ _ _ _ _ _ _ js ls HR1.out HN.out HL1.out H.out).mono ?_
      rintro e w3 ⟨g1, c1, g2, c2, rfl, hr3, hr4, hb3⟩
      have x3 := hr4.cell K hKn
      have hlt3 := hr4.lt
      have HB3 := Lib.hid (HB1.out.trans (hb3.mono HB1.out.size))
      obtain ⟨-, -, hnc, hcm⟩ := hlt3
      unfold maxLen at hcm
      generalize hSS : sumTo (mL js ls) K = S at *
      have HSS := Lib.hid hSS
      clear hb3 hr3 hr4 s1 hSS
      go_wp2_with fail
      go_ret
      exact ⟨ret_i64 (by rw [HV.out]), HB3.out⟩
    · have HV := Lib.hid (leftF_no (f := mL) (js := js) (ls := ls) (k := k) (by omega))
      have HD := Lib.hid (show decide ((0 : Int) ≤ k ∧ k ≤ (n : Int) - 1) = false from decide_eq_false hk)
      clear h hn hk
      go_enter Try.func27, Try.ntmps27
      go_wp2_with fail
      refine (specLoadsOk _ _ _ _ _ _ _ _ _ js ls HR.out HN.out h8 HL.out).mono ?_
      rintro e w1 ⟨rfl, hb1⟩
      rw [H.out]
      have s1 := cell_kept HS0.out hb1
      have HB1 := Lib.hid (HB0.out.trans (hb1.mono HB0.out.size))
      clear hb1
      go_wp2_with fail
      refine (l01InG _ _ _ _).mono ?_
      rintro e w2 ⟨rfl, rfl⟩
      rw [HD.out]
      go_wp2_with fail
      go_ret
      exact ⟨ret_i64 HV.out.symm, HB1.out⟩

theorem specTotalOf (w : World) (B B2 g cap n : Nat) (la : Option Addr) (m lc : Nat) (js : List Jt) (ls : List Ld) (hr : JRowAt w B g cap js) (hn : js.length = n) (h8 : n ≤ 1048576) (hl : Lds w B2 la m lc ls) :
    Calls Try.prog 28 #[.agg #[.slice (some ⟨g, 0, none⟩) n cap], .slice la m lc] w fun e w' => e = .returned (.int .i64 (leftF wL js ls ((n : Int) - 1))) ∧ Below w.heap.size w w' := by
  have hb0 := (Below.refl w.heap.size w).alloc (Nat.le_refl _) (.cells #[.slice (some ⟨g, 0, none⟩) n cap] 26)
  have HR := Lib.hid (hr.below hb0)
  have HL := Lib.hid (hl.below hb0)
  have HB0 := Lib.hid hb0
  have HN := Lib.hid hn
  have e1 : IntKind.i64.wrap ((n : Int) - 1) = (n : Int) - 1 := IntWalk.i64_in _ (by omega)
  clear hr hn hl hb0
  go_enter Try.func28, Try.ntmps28
  go_wp2_with fail
  refine (specWeightLeft _ _ _ _ _ _ _ _ _ js ls _ HR.out HN.out h8 HL.out).mono ?_
  rintro e w1 ⟨rfl, hb1⟩
  go_wp2_with fail
  go_ret
  exact ⟨rfl, HB0.out.trans (hb1.mono HB0.out.size)⟩
end Go.Proofs.Ythkabimaebglhaa
