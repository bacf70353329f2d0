/- The contracts of ThrustText, the program's and the model's; two thrusts with one text are one thrust. -/
import Derived.Test.YtghnkcfilpjhgaaDoorThrustC
import Derived.Test.YtghnkcfilpjhgaaDoorFormatC
import Derived.Test.YtghnkcfilpjhgaaDoorTextP
namespace Go.Proofs.YtghnkcfilpjhgaaDoor
set_option maxRecDepth 100000
open Go.ChangeShapes Go.WideShapes Go.ChangeAt Go.RowKit

/-- The text of a valid thrust. -/
def thText (h v m d : Int) : List UInt8 := Lib.itoa h ++ [44] ++ Lib.itoa v ++ [44] ++ Lib.itoa m ++ [44] ++ Lib.itoa d
/-- What ThrustText answers. -/
def thTextV (h v m d : Int) : ByteArray := if okT h v m d then strOf (thText h v m d) else ⟨#[]⟩
theorem thTextV_yes {h v m d : Int} (ht : okT h v m d = true) : thTextV h v m d = strOf (Lib.itoa h) ++ strOf [44] ++ strOf (Lib.itoa v) ++ strOf [44] ++ strOf (Lib.itoa m) ++ strOf [44] ++ strOf (Lib.itoa d) := by
  unfold thTextV thText; rw [if_pos ht, str_append, str_append, str_append, str_append, str_append, str_append]
theorem thTextV_no {h v m d : Int} (ht : okT h v m d = false) : thTextV h v m d = ⟨#[]⟩ := by unfold thTextV; rw [ht]; rfl
theorem titoa_len {n : Int} (h0 : -9223372036854775808 ≤ n) (h1 : n ≤ 9223372036854775807) : (Lib.itoa n).length ≤ 20 := by
  unfold Lib.itoa
  split
  · have := dec_length n.natAbs 19 (by omega) (by omega)
    simp; omega
  · have := dec_length n.toNat 19 (by omega) (by omega)
    omega

/-- Thrusts with one text are one thrust. -/
theorem th_inj {h v m d h' v' m' d' : Int} (ht : okT h v m d = true) (ht' : okT h' v' m' d' = true) (he : thTextV h v m d = thTextV h' v' m' d') : h = h' ∧ v = v' ∧ m = m' ∧ d = d' := by
  have r := okT_iff.1 ht
  have r' := okT_iff.1 ht'
  unfold thTextV at he
  rw [if_pos ht, if_pos ht'] at he
  have hl : thText h v m d = thText h' v' m' d' := by
    have := congrArg (fun s => s.data.toList) he
    simpa [strOf] using this
  have nc : ∀ (n : Int), ∀ c ∈ Lib.itoa n, c ≠ 44 := fun n c hc => num_ne (itoa_bytes n c hc) (by decide)
  unfold thText at hl
  simp only [List.append_assoc, List.singleton_append] at hl
  obtain ⟨e1, hl⟩ := part_eq (nc h) (nc h') hl
  obtain ⟨e2, hl⟩ := part_eq (nc v) (nc v') hl
  obtain ⟨e3, e4⟩ := part_eq (nc m) (nc m') hl
  exact ⟨itoa_inj (by omega) (by omega) e1, itoa_inj (by omega) (by omega) e2, itoa_inj (by omega) (by omega) e3, itoa_inj (by omega) (by omega) e4⟩

set_option maxHeartbeats 1000000 in
theorem implThrustText (h v m d : Int) (w : World) (hT : Tens w) :
    Calls Tryd.prog 12 #[.agg #[.int .i64 h, .int .i64 v, .int .i64 m, .int .i64 d]] w fun e w' => e = .returned (.string (thTextV h v m d)) ∧ Below w.heap.size w w' := by
  have hb0 := (Below.refl w.heap.size w).alloc (Nat.le_refl _) (.cells #[.int .i64 h, .int .i64 v, .int .i64 m, .int .i64 d] 25)
  have HB0 := Lib.hid hb0
  clear hb0
  have HT := Lib.hid hT
  clear hT
  cases ht : okT h v m d
  · have HV := Lib.hid (thTextV_no ht)
    go_enter Tryd.func12, Tryd.ntmps12
    go_wp2_with fail
    refine (isValidT _ _ _ _ _).mono ?_
    rintro e w1 ⟨rfl, hb1⟩
    rw [ht]
    go_wp2_with fail
    go_ret
    exact ⟨ret_str HV.out.symm, HB0.out.trans (hb1.mono HB0.out.size)⟩
  · have HV := Lib.hid (thTextV_yes ht)
    have r := okT_iff.1 ht
    have hX : (strOf (Lib.itoa h)).size ≤ 20 := titoa_len (by omega) (by omega)
    have hY : (strOf (Lib.itoa v)).size ≤ 20 := titoa_len (by omega) (by omega)
    have hZ : (strOf (Lib.itoa m)).size ≤ 20 := titoa_len (by omega) (by omega)
    have hU : (strOf (Lib.itoa d)).size ≤ 20 := titoa_len (by omega) (by omega)
    have kX := fun w' h' => implFormat h w' (by omega) (by omega) h'
    have kY := fun w' h' => implFormat v w' (by omega) (by omega) h'
    have kZ := fun w' h' => implFormat m w' (by omega) (by omega) h'
    have kU := fun w' h' => implFormat d w' (by omega) (by omega) h'
    generalize strOf (Lib.itoa h) = X at *
    generalize strOf (Lib.itoa v) = Y at *
    generalize strOf (Lib.itoa m) = Z at *
    generalize strOf (Lib.itoa d) = U at *
    have KX := Lib.hid kX
    have KY := Lib.hid kY
    have KZ := Lib.hid kZ
    have KU := Lib.hid kU
    clear kX kY kZ kU r
    go_enter Tryd.func12, Tryd.ntmps12
    go_wp2_with fail
    refine (isValidT _ _ _ _ _).mono ?_
    rintro e w1 ⟨rfl, hb1⟩
    rw [ht]
    have HB1 := Lib.hid (HB0.out.trans (hb1.mono HB0.out.size))
    have HT1 := Lib.hid (HT.out.below HB1.out)
    have hn1 := Since.nonempty w1
    have hS := fun (x : Since w1) => (bcell (hb1.trans (x.2.mono hb1.size))).1
    clear ht
    go_wp2_with fail
    refine wp_region_since (by kernel_rfl) (by kernel_rfl) ?_
    repeat (go_big_quiet_step (first
      | (go_at_call_of 21 (Value.int .i64 h); exact Since.call (KX.out _ (HT1.out.below (Since.below _))))
      | (go_at_call_of 21 (Value.int .i64 v); exact Since.call (KY.out _ (HT1.out.below (Since.below _))))
      | (go_at_call_of 21 (Value.int .i64 m); exact Since.call (KZ.out _ (HT1.out.below (Since.below _))))
      | (go_at_call_of 21 (Value.int .i64 d); exact Since.call (KU.out _ (HT1.out.below (Since.below _))))))
    refine wpQuiet_nil ?_
    rintro w2 ⟨⟨_, hb2⟩, rfl⟩
    go_wp2_with fail
    go_ret
    exact ⟨ret_str HV.out.symm, HB1.out.trans (hb2.mono HB1.out.size)⟩

set_option maxHeartbeats 1000000 in
theorem specThrustText (h v m d : Int) (w : World) :
    Calls Tryd.prog 13 #[.agg #[.int .i64 h, .int .i64 v, .int .i64 m, .int .i64 d]] w fun e w' => e = .returned (.string (thTextV h v m d)) ∧ Below w.heap.size w w' := by
  have hb0 := (Below.refl w.heap.size w).alloc (Nat.le_refl _) (.cells #[.int .i64 h, .int .i64 v, .int .i64 m, .int .i64 d] 25)
  have HB0 := Lib.hid hb0
  clear hb0
  cases ht : okT h v m d
  · have HV := Lib.hid (thTextV_no ht)
    go_enter Tryd.func13, Tryd.ntmps13
    go_wp2_with fail
    refine (specThrustOk _ _ _ _ _).mono ?_
    rintro e w1 ⟨rfl, hb1⟩
    rw [ht]
    go_wp2_with fail
    go_ret
    exact ⟨ret_str HV.out.symm, HB0.out.trans (hb1.mono HB0.out.size)⟩
  · have HV := Lib.hid (thTextV_yes ht)
    have r := okT_iff.1 ht
    have hX : (strOf (Lib.itoa h)).size ≤ 20 := titoa_len (by omega) (by omega)
    have hY : (strOf (Lib.itoa v)).size ≤ 20 := titoa_len (by omega) (by omega)
    have hZ : (strOf (Lib.itoa m)).size ≤ 20 := titoa_len (by omega) (by omega)
    have hU : (strOf (Lib.itoa d)).size ≤ 20 := titoa_len (by omega) (by omega)
    have kX := fun w' => specFormat h w' (by omega) (by omega)
    have kY := fun w' => specFormat v w' (by omega) (by omega)
    have kZ := fun w' => specFormat m w' (by omega) (by omega)
    have kU := fun w' => specFormat d w' (by omega) (by omega)
    generalize strOf (Lib.itoa h) = X at *
    generalize strOf (Lib.itoa v) = Y at *
    generalize strOf (Lib.itoa m) = Z at *
    generalize strOf (Lib.itoa d) = U at *
    have KX := Lib.hid kX
    have KY := Lib.hid kY
    have KZ := Lib.hid kZ
    have KU := Lib.hid kU
    clear kX kY kZ kU r
    go_enter Tryd.func13, Tryd.ntmps13
    go_wp2_with fail
    refine (specThrustOk _ _ _ _ _).mono ?_
    rintro e w1 ⟨rfl, hb1⟩
    rw [ht]
    have HB1 := Lib.hid (HB0.out.trans (hb1.mono HB0.out.size))
    have hn1 := Since.nonempty w1
    have hS := fun (x : Since w1) => (bcell (hb1.trans (x.2.mono hb1.size))).1
    clear ht
    go_wp2_with fail
    refine wp_region_since (by kernel_rfl) (by kernel_rfl) ?_
    repeat (go_big_quiet_step (first
      | (go_at_call_of 23 (Value.int .i64 h); exact Since.call (KX.out _))
      | (go_at_call_of 23 (Value.int .i64 v); exact Since.call (KY.out _))
      | (go_at_call_of 23 (Value.int .i64 m); exact Since.call (KZ.out _))
      | (go_at_call_of 23 (Value.int .i64 d); exact Since.call (KU.out _))))
    refine wpQuiet_nil ?_
    rintro w2 ⟨⟨_, hb2⟩, rfl⟩
    go_wp2_with fail
    go_ret
    exact ⟨ret_str HV.out.symm, HB1.out.trans (hb2.mono HB1.out.size)⟩
end Go.Proofs.YtghnkcfilpjhgaaDoor
