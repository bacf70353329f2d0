/- The contracts of PointText, the program's and the model's; two points with one text are one point. -/
import Derived.Test.YtggkodhfhhjihaaDoorPtP
import Derived.Test.YtggkodhfhhjihaaDoorFormatC
namespace Go.Proofs.YtggkodhfhhjihaaDoor
set_option maxRecDepth 100000
open Go.ChangeShapes Go.WideShapes Go.ChangeAt Go.RowKit

/-- The text of a valid point. -/
def ptText (x y : Int) : List UInt8 := Lib.itoa x ++ [44] ++ Lib.itoa y
/-- What PointText answers. -/
def ptTextV (x y : Int) : ByteArray := if okP x y then strOf (ptText x y) else strOf []
theorem ptTextV_yes {x y : Int} (h : okP x y = true) : ptTextV x y = strOf (Lib.itoa x) ++ strOf [44] ++ strOf (Lib.itoa y) := by
  unfold ptTextV ptText; rw [if_pos h, str_append, str_append]
theorem ptTextV_no {x y : Int} (h : okP x y = false) : ptTextV x y = ⟨#[]⟩ := by unfold ptTextV; rw [h]; rfl

theorem itoa_len {n : Int} (h0 : -9223372036854775808 ≤ n) (h1 : n ≤ 9223372036854775807) : (Lib.itoa n).length ≤ 20 := by
  unfold Lib.itoa
  split
  · have := dec_length n.natAbs 19 (by omega) (by omega)
    simp; omega
  · have := dec_length n.toNat 19 (by omega) (by omega)
    omega

theorem ptText_size (x y : Int) : (ptTextV x y).size ≤ 41 := by
  cases h : okP x y
  · rw [ptTextV_no h]; exact Nat.zero_le _
  · unfold ptTextV
    rw [if_pos h]
    have r := okP_iff.1 h
    have h1 := itoa_len (n := x) (by omega) (by omega)
    have h2 := itoa_len (n := y) (by omega) (by omega)
    show (ptText x y).toArray.size ≤ 41
    unfold ptText
    simp <;> omega

theorem implPointText (x y : Int) (w : World) (hT : Tens w) :
    Calls Tryd.prog 49 #[.agg #[.int .i64 x, .int .i64 y]] w fun e w' => e = .returned (.string (ptTextV x y)) ∧ Below w.heap.size w w' := by
  have HT := Lib.hid hT
  clear hT
  cases h : okP x y
  · go_enter Tryd.func49, Tryd.ntmps49
    go_wp2_with (go_at_call 65; refine (isValid _ _ _).mono ?_; rintro e w1 ⟨rfl, hb1⟩)
    go_ret
    exact ⟨ret_str (ptTextV_no h).symm, ((Below.refl _ _).alloc (by simp <;> omega) _).trans (hb1.mono (by simp <;> omega))⟩
  · have HV := Lib.hid (ptTextV_yes h)
    have r := okP_iff.1 h
    have hx : (strOf (Lib.itoa x)).size ≤ 20 := itoa_len (by omega) (by omega)
    have hy : (strOf (Lib.itoa y)).size ≤ 20 := itoa_len (by omega) (by omega)
    have hX := fun w' h => implFormat x w' (by omega) (by omega) h
    have hY := fun w' h => implFormat y w' (by omega) (by omega) h
    generalize strOf (Lib.itoa x) = X at *
    generalize strOf (Lib.itoa y) = Y at *
    have HX := Lib.hid hX
    have HY := Lib.hid hY
    clear hX hY
    go_enter Tryd.func49, Tryd.ntmps49
    go_wp2_with (go_at_call 65; refine (isValid _ _ _).mono ?_; rintro e w1 ⟨rfl, hb1⟩)
    have hb0 := ((Below.refl w.heap.size w).alloc (Nat.le_refl _) _).trans (hb1.mono (by simp))
    have HT1 := Lib.hid (HT.out.below hb0)
    have hn1 := Since.nonempty w1
    have hS := fun (x : Since w1) => (bcell (hb1.trans (x.2.mono hb1.size))).1
    refine wp_region_since (by kernel_rfl) (by kernel_rfl) ?_
    repeat (go_big_quiet_step (first
      | (go_at_call_of 66 (Value.int .i64 x); exact Since.call (HX.out _ (HT1.out.below (Since.below _))))
      | (go_at_call_of 66 (Value.int .i64 y); exact Since.call (HY.out _ (HT1.out.below (Since.below _))))))
    refine wpQuiet_nil ?_
    rintro w2 ⟨⟨_, hb2⟩, rfl⟩
    go_wp2_with fail
    go_ret
    exact ⟨ret_str HV.out.symm, hb0.trans (hb2.mono hb0.size)⟩

theorem specPointText (x y : Int) (w : World) :
    Calls Tryd.prog 58 #[.agg #[.int .i64 x, .int .i64 y]] w fun e w' => e = .returned (.string (ptTextV x y)) ∧ Below w.heap.size w w' := by
  cases h : okP x y
  · go_enter Tryd.func58, Tryd.ntmps58
    go_wp2_with (go_at_call 33; refine (specPointOk _ _ _).mono ?_; rintro e w1 ⟨rfl, hb1⟩)
    go_ret
    exact ⟨ret_str (ptTextV_no h).symm, ((Below.refl _ _).alloc (by simp <;> omega) _).trans (hb1.mono (by simp <;> omega))⟩
  · have HV := Lib.hid (ptTextV_yes h)
    have r := okP_iff.1 h
    have hx : (strOf (Lib.itoa x)).size ≤ 20 := itoa_len (by omega) (by omega)
    have hy : (strOf (Lib.itoa y)).size ≤ 20 := itoa_len (by omega) (by omega)
    have hX := fun w' => specFormat x w' (by omega) (by omega)
    have hY := fun w' => specFormat y w' (by omega) (by omega)
    generalize strOf (Lib.itoa x) = X at *
    generalize strOf (Lib.itoa y) = Y at *
    have HX := Lib.hid hX
    have HY := Lib.hid hY
    clear hX hY
    go_enter Tryd.func58, Tryd.ntmps58
    go_wp2_with (go_at_call 33; refine (specPointOk _ _ _).mono ?_; rintro e w1 ⟨rfl, hb1⟩)
    have hb0 := ((Below.refl w.heap.size w).alloc (Nat.le_refl _) _).trans (hb1.mono (by simp))
    have hn1 := Since.nonempty w1
    have hS := fun (x : Since w1) => (bcell (hb1.trans (x.2.mono hb1.size))).1
    refine wp_region_since (by kernel_rfl) (by kernel_rfl) ?_
    repeat (go_big_quiet_step (first
      | (go_at_call_of 70 (Value.int .i64 x); exact Since.call (HX.out _))
      | (go_at_call_of 70 (Value.int .i64 y); exact Since.call (HY.out _))))
    refine wpQuiet_nil ?_
    rintro w2 ⟨⟨_, hb2⟩, rfl⟩
    go_wp2_with fail
    go_ret
    exact ⟨ret_str HV.out.symm, hb0.trans (hb2.mono hb0.size)⟩
end Go.Proofs.YtggkodhfhhjihaaDoor
