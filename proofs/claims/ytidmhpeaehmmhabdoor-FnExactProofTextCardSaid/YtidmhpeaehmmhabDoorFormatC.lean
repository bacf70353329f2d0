/- The contracts of FormatInt: the model's and the program's give the same numeral. -/
import Derived.Test.YtidmhpeaehmmhabDoorDigsC
import Derived.Test.YtidmhpeaehmmhabDoorNumsP
import Derived.Test.YtidmhpeaehmmhabDoorShelf
import Derived.Lib.AppendIntMem
import Derived.Lib.ItoaMem
import Derived.Outline
import Derived.Lib.Hide
namespace Go.Proofs.YtidmhpeaehmmhabDoor
set_option maxRecDepth 100000
open Go.ChangeShapes Go.WideShapes Go.ChangeAt Go.RowKit

theorem digs_dec (u : Nat) (h : 0 < u) : digs u = Lib.decDigits u := by
  induction u using Nat.strongRecOn with
  | _ u ih =>
    rw [digs_pos u h]
    by_cases h1 : u < 10
    · rw [decDigits_small h1, show u / 10 = 0 by omega, digs_zero, show u % 10 = u by omega]; rfl
    · rw [decDigits_big h1, ih (u / 10) (by omega) (by omega)]

theorem ret_str {a b : ByteArray} (h : a = b) : Ending.returned (.string a) = .returned (.string b) := by rw [h]

theorem below_grow (w : World) (k : Nat) (os : Array Obj) : Below w.heap.size w (Go.Sort.grow (w.drewN k) os) :=
  ⟨rfl, rfl, rfl, by show w.heap.size ≤ (w.heap ++ os).size; simp, fun i hi => by
    show (w.heap ++ os)[i]? = w.heap[i]?
    rw [Array.getElem?_append_left hi]⟩

/-- The powers of ten lie in the library's table. -/
abbrev Tens (w : World) : Prop := Lib.TabIs Tryd.prog w "internal/strconv.uint64pow10" .u64 Lib.pow10Tab

theorem Tens.below {w w' : World} (h : Tens w) (hb : Below w.heap.size w w') : Tens w' := Lib.tabBelow_of_tabIs h w' hb

set_option maxRecDepth 100000 in
theorem implFormat (n : Int) (w : World) (h0 : -9223372036854775808 ≤ n) (h1 : n ≤ 9223372036854775807) (ht : Tens w) :
    Calls Tryd.prog 12 #[.int .i64 n] w fun e w' => e = .returned (.string (strOf (Lib.itoa n))) ∧ Below w.heap.size w w' := by
  have HT := Lib.hid ht
  clear ht
  go_enter Tryd.func12, Tryd.ntmps12
  go_wp2_with (go_at_call 16; refine (Tryd.strconv_Itoa n h0 h1 _ HT.out).mono ?_; rintro e w1 ⟨rfl, k, os, rfl⟩)
  go_ret
  exact ⟨rfl, below_grow _ _ _⟩

set_option maxRecDepth 100000 in
/-- A figure. -/
theorem figure_dec (x : Int) (w : World) (h0 : 0 ≤ x) (h1 : x ≤ 9) :
    Calls Tryd.prog 15 #[.int .i64 x] w fun e w' => e = .returned (.int .u8 (48 + x)) ∧ w = w' := by
  go_enter Tryd.func15, Tryd.ntmps15
  go_wp2
  go_ret
  exact ⟨rfl, rfl⟩

set_option maxHeartbeats 400000 in
set_option maxRecDepth 100000 in
theorem specFormat_pos (n : Int) (w : World) (h0 : 0 < n) (h1 : n ≤ 9223372036854775807) :
    Calls Tryd.prog 10 #[.int .i64 n] w fun e w' => e = .returned (.string (strOf (Lib.itoa n))) ∧ Below w.heap.size w w' := by
  have HN := Lib.hid (digs_len n.toNat 19 (by omega))
  have hz : (n == 0) = false := by simp; omega
  have hneg : ¬ n < 0 := by omega
  go_enter Tryd.func10, Tryd.ntmps10
  go_wp2_with fail
  go_loopw [0, 4] (fun i s wr => ∃ (m : Nat) (t : List UInt8), (m : Int) ≤ 9223372036854775807 ∧ i = .int .i64 m ∧ s = .string (strOf t) ∧ digs m ++ t = digs n.toNat ∧ Below w.heap.size w wr) (fun i _ _ => (intOf i).toNat)
  case atStart => exact ⟨n.toNat, [], by omega, by rw [Int.toNat_of_nonneg (by omega)], rfl, by simp, Below.refl _ _⟩
  case round =>
    obtain ⟨m, t, hm, rfl, rfl, hd, hbel⟩ := hrel
    have ht : t.length ≤ 19 := by have h1 := congrArg List.length hd; have h2 := HN.out; simp at h1; omega
    have HD := Lib.hid hd
    clear hd
    by_cases hlt : 0 < m
    · obtain ⟨c, hc, hdm⟩ := last_dig m
      have HM := Lib.hid (hdm hlt)
      have hconv := convert_one wr (48 + (m : Int) % 10) c hc
      have hc1 : (48 + (m : Int) % 10) ≤ 57 := by omega
      have hnz : ((m : Int) != 0) = true := by simp; omega
      clear hdm hc
      go_wp2_with (go_at_call 15; refine (figure_dec _ _ (by omega) (by omega)).mono ?_; rintro e w' ⟨rfl, rfl⟩)
      refine ⟨⟨m / 10, c :: t, by omega, by go_num, ?_, ?_, hbel.alloc hbel.size _⟩, by simp [intOf]; omega⟩
      · rw [str_append]; rfl
      · have h := HD.out
        rw [HM.out] at h
        simpa using h
    · obtain rfl : m = 0 := by omega
      go_wp2_with fail
      go_ret
      have h := HD.out
      rw [digs_zero, List.nil_append, digs_dec _ (by omega)] at h
      refine ⟨ret_str ?_, hbel⟩
      rw [h]
      unfold Lib.itoa
      rw [if_neg (by omega)]

set_option maxHeartbeats 400000 in
set_option maxRecDepth 100000 in
theorem specFormat_neg (n : Int) (w : World) (h0 : n < 0) (h1 : -9223372036854775808 ≤ n) :
    Calls Tryd.prog 10 #[.int .i64 n] w fun e w' => e = .returned (.string (strOf (Lib.itoa n))) ∧ Below w.heap.size w w' := by
  have HN := Lib.hid (digs_len n.natAbs 19 (by omega))
  have hz : (n == 0) = false := by simp; omega
  go_enter Tryd.func10, Tryd.ntmps10
  go_wp2_with fail
  go_loopw [0, 4] (fun i s wr => ∃ (m : Nat) (t : List UInt8), (m : Int) ≤ 9223372036854775808 ∧ i = .int .i64 (-(m : Int)) ∧ s = .string (strOf t) ∧ digs m ++ t = digs n.natAbs ∧ Below w.heap.size w wr) (fun i _ _ => (intOf i).natAbs)
  case atStart => exact ⟨n.natAbs, [], by omega, by rw [show -((n.natAbs : Nat) : Int) = n by omega], rfl, by simp, Below.refl _ _⟩
  case round =>
    obtain ⟨m, t, hm, rfl, rfl, hd, hbel⟩ := hrel
    have ht : t.length ≤ 19 := by have h1 := congrArg List.length hd; have h2 := HN.out; simp at h1; omega
    have HD := Lib.hid hd
    clear hd
    by_cases hlt : 0 < m
    · obtain ⟨c, hc, hdm⟩ := last_dig m
      have HM := Lib.hid (hdm hlt)
      have e1 : (-(m : Int)).tmod 10 = -((m : Int) % 10) := by rw [Int.neg_tmod, Int.tmod_eq_emod_of_nonneg (by omega)]
      have e2 : (-(m : Int)).tdiv 10 = -((m : Int) / 10) := by rw [Int.neg_tdiv, Int.tdiv_eq_ediv_of_nonneg (by omega)]
      have hnz : (-(m : Int) != 0) = true := by simp; omega
      by_cases hd0 : (m : Int) % 10 = 0
      · have hconv := convert_one wr 48 c (by omega)
        clear hdm hc
        go_wp2_with (go_at_call 15; refine (figure_dec _ _ (by omega) (by omega)).mono ?_; rintro e w' ⟨rfl, rfl⟩)
        refine ⟨⟨m / 10, c :: t, by omega, by go_num, ?_, ?_, hbel.alloc hbel.size _⟩, by simp [intOf]; omega⟩
        · rw [str_append]; rfl
        · have h := HD.out
          rw [HM.out] at h
          simpa using h
      · have hconv := convert_one wr (48 + (m : Int) % 10) c hc
        have hc1 : (48 + (m : Int) % 10) ≤ 57 := by omega
        have hdn : -((m : Int) % 10) < 0 := by omega
        clear hdm hc
        go_wp2_with (go_at_call 15; refine (figure_dec _ _ (by omega) (by omega)).mono ?_; rintro e w' ⟨rfl, rfl⟩)
        refine ⟨⟨m / 10, c :: t, by omega, by go_num, ?_, ?_, hbel.alloc hbel.size _⟩, by simp [intOf]; omega⟩
        · rw [str_append]; rfl
        · have h := HD.out
          rw [HM.out] at h
          simpa using h
    · obtain rfl : m = 0 := by omega
      go_wp2_with fail
      go_ret
      have h := HD.out
      rw [digs_zero, List.nil_append, digs_dec _ (by omega)] at h
      refine ⟨(congrArg (fun x => Ending.returned (.string x)) (str_append [45] t)).trans (ret_str ?_), hbel⟩
      rw [h]
      unfold Lib.itoa
      rw [if_pos h0]
      rfl

set_option maxRecDepth 100000 in
theorem specFormat_zero (w : World) :
    Calls Tryd.prog 10 #[.int .i64 0] w fun e w' => e = .returned (.string (strOf (Lib.itoa 0))) ∧ Below w.heap.size w w' := by
  have h : Lib.itoa 0 = [48] := by unfold Lib.itoa; rw [if_neg (by omega)]; exact decDigits_small (u := 0) (by omega)
  rw [h]
  go_enter Tryd.func10, Tryd.ntmps10
  go_wp2
  go_ret
  exact ⟨rfl, Below.refl _ _⟩

set_option maxRecDepth 100000 in
theorem specFormat (n : Int) (w : World) (h0 : -9223372036854775808 ≤ n) (h1 : n ≤ 9223372036854775807) :
    Calls Tryd.prog 10 #[.int .i64 n] w fun e w' => e = .returned (.string (strOf (Lib.itoa n))) ∧ Below w.heap.size w w' := by
  rcases Int.lt_trichotomy n 0 with h | rfl | h
  · exact specFormat_neg n w h h0
  · exact specFormat_zero w
  · exact specFormat_pos n w h h1
end Go.Proofs.YtidmhpeaehmmhabDoor
