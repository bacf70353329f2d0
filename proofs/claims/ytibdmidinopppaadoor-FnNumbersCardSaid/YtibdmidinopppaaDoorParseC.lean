/- The contracts of ParseUint: the model's and the program's give the number whose numeral the text is, or refuse. -/
import Derived.Test.YtibdmidinopppaaDoorFormatC
namespace Go.Proofs.YtibdmidinopppaaDoor
open Go.ChangeShapes Go.WideShapes Go.ChangeAt Go.RowKit

/-- What both answer. -/
def ParsePost (s : ByteArray) (w : World) (e : Ending) (w' : World) : Prop := e = .returned (.tuple #[.int .i64 (numOf s.data.toList).1, .bool (numOf s.data.toList).2]) ∧ Below w.heap.size w w'
theorem parse_no {s : ByteArray} {w w' : World} (h : numOf s.data.toList = (0, false)) (hb : Below w.heap.size w w') : ParsePost s w (.returned (.tuple #[.int .i64 0, .bool false])) w' := by
  unfold ParsePost; rw [h]; exact ⟨rfl, hb⟩
theorem parse_yes {s : ByteArray} {w w' : World} {v : Nat} (h : numOf s.data.toList = ((v : Int), true)) (hb : Below w.heap.size w w') : ParsePost s w (.returned (.tuple #[.int .i64 (v : Int), .bool true])) w' := by
  unfold ParsePost; rw [h]; exact ⟨rfl, hb⟩

theorem text_parts (s : ByteArray) (k : Nat) (h : k < s.size) : s.data.toList = s.data.toList.take k ++ s[k] :: s.data.toList.drop (k + 1) := by
  have e : s.data.toList.drop k = s[k] :: s.data.toList.drop (k + 1) := List.drop_eq_getElem_cons (by simpa using h)
  rw [← e, List.take_append_drop]

theorem parse_step {l : List UInt8} {v k : Nat} {c : UInt8} (hp : Lib.parseUint10 0 l = .ok v) (hv : v < 10 ^ k) (hk : k ≤ 10) (h1 : 48 ≤ (c.toNat : Int)) (h2 : (c.toNat : Int) ≤ 57) :
    Lib.parseUint10 0 (l ++ [c]) = .ok (10 * v + (c.toNat - 48)) ∧ 10 * v + (c.toNat - 48) < 10 ^ (k + 1) := by
  have hb : v < 10 ^ 10 := Nat.lt_of_lt_of_le hv (Nat.pow_le_pow_right (by omega) hk)
  constructor
  · rw [parse_append, hp]
    simp only [Lib.parseUint10]
    rw [if_pos (by omega), if_neg (by omega), if_neg (by omega)]
    congr 1; omega
  · rw [Nat.pow_succ]; omega

theorem str_ne {x s : ByteArray} (h : x ≠ s) : (x.toList == s.toList) = false := by
  rw [beq_eq_false_iff_ne, Lib.toList_data, Lib.toList_data]
  exact fun e => h (bytes_inj e)

theorem str_of (s : ByteArray) : strOf s.data.toList = s := by cases s; rfl

set_option maxHeartbeats 400000 in
theorem specParse (s : ByteArray) (w : World) (hm : s.size ≤ 9223372036854775807) :
    Calls Tryd.prog 20 #[.string s] w (ParsePost s w) := by
  by_cases hs : 10 < s.size
  · have HN := Lib.hid (numOf_long (l := s.data.toList) (by simpa using hs))
    go_enter Tryd.func20, Tryd.ntmps20
    go_wp2_with fail
    go_ret2
    exact parse_no HN.out (Below.refl _ _)
  · go_enter Tryd.func20, Tryd.ntmps20
    go_wp2_with fail
    go_loop [4, 5] (fun q i => ∃ k v : Nat, k ≤ s.size ∧ i = .int .i64 k ∧ q = .int .i64 v ∧ v < 10 ^ k ∧ Lib.parseUint10 0 (s.data.toList.take k) = .ok v) (fun _ i => s.size - (intOf i).toNat)
    case atStart => exact ⟨0, 0, Nat.zero_le _, rfl, rfl, by simp, rfl⟩
    case round =>
      obtain ⟨k, v, hk, rfl, rfl, hv, hp⟩ := hrel
      have hb : v < 10000000000 := Nat.lt_of_lt_of_le hv (Nat.pow_le_pow_right (by omega) (show k ≤ 10 by omega))
      have HV := Lib.hid hv
      have HP := Lib.hid hp
      clear hv hp
      by_cases hlt : k < s.size
      · have hj0 : (0 : Int) ≤ (k : Int) := Int.natCast_nonneg _
        have hb1 : 0 ≤ (s[k].toNat : Int) ∧ (s[k].toNat : Int) ≤ 255 := by have := s[k].toNat_lt; omega
        have HT := Lib.hid (text_parts s k hlt)
        by_cases hc1 : (s[k].toNat : Int) < 48
        · go_wp2_with fail
          go_ret2
          exact parse_no (by rw [HT.out]; exact numOf_bad HP.out (by omega)) (Below.refl _ _)
        · by_cases hc2 : 57 < (s[k].toNat : Int)
          · go_wp2_with fail
            go_ret2
            exact parse_no (by rw [HT.out]; exact numOf_bad HP.out (by omega)) (Below.refl _ _)
          · have HS := Lib.hid (parse_step HP.out HV.out (by omega) (show 48 ≤ (s[k].toNat : Int) by omega) (show (s[k].toNat : Int) ≤ 57 by omega))
            go_wp2_with fail
            go_round
            case rel => exact ⟨k + 1, 10 * v + (s[k].toNat - 48), by omega, by go_num, by go_num, HS.out.2, by rw [take_snoc s k hlt]; exact HS.out.1⟩
            case measure => simp [intOf]; omega
      · obtain rfl : k = s.size := by omega
        rw [take_all] at HP
        by_cases hbig : 1000000000 < v
        · go_wp2_with fail
          go_ret2
          exact parse_no (numOf_parsed HP.out (.inl hbig)) (Below.refl _ _)
        · by_cases heq : Lib.decDigits v = s.data.toList
          · have hsp := specFormat (v : Int) w (by omega) (by omega)
            rw [Lib.itoa_nonneg, heq, str_of] at hsp
            have HS := Lib.hid hsp
            clear hsp
            have HE := Lib.hid (numOf_yes (by omega) heq)
            clear heq
            go_wp2_with fail
            refine HS.out.mono ?_
            rintro e w1 ⟨rfl, hb1⟩
            go_wp2_with fail
            go_ret2
            exact parse_yes HE.out hb1
          · have hsp := specFormat (v : Int) w (by omega) (by omega)
            rw [Lib.itoa_nonneg] at hsp
            have HE := Lib.hid (numOf_parsed HP.out (.inr heq))
            obtain ⟨x, hx⟩ : ∃ x, x = strOf (Lib.decDigits v) := ⟨_, rfl⟩
            rw [← hx] at hsp
            have hne : x ≠ s := by
              rintro rfl
              exact heq (by rw [hx])
            have HS := Lib.hid hsp
            have hxs := str_ne hne
            clear hsp hx hne heq
            go_wp2_with fail
            refine HS.out.mono ?_
            rintro e w1 ⟨rfl, hb1⟩
            go_wp2_with fail
            go_ret2
            exact parse_no HE.out hb1

/-- Atoi at a text that spells no int: whatever the error, it is not nil. -/
def AtoiErr (w : World) (e : Ending) (w' : World) : Prop := ∃ (x : Int) (N : Nat), e = .returned (.tuple #[.int .i64 x, .iface 63 (.pointer (some ⟨N, 0, none⟩))]) ∧ Below w.heap.size w w'

/-- The library's two errors lie in their variables. -/
def Errs (w : World) : Prop := (∃ tp p, w.var? Tryd.prog "strconv.ErrSyntax" = some #[.iface tp p]) ∧ ∃ tp p, w.var? Tryd.prog "strconv.ErrRange" = some #[.iface tp p]

theorem var_below {w w' : World} {name : String} {v : Array Value} (h : w.var? Tryd.prog name = some v) (hb : Below w.heap.size w w') : w'.var? Tryd.prog name = some v := by
  unfold World.var? at *
  cases hg : Tryd.prog.globalNamed name with
  | none => rw [hg] at h; cases h
  | some g =>
    simp only [hg, Option.bind_some] at h ⊢
    have hlt : g < w.heap.size := by
      rcases Nat.lt_or_ge g w.heap.size with h' | h'
      · exact h'
      · rw [Array.getElem?_eq_none h'] at h; simp at h
    rw [hb.block g hlt]
    exact h
theorem Errs.below {w w' : World} (h : Errs w) (hb : Below w.heap.size w w') : Errs w' := by
  obtain ⟨⟨t1, p1, h1⟩, t2, p2, h2⟩ := h
  exact ⟨⟨t1, p1, var_below h1 hb⟩, t2, p2, var_below h2 hb⟩

theorem atoi_err (s : ByteArray) (w : World) (hm : s.size ≤ 281474976710656) (h : ∀ v, Lib.atoiAll s.data.toList ≠ .ok v) (he : Errs w) :
    Calls Tryd.prog 29 #[.string s] w (AtoiErr w) := by
  obtain ⟨⟨t1, p1, h1⟩, t2, p2, h2⟩ := he
  cases hA : Lib.atoiAll s.data.toList
  · exact absurd hA (h _)
  · exact (Any.strconv_Atoi_syntax_var Tryd.laysC172 s hm hA t1 p1 w h1).mono fun e w' ⟨N, he, _, _, hb⟩ => ⟨_, N, he, hb⟩
  · exact (Any.strconv_Atoi_range_var Tryd.laysC172 s hm hA t2 p2 w h2).mono fun e w' ⟨N, he, _, _, hb⟩ => ⟨_, N, he, hb⟩

theorem atoi_ok (s : ByteArray) (v : Int) (w : World) (hm : s.size ≤ 281474976710656) (h : Lib.atoiAll s.data.toList = .ok v) :
    Calls Tryd.prog 29 #[.string s] w fun e w' => e = .returned (.tuple #[.int .i64 v, .nilIface]) ∧ Below w.heap.size w w' :=
  (Tryd.strconv_Atoi_ok s (by omega) v h w).mono fun e w' ⟨he, hw⟩ => ⟨he, by
    rcases hw with rfl | ⟨t, rfl⟩
    · exact Below.refl _ _
    · exact ⟨rfl, rfl, rfl, by rw [Lib.bytesWorld_size]; omega, fun k hk => Lib.bytesWorld_at_old _ _ _ _ hk⟩⟩

set_option maxHeartbeats 400000 in
theorem implParse (s : ByteArray) (w : World) (hm : s.size ≤ 281474976710656) (ht : Tens w) (he : Errs w) :
    Calls Tryd.prog 14 #[.string s] w (ParsePost s w) := by
  by_cases hok : ∃ v, Lib.atoiAll s.data.toList = .ok v
  · obtain ⟨v, hv⟩ := hok
    have HA := Lib.hid (atoi_ok s v w hm hv)
    have HT := Lib.hid ht
    have hno : (v < 0 ∨ 1000000000 < v) → numOf s.data.toList = (0, false) := fun h => numOf_atoi fun u hu hu2 => by
      rw [hv] at hu2
      injection hu2 with hu2
      omega
    have hno2 : 0 ≤ v → Lib.decDigits v.toNat ≠ s.data.toList → numOf s.data.toList = (0, false) := fun h0 h => numOf_no fun u hu hu2 => by
      have h1 := atoi_dec u hu
      rw [hu2, hv] at h1
      injection h1 with h1
      subst h1
      exact h hu2
    have HN := Lib.hid hno
    have HM := Lib.hid hno2
    clear ht hv hno hno2 he
    by_cases hn : v < 0
    · go_enter Tryd.func14, Tryd.ntmps14
      go_wp2_with (go_at_call 29; refine HA.out.mono ?_; rintro e w1 ⟨rfl, hb1⟩)
      go_ret2
      exact parse_no (HN.out (.inl hn)) hb1
    · by_cases hb : 1000000000 < v
      · go_enter Tryd.func14, Tryd.ntmps14
        go_wp2_with (go_at_call 29; refine HA.out.mono ?_; rintro e w1 ⟨rfl, hb1⟩)
        go_ret2
        exact parse_no (HN.out (.inr hb)) hb1
      · obtain ⟨u, rfl⟩ := Int.eq_ofNat_of_zero_le (show 0 ≤ v by omega)
        obtain ⟨x, hx⟩ : ∃ x, x = strOf (Lib.decDigits u) := ⟨_, rfl⟩
        have hf : ∀ w1, Tens w1 → Calls Tryd.prog 11 #[.int .i64 (u : Int)] w1 fun e w' => e = .returned (.string x) ∧ Below w1.heap.size w1 w' := fun w1 h1 => by
          have h2 := implFormat (u : Int) w1 (by omega) (by omega) h1
          rw [Lib.itoa_nonneg, ← hx] at h2
          exact h2
        have HF := Lib.hid hf
        clear hf
        by_cases heq : x = s
        · have HY := Lib.hid (numOf_yes (u := u) (by omega) (show Lib.decDigits u = s.data.toList by rw [← heq, hx]))
          subst heq
          clear hx
          go_enter Tryd.func14, Tryd.ntmps14
          go_wp2_with fail
          refine HA.out.mono ?_
          rintro e w1 ⟨rfl, hb1⟩
          go_wp2_with fail
          refine (HF.out w1 (HT.out.below hb1)).mono ?_
          rintro e w2 ⟨rfl, hb2⟩
          go_wp2_with fail
          go_ret2
          exact parse_yes HY.out (hb1.trans (hb2.mono hb1.size))
        · have HY := Lib.hid (HM.out (by omega) (fun h => heq (by rw [hx, show u = (u : Int).toNat by omega, h, str_of])))
          have hxs := str_ne heq
          clear hx heq
          go_enter Tryd.func14, Tryd.ntmps14
          go_wp2_with fail
          refine HA.out.mono ?_
          rintro e w1 ⟨rfl, hb1⟩
          go_wp2_with fail
          refine (HF.out w1 (HT.out.below hb1)).mono ?_
          rintro e w2 ⟨rfl, hb2⟩
          go_wp2_with fail
          go_ret2
          exact parse_no HY.out (hb1.trans (hb2.mono hb1.size))
  · have HA := Lib.hid (atoi_err s w hm (fun v hv => hok ⟨v, hv⟩) he)
    have HN := Lib.hid (numOf_atoi (l := s.data.toList) (fun u _ hv => hok ⟨_, hv⟩))
    clear hok ht he
    go_enter Tryd.func14, Tryd.ntmps14
    go_wp2_with (go_at_call 29; refine HA.out.mono ?_; rintro e w1 ⟨x, N, rfl, hb1⟩)
    go_ret2
    exact parse_no HN.out hb1
end Go.Proofs.YtibdmidinopppaaDoor
