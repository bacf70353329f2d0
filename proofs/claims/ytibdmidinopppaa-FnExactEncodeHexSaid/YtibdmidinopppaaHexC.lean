/- The contracts of the hexadecimal functions: the model's and the program's EncodeHex give the same text; DecodeHex likewise. -/
import Derived.Test.YtibdmidinopppaaBytesC
import Derived.Deep.RegionHeld3
import Derived.Deep.AppendLies
import Derived.Outline
import Derived.Lib.Hide
namespace Go.Proofs.Ytibdmidinopppaa
open Go.ChangeShapes Go.WideShapes Go.ChangeAt Go.RowKit

theorem ret_int8 {k : IntKind} {a b : Int} (h : a = b) : Ending.returned (.int k a) = .returned (.int k b) := by rw [h]

/-- A hexadecimal figure. -/
def figI (x : Int) : Int := if x < 10 then 48 + x else 87 + x
def fig (n : Nat) : UInt8 := if n < 10 then UInt8.ofNat (48 + n) else UInt8.ofNat (87 + n)
theorem fig_eq (n : Nat) (h : n < 16) : ((fig n).toNat : Int) = figI n := by
  unfold fig figI
  split
  · rw [UInt8.toNat_ofNat']; omega
  · rw [UInt8.toNat_ofNat']; omega

/-- What EncodeHex makes of bytes. -/
def hexOf (l : List UInt8) : List UInt8 := l.flatMap fun c => [fig (c.toNat / 16), fig (c.toNat % 16)]
theorem hexOf_length (l : List UInt8) : (hexOf l).length = 2 * l.length := by
  induction l with
  | nil => rfl
  | cons c l ih => simp only [hexOf, List.flatMap_cons, List.length_append, List.length_cons, List.length_nil] at *; omega
theorem hexOf_snoc (l : List UInt8) (c : UInt8) : hexOf (l ++ [c]) = hexOf l ++ [fig (c.toNat / 16), fig (c.toNat % 16)] := by simp [hexOf]

theorem byte_lt (b : UInt8) : (b.toNat : Int) < 256 := by have := b.toNat_lt; omega

theorem figure_any (x : Int) (w : World) (h0 : 0 ≤ x) (h1 : x ≤ 15) :
    Calls Try.prog 25 #[.int .i64 x] w fun e w' => e = .returned (.int .u8 (figI x)) ∧ w = w' := by
  unfold figI
  by_cases h : x < 10
  · rw [if_pos h]
    go_enter Try.func25, Try.ntmps25
    go_wp2
    go_ret
    exact ⟨ret_int8 (by omega), rfl⟩
  · rw [if_neg h]
    go_enter Try.func25, Try.ntmps25
    go_wp2
    go_ret
    exact ⟨ret_int8 (by omega), rfl⟩

theorem own_below {w wr w1 : World} {v : Value} {l : List UInt8} {o : Obj} (hown : OwnsBytes wr w.heap.size v l) (hbel : Below w.heap.size w wr) (hg : ((wr.alloc o).drew).grownBy w1 v.ownBlock) : Below w.heap.size w w1 :=
  ((hbel.alloc hbel.size o).drew).grown hg (by have := hbel.size; simp; omega) (fun k hk => (hown.lt k hk).1)

theorem hex_step {w1 : World} {B : Nat} {v : Value} (s : ByteArray) (k : Nat) (hlt : k < s.size)
    (h : w1.ownsRow B 5 1 v ((hexOf (s.data.toList.take k)).length + 2) (bv (hexOf (s.data.toList.take k)) ++ [.int .u8 (figI (s[k].toNat / 16)), .int .u8 (figI (s[k].toNat % 16))])) :
    OwnsBytes w1 B v (hexOf (s.data.toList.take (k + 1))) := by
  have hb := s[k].toNat_lt
  rw [take_snoc s k hlt, hexOf_snoc]
  unfold OwnsBytes
  rw [bv_append, List.length_append]
  have e1 := fig_eq (s[k].toNat / 16) (by omega)
  have e2 := fig_eq (s[k].toNat % 16) (by omega)
  have e : bv [fig (s[k].toNat / 16), fig (s[k].toNat % 16)] = [.int .u8 (figI ((s[k].toNat : Int) / 16)), .int .u8 (figI ((s[k].toNat : Int) % 16))] := by
    simp only [bv, List.map_cons, List.map_nil, e1, e2]
    rfl
  rw [e]
  exact h

set_option maxRecDepth 100000 in
set_option maxHeartbeats 400000 in
theorem specEncode (s : ByteArray) (w : World) (hs : s.size ≤ 20000) :
    Calls Try.prog 11 #[.string s] w fun e w' => e = .returned (.tuple #[.string (strOf (hexOf s.data.toList)), .bool true]) ∧ Below w.heap.size w w' := by
  go_enter Try.func11, Try.ntmps11
  go_wp2
  go_loopw [4, 5] (fun v i wr => ∃ k : Nat, k ≤ s.size ∧ i = .int .i64 k ∧ OwnsBytes wr w.heap.size v (hexOf (s.data.toList.take k)) ∧ Below w.heap.size w wr) (fun _ i _ => s.size - (intOf i).toNat)
  case atStart => exact ⟨0, Nat.zero_le _, rfl, World.ownsRow_made w #[] 0 (Nat.le_refl _) (Nat.zero_le _) rfl, (Below.refl _ _).alloc (Nat.le_refl _) _⟩
  case round =>
    obtain ⟨k, hk, rfl, hown, hbel⟩ := hrel
    obtain ⟨i0, hi0, hz0, hz1, hz2⟩ := info_parts Try.infoByte
    have hlen := hexOf_length (s.data.toList.take k)
    have hlen2 : (hexOf (s.data.toList.take k)).length ≤ 40000 := by simp at hlen; omega
    clear hlen
    by_cases hlt : k < s.size
    · have HO := Lib.hid hown
      clear hown
      have hk0 : (0 : Int) ≤ (k : Int) := Int.natCast_nonneg _
      have hk1 : (k : Int) < (s.size : Int) := by omega
      have hb := byte_lt s[k]
      have e1 : IntKind.i64.wrap (s[k].toNat : Int) = (s[k].toNat : Int) := IntWalk.i64_in _ (by omega)
      have e2 : (s[k].toNat : Int).tdiv 16 = (s[k].toNat : Int) / 16 := Int.tdiv_eq_ediv_of_nonneg (by omega)
      have e3 : (s[k].toNat : Int).tmod 16 = (s[k].toNat : Int) % 16 := Int.tmod_eq_emod_of_nonneg (by omega)
      have e4 : IntKind.i64.wrap ((s[k].toNat : Int) / 16) = (s[k].toNat : Int) / 16 := IntWalk.i64_in _ (by omega)
      have e5 : IntKind.i64.wrap ((s[k].toNat : Int) % 16) = (s[k].toNat : Int) % 16 := IntWalk.i64_in _ (by omega)
      go_wp2_with fail
      go_region_held3 (fun _ => True) (first | go_keep | trivial)
        (first
          | (go_at_call 25; refine (figure_any _ _ ?_ ?_).mono ?_; (omega); (omega); rintro e w' ⟨rfl, rfl⟩)
          | (refine step_append_lies _ (by rfl) _ _ _ (by rfl) w.heap.size 5 i0 _ 1 1 Try.underlying22 hi0 hz0 hz1 hz2 rfl (by omega) u4 _ _ (by rfl) ((HO.out.alloc _).drew)
              ⟨wr.heap.size, 0, none⟩ 2 2 [.int .u8 (figI (s[k].toNat / 16)), .int .u8 (figI (s[k].toNat % 16))] (by rfl) (by rfl) (World.news_of_block (cs := #[.int .u8 (figI (s[k].toNat / 16)), .int .u8 (figI (s[k].toNat % 16))]) (t := 5) (fr := (0, 0)) (heap_alloc_new wr _)) (by simp [Value.oneCell'])
              (by omega) (by unfold maxLen; omega) (by omega) (by have := hbel.size; simp; omega) (wr.heap.size + 1) (by simp) ?_; intro gg cap w1 hown1 hgrow hat hgl))
      all_goals
        have hown1' := hex_step s k hlt hown1
        have hbel1 := own_below HO.out hbel hgrow
        clear hown1 hgrow hat HO hbel e1 e2 e3 e4 e5
        go_wp2
        go_roundw
        case rel => exact ⟨k + 1, by omega, by go_num, hown1', hbel1⟩
        case measure => simp [intOf]; omega
    · obtain rfl : k = s.size := by omega
      rw [take_all] at hown
      have hconv := convert_owned hown
      clear hown hlen2 hi0 hz0 hz1 hz2
      go_wp2
      go_ret2
      exact ⟨rfl, hbel⟩
theorem and15 (b : UInt8) : bits .and .u8 (b.toNat : Int) 15 = (b.toNat : Int) % 16 := by
  have hb := b.toNat_lt
  have h1 : (BitVec.ofInt 8 (b.toNat : Int)).toNat = b.toNat := by
    rw [BitVec.ofInt_natCast, BitVec.toNat_ofNat]; exact Nat.mod_eq_of_lt (by omega)
  have h2 : (BitVec.ofInt 8 (15 : Int)).toNat = 15 := by decide
  show IntKind.u8.wrap ((BitVec.ofInt 8 (b.toNat : Int) &&& BitVec.ofInt 8 15).toNat : Int) = _
  rw [BitVec.toNat_and, h1, h2, show (15 : Nat) = 2 ^ 4 - 1 from rfl, Nat.and_two_pow_sub_one_eq_mod, IntKind.wrap_u8]
  omega

/-- The sixteen figures. -/
abbrev figs : ByteArray := ⟨#[48, 49, 50, 51, 52, 53, 54, 55, 56, 57, 97, 98, 99, 100, 101, 102]⟩
theorem figs_at (n : Nat) (h : n < 16) (w : World) : (Instr.index 9 (.string figs) (.int .u8 (n : Int))).run Try.prog w = .ok (.int .u8 (figI n)) w := by
  rcases (by omega : n = 0 ∨ n = 1 ∨ n = 2 ∨ n = 3 ∨ n = 4 ∨ n = 5 ∨ n = 6 ∨ n = 7 ∨ n = 8 ∨ n = 9 ∨ n = 10 ∨ n = 11 ∨ n = 12 ∨ n = 13 ∨ n = 14 ∨ n = 15) with rfl | rfl | rfl | rfl | rfl | rfl | rfl | rfl | rfl | rfl | rfl | rfl | rfl | rfl | rfl | rfl
  all_goals rfl

set_option maxRecDepth 100000 in
set_option maxHeartbeats 400000 in
theorem implEncode (s : ByteArray) (w : World) (hs : s.size ≤ 20000) :
    Calls Try.prog 12 #[.string s] w fun e w' => e = .returned (.tuple #[.string (strOf (hexOf s.data.toList)), .bool true]) ∧ Below w.heap.size w w' := by
  obtain ⟨i0, hi0, hz0, hz1, hz2⟩ := info_parts Try.infoByte
  go_enter Try.func12, Try.ntmps12
  go_wp2_with (at_make; refine wpList_make_own _ rfl _ _ 22 rfl w.heap.size 5 i0 (.int .u8 0) 1 Try.underlying22 hi0 hz0 hz1 .i64 .i64 _ (2 * s.size) rfl rfl (by omega) (by rw [hz2]; omega) (by unfold maxLen; omega) (Nat.le_refl _) ?_; intro w0 hown0 hgrow0)
  go_loopw [4, 15] (fun v i wr => ∃ k : Nat, k ≤ s.size ∧ i = .int .i64 k ∧ OwnsBytes wr w.heap.size v (hexOf (s.data.toList.take k)) ∧ Below w.heap.size w wr) (fun _ i _ => s.size - (intOf i).toNat)
  case atStart => exact ⟨0, Nat.zero_le _, rfl, hown0, (Below.refl _ _).grown hgrow0 (Nat.le_refl _) (fun k hk => by cases hk)⟩
  case round =>
    clear hown0 hgrow0 w0
    obtain ⟨k, hk, rfl, hown, hbel⟩ := hrel
    have hlen := hexOf_length (s.data.toList.take k)
    have hlen2 : (hexOf (s.data.toList.take k)).length ≤ 40000 := by simp at hlen; omega
    clear hlen
    by_cases hlt : k < s.size
    · have HO := Lib.hid hown
      clear hown
      have hk0 : (0 : Int) ≤ (k : Int) := Int.natCast_nonneg _
      have hk1 : (k : Int) < (s.size : Int) := by omega
      have hb := byte_lt s[k]
      have f1 := figs_at (s[k].toNat / 16) (by omega)
      have f2 := figs_at (s[k].toNat % 16) (by omega)
      have e3 := and15 s[k]
      simp only [Int.natCast_ediv, Int.natCast_emod, Int.cast_ofNat_Int] at f1 f2
      go_wp2_with fail
      go_region_held3 (fun _ => True) (first | go_keep | trivial)
        ((refine step_append_lies _ (by rfl) _ _ _ (by rfl) w.heap.size 5 i0 _ 1 1 Try.underlying22 hi0 hz0 hz1 hz2 rfl (by omega) u4 _ _ (by rfl) ((HO.out.alloc _).drew)
              ⟨wr.heap.size, 0, none⟩ 2 2 [.int .u8 (figI (s[k].toNat / 16)), .int .u8 (figI (s[k].toNat % 16))] (by rfl) (by rfl) (World.news_of_block (cs := #[.int .u8 (figI (s[k].toNat / 16)), .int .u8 (figI (s[k].toNat % 16))]) (t := 5) (fr := (0, 0)) (heap_alloc_new wr _)) (by simp [Value.oneCell'])
              (by omega) (by unfold maxLen; omega) (by omega) (by have := hbel.size; simp; omega) (wr.heap.size + 1) (by simp) ?_; intro gg cap w1 hown1 hgrow hat hgl))
      all_goals
        have hown1' := hex_step s k hlt hown1
        have hbel1 := own_below HO.out hbel hgrow
        clear hown1 hgrow hat HO hbel e3 f1 f2
        go_wp2
        go_roundw
        case rel => exact ⟨k + 1, by omega, by go_num, hown1', hbel1⟩
        case measure => simp [intOf]; omega
    · obtain rfl : k = s.size := by omega
      rw [take_all] at hown
      have hconv := convert_owned hown
      clear hown hlen2 hi0 hz0 hz1 hz2
      go_wp2
      go_ret2
      exact ⟨rfl, hbel⟩

/-- Both answer so where the text is too long. -/
theorem specEncode_long (s : ByteArray) (w : World) (hm : s.size ≤ 9223372036854775807) (hs : 20000 < s.size) :
    Calls Try.prog 11 #[.string s] w fun e w' => e = .returned (.tuple #[.string (strOf []), .bool false]) ∧ w = w' := by
  go_enter Try.func11, Try.ntmps11
  go_wp2
  go_ret2
  exact ⟨rfl, rfl⟩
theorem implEncode_long (s : ByteArray) (w : World) (hm : s.size ≤ 9223372036854775807) (hs : 20000 < s.size) :
    Calls Try.prog 12 #[.string s] w fun e w' => e = .returned (.tuple #[.string (strOf []), .bool false]) ∧ w = w' := by
  go_enter Try.func12, Try.ntmps12
  go_wp2
  go_ret2
  exact ⟨rfl, rfl⟩
end Go.Proofs.Ytibdmidinopppaa
