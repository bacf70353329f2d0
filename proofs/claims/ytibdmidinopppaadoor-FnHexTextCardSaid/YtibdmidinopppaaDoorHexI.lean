/- The contract of the program's EncodeHex. -/
import Derived.Test.YtibdmidinopppaaDoorHexP
namespace Go.Proofs.YtibdmidinopppaaDoor
open Go.ChangeShapes Go.WideShapes Go.ChangeAt Go.RowKit

set_option maxRecDepth 100000 in
set_option maxHeartbeats 400000 in
theorem implEncode (s : ByteArray) (w : World) (hs : s.size ≤ 20000) :
    Calls Tryd.prog 10 #[.string s] w fun e w' => e = .returned (.tuple #[.string (strOf (hexOf s.data.toList)), .bool true]) ∧ Below w.heap.size w w' := by
  obtain ⟨i0, hi0, hz0, hz1, hz2⟩ := info_parts Tryd.infoByte
  go_enter Tryd.func10, Tryd.ntmps10
  go_wp2_with (at_make; refine wpList_make_own _ rfl _ _ 22 rfl w.heap.size 5 i0 (.int .u8 0) 1 Tryd.underlying22 hi0 hz0 hz1 .i64 .i64 _ (2 * s.size) rfl rfl (by omega) (by rw [hz2]; omega) (by unfold maxLen; omega) (Nat.le_refl _) ?_; intro w0 hown0 hgrow0)
  go_loopw [4, 15] (fun v i wr => ∃ k : Nat, k ≤ s.size ∧ i = .int .i64 k ∧ OwnsBytes wr w.heap.size v (hexOf (s.data.toList.take k)) ∧ Below w.heap.size w wr) (fun _ i _ => s.size - (intOf i).toNat)
  case atStart => exact ⟨0, Nat.zero_le _, rfl, hown0, (Below.refl _ _).grown hgrow0 (Nat.le_refl _) (fun k hk => by cases hk)⟩
  case round =>
    clear hown0 hgrow0 w0
    obtain ⟨k, hk, rfl, hown, hbel⟩ := hrel
    have hlen := hexOf_length (s.data.toList.take k)
    have hlen2 : (hexOf (s.data.toList.take k)).length ≤ 40000 := by simp at hlen; omega
    clear hlen
    by_cases hlt : k < s.size
    · have HO := Lib.hid hown
      clear hown
      have hk0 : (0 : Int) ≤ (k : Int) := Int.natCast_nonneg _
      have hk1 : (k : Int) < (s.size : Int) := by omega
      have hb := byte_lt s[k]
      have f1 := figs_at (s[k].toNat / 16) (by omega)
      have f2 := figs_at (s[k].toNat % 16) (by omega)
      have e3 := and15 s[k]
      simp only [Int.natCast_ediv, Int.natCast_emod, Int.cast_ofNat_Int] at f1 f2
      go_wp2_with fail
      go_region_held3 (fun _ => True) (first | go_keep | trivial)
        ((refine step_append_lies _ (by rfl) _ _ _ (by rfl) w.heap.size 5 i0 _ 1 1 Tryd.underlying22 hi0 hz0 hz1 hz2 rfl (by omega) u4 _ _ (by rfl) ((HO.out.alloc _).drew)
              ⟨wr.heap.size, 0, none⟩ 2 2 [.int .u8 (figI (s[k].toNat / 16)), .int .u8 (figI (s[k].toNat % 16))] (by rfl) (by rfl) (World.news_of_block (cs := #[.int .u8 (figI (s[k].toNat / 16)), .int .u8 (figI (s[k].toNat % 16))]) (t := 5) (fr := (0, 0)) (heap_alloc_new wr _)) (by simp [Value.oneCell'])
              (by omega) (by unfold maxLen; omega) (by omega) (by have := hbel.size; simp; omega) (wr.heap.size + 1) (by simp) ?_; intro gg cap w1 hown1 hgrow hat hgl))
      all_goals
        have hown1' := hex_step s k hlt hown1
        have hbel1 := own_below HO.out hbel hgrow
        clear hown1 hgrow hat HO hbel e3 f1 f2
        go_wp2
        go_roundw
        case rel => exact ⟨k + 1, by omega, by go_num, hown1', hbel1⟩
        case measure => simp [intOf]; omega
    · obtain rfl : k = s.size := by omega
      rw [take_all] at hown
      have hconv := convert_owned hown
      clear hown hlen2 hi0 hz0 hz1 hz2
      go_wp2
      go_ret2
      exact ⟨rfl, hbel⟩

theorem implEncode_long (s : ByteArray) (w : World) (hm : s.size ≤ 9223372036854775807) (hs : 20000 < s.size) :
    Calls Tryd.prog 10 #[.string s] w fun e w' => e = .returned (.tuple #[.string (strOf []), .bool false]) ∧ w = w' := by
  go_enter Tryd.func10, Tryd.ntmps10
  go_wp2
  go_ret2
  exact ⟨rfl, rfl⟩
end Go.Proofs.YtibdmidinopppaaDoor
