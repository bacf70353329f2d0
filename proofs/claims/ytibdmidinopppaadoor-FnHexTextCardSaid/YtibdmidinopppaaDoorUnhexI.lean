/- The contract of the program's DecodeHex. -/
import Derived.Test.YtibdmidinopppaaDoorUnhexP
import Derived.Test.YtibdmidinopppaaDoorShelf
namespace Go.Proofs.YtibdmidinopppaaDoor
open Go.ChangeShapes Go.WideShapes Go.ChangeAt Go.RowKit

/-- strings.IndexByte in the sixteen figures: the figure's value. -/
theorem index_figs (b : UInt8) (w : World) :
    Calls Tryd.prog 27 #[.string ⟨#[48, 49, 50, 51, 52, 53, 54, 55, 56, 57, 97, 98, 99, 100, 101, 102]⟩, .int .u8 (b.toNat : Int)] w fun e w' => e = .returned (.int .i64 (valI (b.toNat : Int))) ∧ w = w' :=
  (Tryd.strings_IndexByte _ _ w).mono fun e w' ⟨he, hw⟩ => ⟨by
    rw [he]
    have h := index_fin ⟨b.toNat, by have := b.toNat_lt; omega⟩
    simp only at h
    rw [← h]
    simp, hw.symm⟩

set_option maxRecDepth 100000 in
set_option maxHeartbeats 800000 in
theorem implDecode (s : ByteArray) (w : World) (hs : s.size ≤ 40000) (hev : s.size % 2 = 0) :
    Calls Tryd.prog 12 #[.string s] w (UnhexPost s w) := by
  obtain ⟨i0, hi0, hz0, hz1, hz2⟩ := info_parts Tryd.infoByte
  have hev' : (s.size : Int) % 2 = 0 := by omega
  have hev2 : ((s.size : Int) % 2 != 0) = false := by simp [hev']
  clear hev'
  go_enter Tryd.func12, Tryd.ntmps12
  go_wp2_with (at_make; refine wpList_make_own _ rfl _ _ 22 rfl w.heap.size 5 i0 (.int .u8 0) 1 Tryd.underlying22 hi0 hz0 hz1 .i64 .i64 _ (s.size / 2) rfl rfl (by omega) (by rw [hz2]; omega) (by unfold maxLen; omega) (Nat.le_refl _) ?_; intro w0 hown0 hgrow0)
  go_loopw [4, 5] (fun v i wr => UnhexRel s w v i wr) (fun _ i _ => s.size - (intOf i).toNat)
  case atStart => exact ⟨0, [], Nat.zero_le _, rfl, rfl, rfl, hown0, (Below.refl _ _).grown hgrow0 (Nat.le_refl _) (fun k hk => by cases hk)⟩
  case round =>
    clear hown0 hgrow0 w0
    obtain ⟨j, r, hj, hje, rfl, hr, hown, hbel⟩ := hrel
    have HR := Lib.hid hr
    have HE := Lib.hid hje
    have HV := Lib.hid hev
    have hrl : r.length ≤ 20000 := by have := unhexTo_length _ _ _ hr; omega
    by_cases hlt : j < s.size
    · have hlt1 : j + 1 < s.size := by omega
      clear hr hje hev
      have hj0 : (0 : Int) ≤ (j : Int) := Int.natCast_nonneg _
      have b1 := byte_rng s[j]
      have b2 := byte_rng s[j + 1]
      have v1 := valI_bd (s[j].toNat : Int)
      have v2 := valI_bd (s[j + 1].toNat : Int)
      have HO := Lib.hid hown
      clear hown
      go_wp2_with fail
      refine (index_figs _ _).mono ?_
      rintro e w' ⟨rfl, rfl⟩
      go_wp2_with fail
      refine (index_figs _ _).mono ?_
      rintro e w' ⟨rfl, rfl⟩
      by_cases hv1 : valI (s[j].toNat : Int) < 0
      · go_wp2_with fail
        go_ret2
        exact post_none (step_none HE.out hlt1 HR.out (.inl hv1)) hbel
      · by_cases hv2 : valI (s[j + 1].toNat : Int) < 0
        · go_wp2_with fail
          go_ret2
          exact post_none (step_none HE.out hlt1 HR.out (.inr hv2)) hbel
        · have hst := step_some HE.out hlt1 HR.out hv1 hv2
          generalize hX : 16 * valI (s[j].toNat : Int) + valI (s[j + 1].toNat : Int) = X at hst
          have hX0 : 0 ≤ X := by omega
          have hX1 : X ≤ 255 := by omega
          have HS := Lib.hid hst
          have HX := Lib.hid hX
          clear hst hX
          have hor := or16 (valI (s[j].toNat : Int)) (valI (s[j + 1].toNat : Int)) (by omega) (by omega) (by omega) (by omega)
          rw [show valI (s[j].toNat : Int) * 16 + valI (s[j + 1].toNat : Int) = X by rw [← HX.out]; omega] at hor
          clear HX
          go_wp2_with (at_builtin; refine wpList_append_lies _ rfl _ _ _ rfl w.heap.size 5 i0 _ 1 1 Tryd.underlying22 hi0 hz0 hz1 hz2 rfl (by omega) u4 _ _ (by rfl) (HO.out.alloc _) ⟨wr.heap.size, 0, none⟩ 1 1 [.int .u8 X] (by rfl) (by rfl) (World.news_of_block (cs := #[.int .u8 X]) (t := 5) (fr := (0, 0)) (heap_alloc_new wr _)) (by simp [Value.oneCell']) (by omega) (by unfold maxLen; omega) (by omega) (by have := hbel.size; simp; omega) (wr.heap.size + 1) (by simp) ?_; intro gg cap w1 hown1 hgrow hat hgl)
          exact ⟨⟨j + 2, _, by omega, by have := HE.out; omega, by go_num, HS.out, unhex_own hX0 hX1 hown1, own_below1 HO.out hbel hgrow⟩, by simp [intOf]; omega⟩
    · obtain rfl : j = s.size := by omega
      have hconv := convert_owned hown
      clear hr hje hev hown
      go_wp2
      go_ret2
      exact post_some HR.out hbel

theorem implDecode_no (s : ByteArray) (w : World) (hm : s.size ≤ 9223372036854775807) (h : 40000 < s.size ∨ s.size % 2 = 1) :
    Calls Tryd.prog 12 #[.string s] w fun e w' => e = .returned (.tuple #[.string (strOf []), .bool false]) ∧ w = w' := by
  by_cases hb : 40000 < s.size
  · by_cases ho : s.size % 2 = 1
    · have ho2 : ((s.size : Int) % 2 != 0) = true := by simp; omega
      clear h ho
      go_enter Tryd.func12, Tryd.ntmps12
      go_wp2
      go_ret2
      exact ⟨rfl, rfl⟩
    · have ho2 : ((s.size : Int) % 2 != 0) = false := by simp; omega
      clear h ho
      go_enter Tryd.func12, Tryd.ntmps12
      go_wp2
      go_ret2
      exact ⟨rfl, rfl⟩
  · have ho2 : ((s.size : Int) % 2 != 0) = true := by simp; omega
    clear h
    go_enter Tryd.func12, Tryd.ntmps12
    go_wp2
    go_ret2
    exact ⟨rfl, rfl⟩
end Go.Proofs.YtibdmidinopppaaDoor
