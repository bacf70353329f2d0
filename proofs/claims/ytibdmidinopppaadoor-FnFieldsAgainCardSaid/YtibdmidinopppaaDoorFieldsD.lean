/- The contract of the draw of a line: some text of at most 1000 bytes; nothing old is written. -/
import Derived.Test.YtibdmidinopppaaDoorDrawT
import Derived.Test.YtibdmidinopppaaDoorDigsC
import Derived.Lib.Hide
import Derived.Outline
namespace Go.Proofs.YtibdmidinopppaaDoor
open Go.ChangeShapes Go.WideShapes Go.ChangeAt Go.RowKit

theorem below_grown {w w' : World} (h : Below w.heap.size w w') (r : Option Nat) : w.grownBy w' r := ⟨h.os, h.tape, h.output, h.size, fun k hk _ => h.block k hk⟩

theorem two_three (x y : Int) (hx0 : 0 ≤ x) (hx1 : x < 2) (hy0 : 0 ≤ y) (hy1 : y < 3) : 0 ≤ x * y ∧ x * y ≤ 2 := by
  rcases (show x = 0 ∨ x = 1 by omega) with rfl | rfl <;> omega

/-- A list of short texts lies at block bl: m of them. -/
def TextsAt (w : World) (bl m : Nat) : Prop := ∀ k : Nat, k < m → ∃ t : List UInt8, t.length ≤ 2 ∧ w.cell? ⟨bl, k, none⟩ = some (.string (strOf t))

/-- A short text was picked. -/
def PickedS (bc : Nat) (a : Option Addr) (n cap : Nat) (w : World) (e : Ending) (w' : World) : Prop :=
  ∃ t : List UInt8, t.length ≤ 2 ∧ e = .returned (.string (strOf t)) ∧ CurOk w' bc a n cap ∧ w.grownBy w' (some bc)

set_option maxHeartbeats 400000 in
theorem pick_any (w : World) (bc : Nat) (a : Option Addr) (n cap : Nat) (bl m cp : Nat) (hm0 : 0 < m) (hm : m ≤ 1000000) (hne : bl ≠ bc) (hl : TextsAt w bl m) (hc : CurOk w bc a n cap) :
    Calls Tryd.prog 30 #[.pointer (some ⟨bc, 0, none⟩), .slice (some ⟨bl, 0, none⟩) m cp] w (PickedS bc a n cap w) := by
  have HL := Lib.hid hl
  clear hl
  go_enter Tryd.func30, Tryd.ntmps30
  go_wp2_with fail
  refine (below_any _ _ _ _ _ _ (by omega) hc).mono ?_
  rintro e w1 ⟨x, ⟨hx0, hx1, -⟩, rfl, hc1, hg1⟩
  obtain ⟨k, rfl⟩ := Int.eq_ofNat_of_zero_le hx0
  have hk := hx1 (by omega)
  obtain ⟨t, ht, hcell0⟩ := HL.out k (by omega)
  have hcell := hg1.cell hcell0 (show some bl ≠ some bc by simpa using hne)
  clear hx1 hcell0
  go_wp2_with fail
  go_ret
  exact ⟨t, ht, rfl, hc1, hg1⟩

/-- The relation of the loop over the fields. -/
def OuterRel (m : Int) (w1 : World) (bc : Nat) (a : Option Addr) (n cap : Nat) (s i : Value) (wr : World) : Prop :=
  ∃ (l : List UInt8) (k : Nat), (k : Int) ≤ m ∧ l.length ≤ 8 * k ∧ s = .string (strOf l) ∧ i = .int .i64 k ∧ CurOk wr bc a n cap ∧ w1.grownBy wr (some bc)
/-- The relation of the loop over a field's bytes. -/
def InnerRel (l0 : List UInt8) (w1 : World) (bc : Nat) (a : Option Addr) (n cap : Nat) (s i : Value) (wr : World) : Prop :=
  ∃ (l : List UInt8) (k : Nat), k ≤ 5 ∧ l.length ≤ l0.length + k ∧ s = .string (strOf l) ∧ i = .int .i64 k ∧ CurOk wr bc a n cap ∧ w1.grownBy wr (some bc)

/-- A text was drawn; below the block B all is as it was. -/
def LineS (B : Nat) (w : World) (e : Ending) (w' : World) : Prop := ∃ l : List UInt8, l.length ≤ 1000 ∧ e = .returned (.string (strOf l)) ∧ Below B w w'

theorem below_of_grown {w w1 w2 : World} {bc : Nat} (h : Below w.heap.size w w1) (hg : w1.grownBy w2 (some bc)) (hb : bc = w.heap.size) : Below w.heap.size w w2 :=
  h.grown hg h.size (fun k hk => by cases hk; omega)

set_option maxRecDepth 100000 in
set_option maxHeartbeats 1000000 in
theorem draw_line (w : World) (a : Option Addr) (n cap : Nat) (zs : List Int) (hr : IsCode w a n cap zs) :
    Calls Tryd.prog 15 #[.slice a n cap] w (LineS w.heap.size w) := by
  go_enter Tryd.func15, Tryd.ntmps15
  go_wp2_with fail
  refine (new_any _ _ _ _ zs hr).mono ?_
  rintro e w1 ⟨rfl, hc1, hb1, -⟩
  clear hr
  go_wp2_with fail
  refine (below_any _ _ _ _ _ _ (by omega) hc1).mono ?_
  rintro e w2 ⟨m0, ⟨hm0, hm1, -⟩, rfl, hc2, hg2⟩
  have hm2 := hm1 (by omega)
  clear hm1
  go_wp2_with fail
  refine (once_any _ _ _ _ _ _ (by omega) hc2).mono ?_
  rintro e w3 ⟨q, rfl, hc3, hg3⟩
  have hg13 := grown_trans hg2 hg3
  cases q
  · go_wp2_with fail
    go_loopw [5, 6] (fun s i wr => OuterRel (m0) w1 w.heap.size a n cap s i wr) (fun _ i _ => ((m0) - intOf i).toNat)
    case atStart => exact ⟨[], 0, by omega, by simp, rfl, rfl, hc3, hg13⟩
    case round =>
      obtain ⟨l, i, hi, hl, rfl, rfl, hcr, hgr⟩ := hrel
      by_cases hlt : (i : Int) < m0
      · by_cases hi0 : (0 : Int) < (i : Int)
        · go_wp2_with fail
          refine (below_any _ _ _ _ _ _ (by omega) hcr).mono ?_
          rintro e w3 ⟨x1, ⟨hx0, hx1, -⟩, rfl, hc3, hg3⟩
          have hx2 := hx1 (by omega)
          clear hx1
          go_wp2_with fail
          refine (below_any _ _ _ _ _ _ (by omega) hc3).mono ?_
          rintro e w4 ⟨x2, ⟨hy0, hy1, -⟩, rfl, hc4, hg4⟩
          have hy2 := hy1 (by omega)
          clear hy1
          have hp := two_three x1 x2 hx0 hx2 hy0 hy2
          go_wp2_with fail
          refine (long_any _ _ _ (by omega) (by omega) (by omega) (by omega)).mono ?_
          rintro e w5 ⟨t2, ht2, rfl, hb5⟩
          have hl2 : t2.length ≤ 3 := by omega
          clear ht2
          have hcx := hc4.kept (below_grown hb5 none) (by simp) (fun _ _ _ => by simp)
          have hgx := grown_trans hgr (grown_trans hg3 (grown_trans hg4 (below_grown hb5 _)))
          obtain ⟨l0, hl0⟩ : ∃ l0, l0 = l ++ t2 := ⟨_, rfl⟩
          have hlen0 : l0.length ≤ 8 * i + 3 := by rw [hl0]; simp; omega
          have HL0 := Lib.hid hl0
          clear hl0 hp
          go_wp2_with fail
          obtain ⟨wo, hwo⟩ : ∃ wo : World, wo = w5 := ⟨_, rfl⟩
          subst hwo
          go_loopw [5, 7] (fun s k wr => InnerRel l0 w1 w.heap.size a n cap s k wr) (fun _ k _ => (6 - intOf k).toNat)
          case atStart => exact ⟨l0, 0, by omega, by omega, congrArg Value.string ((str_append l t2).trans (congrArg strOf HL0.out.symm)), rfl, hcx, hgx⟩
          case round =>
            obtain ⟨t, k, hk, ht, rfl, rfl, hct, hgt⟩ := hrel
            go_wp2_with fail
            refine (below_any _ _ _ _ _ _ (by omega) hct).mono ?_
            rintro e w6 ⟨y, ⟨hy0, hy1, -⟩, rfl, hc6, hg6⟩
            have hy2 := hy1 (by omega)
            clear hy1
            by_cases hky : (k : Int) ≤ y
            · go_wp2_with fail
              refine (below_any _ _ _ _ _ _ (by omega) hc6).mono ?_
              rintro e w7 ⟨z, ⟨hz0, hz1, -⟩, rfl, hc7, hg7⟩
              have hz2 := hz1 (by omega)
              clear hz1
              obtain ⟨c, hc⟩ : ∃ c : UInt8, (c.toNat : Int) = 33 + z := ⟨UInt8.ofNat (33 + z).toNat, by rw [UInt8.toNat_ofNat']; omega⟩
              have hconv := convert_one w7 (33 + z) c hc
              clear hc
              go_wp2_with fail
              refine ⟨⟨t ++ [c], k + 1, by omega, by simp; omega, ?_, by go_num, hc7.alloc _, grown_trans hgt (grown_trans hg6 (grown_trans hg7 (World.grownBy_alloc _ _ _)))⟩, by simp [intOf]; omega⟩
              rw [str_append]
            · go_wp2_with fail
              refine ⟨⟨t, i + 1, by omega, by omega, rfl, by go_num, hc6, grown_trans hgt hg6⟩, by simp [intOf]; omega⟩
        · go_wp2_with fail
          refine (once_any _ _ _ _ _ _ (by omega) hcr).mono ?_
          rintro e w8 ⟨q2, rfl, hc8, hg8⟩
          have hgr8 := grown_trans hgr hg8
          cases q2
          · obtain ⟨l0, hl0⟩ : ∃ l0, l0 = l := ⟨_, rfl⟩
            have hlen0 : l0.length ≤ 8 * i + 3 := by rw [hl0]; omega
            have HL0 := Lib.hid hl0
            clear hl0
            have hcx := hc8
            have hgx := hgr8
            go_wp2_with fail
            obtain ⟨wo, hwo⟩ : ∃ wo : World, wo = w8 := ⟨_, rfl⟩
            subst hwo
            go_loopw [5, 7] (fun s k wr => InnerRel l0 w1 w.heap.size a n cap s k wr) (fun _ k _ => (6 - intOf k).toNat)
            case atStart => exact ⟨l0, 0, by omega, by omega, congrArg (fun z => Value.string (strOf z)) HL0.out.symm, rfl, hcx, hgx⟩
            case round =>
              obtain ⟨t, k, hk, ht, rfl, rfl, hct, hgt⟩ := hrel
              go_wp2_with fail
              refine (below_any _ _ _ _ _ _ (by omega) hct).mono ?_
              rintro e w6 ⟨y, ⟨hy0, hy1, -⟩, rfl, hc6, hg6⟩
              have hy2 := hy1 (by omega)
              clear hy1
              by_cases hky : (k : Int) ≤ y
              · go_wp2_with fail
                refine (below_any _ _ _ _ _ _ (by omega) hc6).mono ?_
                rintro e w7 ⟨z, ⟨hz0, hz1, -⟩, rfl, hc7, hg7⟩
                have hz2 := hz1 (by omega)
                clear hz1
                obtain ⟨c, hc⟩ : ∃ c : UInt8, (c.toNat : Int) = 33 + z := ⟨UInt8.ofNat (33 + z).toNat, by rw [UInt8.toNat_ofNat']; omega⟩
                have hconv := convert_one w7 (33 + z) c hc
                clear hc
                go_wp2_with fail
                refine ⟨⟨t ++ [c], k + 1, by omega, by simp; omega, ?_, by go_num, hc7.alloc _, grown_trans hgt (grown_trans hg6 (grown_trans hg7 (World.grownBy_alloc _ _ _)))⟩, by simp [intOf]; omega⟩
                rw [str_append]
              · go_wp2_with fail
                refine ⟨⟨t, i + 1, by omega, by omega, rfl, by go_num, hc6, grown_trans hgt hg6⟩, by simp [intOf]; omega⟩
          · go_wp2_with fail
            refine (below_any _ _ _ _ _ _ (by omega) hc8).mono ?_
            rintro e w3 ⟨x1, ⟨hx0, hx1, -⟩, rfl, hc3, hg3⟩
            have hx2 := hx1 (by omega)
            clear hx1
            go_wp2_with fail
            refine (below_any _ _ _ _ _ _ (by omega) hc3).mono ?_
            rintro e w4 ⟨x2, ⟨hy0, hy1, -⟩, rfl, hc4, hg4⟩
            have hy2 := hy1 (by omega)
            clear hy1
            have hp := two_three x1 x2 hx0 hx2 hy0 hy2
            go_wp2_with fail
            refine (long_any _ _ _ (by omega) (by omega) (by omega) (by omega)).mono ?_
            rintro e w5 ⟨t2, ht2, rfl, hb5⟩
            have hl2 : t2.length ≤ 3 := by omega
            clear ht2
            have hcx := hc4.kept (below_grown hb5 none) (by simp) (fun _ _ _ => by simp)
            have hgx := grown_trans hgr8 (grown_trans hg3 (grown_trans hg4 (below_grown hb5 _)))
            obtain ⟨l0, hl0⟩ : ∃ l0, l0 = l ++ t2 := ⟨_, rfl⟩
            have hlen0 : l0.length ≤ 8 * i + 3 := by rw [hl0]; simp; omega
            have HL0 := Lib.hid hl0
            clear hl0 hp
            go_wp2_with fail
            obtain ⟨wo, hwo⟩ : ∃ wo : World, wo = w5 := ⟨_, rfl⟩
            subst hwo
            go_loopw [5, 7] (fun s k wr => InnerRel l0 w1 w.heap.size a n cap s k wr) (fun _ k _ => (6 - intOf k).toNat)
            case atStart => exact ⟨l0, 0, by omega, by omega, congrArg Value.string ((str_append l t2).trans (congrArg strOf HL0.out.symm)), rfl, hcx, hgx⟩
            case round =>
              obtain ⟨t, k, hk, ht, rfl, rfl, hct, hgt⟩ := hrel
              go_wp2_with fail
              refine (below_any _ _ _ _ _ _ (by omega) hct).mono ?_
              rintro e w6 ⟨y, ⟨hy0, hy1, -⟩, rfl, hc6, hg6⟩
              have hy2 := hy1 (by omega)
              clear hy1
              by_cases hky : (k : Int) ≤ y
              · go_wp2_with fail
                refine (below_any _ _ _ _ _ _ (by omega) hc6).mono ?_
                rintro e w7 ⟨z, ⟨hz0, hz1, -⟩, rfl, hc7, hg7⟩
                have hz2 := hz1 (by omega)
                clear hz1
                obtain ⟨c, hc⟩ : ∃ c : UInt8, (c.toNat : Int) = 33 + z := ⟨UInt8.ofNat (33 + z).toNat, by rw [UInt8.toNat_ofNat']; omega⟩
                have hconv := convert_one w7 (33 + z) c hc
                clear hc
                go_wp2_with fail
                refine ⟨⟨t ++ [c], k + 1, by omega, by simp; omega, ?_, by go_num, hc7.alloc _, grown_trans hgt (grown_trans hg6 (grown_trans hg7 (World.grownBy_alloc _ _ _)))⟩, by simp [intOf]; omega⟩
                rw [str_append]
              · go_wp2_with fail
                refine ⟨⟨t, i + 1, by omega, by omega, rfl, by go_num, hc6, grown_trans hgt hg6⟩, by simp [intOf]; omega⟩
      · have hl200 : l.length ≤ 200 := by omega
        go_wp2_with fail
        refine (below_any _ _ _ _ _ _ (by omega) hcr).mono ?_
        rintro e w9 ⟨x, ⟨hx0, hx1, -⟩, rfl, hc9, hg9⟩
        have hx2 := hx1 (by omega)
        clear hx1
        have hgr9 := grown_trans hgr hg9
        have hlt9 := hc9.lt
        have hx : (x == 0) = true ∨ ((x == 0) = false ∧ (x == 1) = true) ∨ ((x == 0) = false ∧ (x == 1) = false) := by
          cases h0 : x == 0 <;> cases h1 : x == 1 <;> simp
        rcases hx with h0 | ⟨h0, h1⟩ | ⟨h0, h1⟩
        · go_wp2_with fail
          refine (pick_any _ w.heap.size a n cap w9.heap.size 6 6 (by omega) (by omega) (by omega) ?_ (hc9.alloc _)).mono ?_
          · intro k hk
            match k, hk with
            | 0, _ => exact ⟨[32], by simp, by go_simp⟩
            | 1, _ => exact ⟨[32, 32], by simp, by go_simp⟩
            | 2, _ => exact ⟨[9], by simp, by go_simp⟩
            | 3, _ => exact ⟨[10], by simp, by go_simp⟩
            | 4, _ => exact ⟨[127], by simp, by go_simp⟩
            | 5, _ => exact ⟨[233], by simp, by go_simp⟩
          · rintro e w10 ⟨t3, ht3, rfl, hc10, hg10⟩
            go_wp2_with fail
            go_ret
            exact ⟨l ++ t3, by simp; omega, congrArg (fun z => Ending.returned (.string z)) (str_append l t3), below_of_grown hb1 (grown_trans hgr9 (grown_trans (World.grownBy_alloc _ _ _) hg10)) rfl⟩
        · go_wp2_with fail
          refine (below_any _ _ _ _ _ _ (by omega) hc9).mono ?_
          rintro e w10 ⟨y, ⟨hy0, hy1, -⟩, rfl, hc10, hg10⟩
          have hy2 := hy1 (by omega)
          clear hy1
          go_wp2_with fail
          refine (long_any _ _ _ (by omega) (by omega) (by omega) (by omega)).mono ?_
          rintro e w11 ⟨t3, ht3, rfl, hb11⟩
          have hl3 : t3.length ≤ 700 := by omega
          clear ht3
          have hb10 := below_of_grown hb1 (grown_trans hgr9 hg10) rfl
          go_wp2_with fail
          go_ret
          exact ⟨l ++ t3, by simp; omega, congrArg (fun z => Ending.returned (.string z)) (str_append l t3), hb10.trans (hb11.mono hb10.size)⟩
        · go_wp2_with fail
          go_ret
          exact ⟨l, by omega, rfl, below_of_grown hb1 hgr9 rfl⟩
  · go_wp2_with fail
    refine (below_any _ _ _ _ _ _ (by omega) hc3).mono ?_
    rintro e wm ⟨m1, ⟨hn0, hn1, -⟩, rfl, hcm, hgm⟩
    have hn2 := hn1 (by omega)
    clear hn1
    have hg1m := grown_trans hg13 hgm
    go_wp2_with fail
    go_loopw [5, 6] (fun s i wr => OuterRel (24 + m1) w1 w.heap.size a n cap s i wr) (fun _ i _ => ((24 + m1) - intOf i).toNat)
    case atStart => exact ⟨[], 0, by omega, by simp, rfl, rfl, hcm, hg1m⟩
    case round =>
      obtain ⟨l, i, hi, hl, rfl, rfl, hcr, hgr⟩ := hrel
      by_cases hlt : (i : Int) < 24 + m1
      · by_cases hi0 : (0 : Int) < (i : Int)
        · go_wp2_with fail
          refine (below_any _ _ _ _ _ _ (by omega) hcr).mono ?_
          rintro e w3 ⟨x1, ⟨hx0, hx1, -⟩, rfl, hc3, hg3⟩
          have hx2 := hx1 (by omega)
          clear hx1
          go_wp2_with fail
          refine (below_any _ _ _ _ _ _ (by omega) hc3).mono ?_
          rintro e w4 ⟨x2, ⟨hy0, hy1, -⟩, rfl, hc4, hg4⟩
          have hy2 := hy1 (by omega)
          clear hy1
          have hp := two_three x1 x2 hx0 hx2 hy0 hy2
          go_wp2_with fail
          refine (long_any _ _ _ (by omega) (by omega) (by omega) (by omega)).mono ?_
          rintro e w5 ⟨t2, ht2, rfl, hb5⟩
          have hl2 : t2.length ≤ 3 := by omega
          clear ht2
          have hcx := hc4.kept (below_grown hb5 none) (by simp) (fun _ _ _ => by simp)
          have hgx := grown_trans hgr (grown_trans hg3 (grown_trans hg4 (below_grown hb5 _)))
          obtain ⟨l0, hl0⟩ : ∃ l0, l0 = l ++ t2 := ⟨_, rfl⟩
          have hlen0 : l0.length ≤ 8 * i + 3 := by rw [hl0]; simp; omega
          have HL0 := Lib.hid hl0
          clear hl0 hp
          go_wp2_with fail
          obtain ⟨wo, hwo⟩ : ∃ wo : World, wo = w5 := ⟨_, rfl⟩
          subst hwo
          go_loopw [5, 7] (fun s k wr => InnerRel l0 w1 w.heap.size a n cap s k wr) (fun _ k _ => (6 - intOf k).toNat)
          case atStart => exact ⟨l0, 0, by omega, by omega, congrArg Value.string ((str_append l t2).trans (congrArg strOf HL0.out.symm)), rfl, hcx, hgx⟩
          case round =>
            obtain ⟨t, k, hk, ht, rfl, rfl, hct, hgt⟩ := hrel
            go_wp2_with fail
            refine (below_any _ _ _ _ _ _ (by omega) hct).mono ?_
            rintro e w6 ⟨y, ⟨hy0, hy1, -⟩, rfl, hc6, hg6⟩
            have hy2 := hy1 (by omega)
            clear hy1
            by_cases hky : (k : Int) ≤ y
            · go_wp2_with fail
              refine (below_any _ _ _ _ _ _ (by omega) hc6).mono ?_
              rintro e w7 ⟨z, ⟨hz0, hz1, -⟩, rfl, hc7, hg7⟩
              have hz2 := hz1 (by omega)
              clear hz1
              obtain ⟨c, hc⟩ : ∃ c : UInt8, (c.toNat : Int) = 33 + z := ⟨UInt8.ofNat (33 + z).toNat, by rw [UInt8.toNat_ofNat']; omega⟩
              have hconv := convert_one w7 (33 + z) c hc
              clear hc
              go_wp2_with fail
              refine ⟨⟨t ++ [c], k + 1, by omega, by simp; omega, ?_, by go_num, hc7.alloc _, grown_trans hgt (grown_trans hg6 (grown_trans hg7 (World.grownBy_alloc _ _ _)))⟩, by simp [intOf]; omega⟩
              rw [str_append]
            · go_wp2_with fail
              refine ⟨⟨t, i + 1, by omega, by omega, rfl, by go_num, hc6, grown_trans hgt hg6⟩, by simp [intOf]; omega⟩
        · go_wp2_with fail
          refine (once_any _ _ _ _ _ _ (by omega) hcr).mono ?_
          rintro e w8 ⟨q2, rfl, hc8, hg8⟩
          have hgr8 := grown_trans hgr hg8
          cases q2
          · obtain ⟨l0, hl0⟩ : ∃ l0, l0 = l := ⟨_, rfl⟩
            have hlen0 : l0.length ≤ 8 * i + 3 := by rw [hl0]; omega
            have HL0 := Lib.hid hl0
            clear hl0
            have hcx := hc8
            have hgx := hgr8
            go_wp2_with fail
            obtain ⟨wo, hwo⟩ : ∃ wo : World, wo = w8 := ⟨_, rfl⟩
            subst hwo
            go_loopw [5, 7] (fun s k wr => InnerRel l0 w1 w.heap.size a n cap s k wr) (fun _ k _ => (6 - intOf k).toNat)
            case atStart => exact ⟨l0, 0, by omega, by omega, congrArg (fun z => Value.string (strOf z)) HL0.out.symm, rfl, hcx, hgx⟩
            case round =>
              obtain ⟨t, k, hk, ht, rfl, rfl, hct, hgt⟩ := hrel
              go_wp2_with fail
              refine (below_any _ _ _ _ _ _ (by omega) hct).mono ?_
              rintro e w6 ⟨y, ⟨hy0, hy1, -⟩, rfl, hc6, hg6⟩
              have hy2 := hy1 (by omega)
              clear hy1
              by_cases hky : (k : Int) ≤ y
              · go_wp2_with fail
                refine (below_any _ _ _ _ _ _ (by omega) hc6).mono ?_
                rintro e w7 ⟨z, ⟨hz0, hz1, -⟩, rfl, hc7, hg7⟩
                have hz2 := hz1 (by omega)
                clear hz1
                obtain ⟨c, hc⟩ : ∃ c : UInt8, (c.toNat : Int) = 33 + z := ⟨UInt8.ofNat (33 + z).toNat, by rw [UInt8.toNat_ofNat']; omega⟩
                have hconv := convert_one w7 (33 + z) c hc
                clear hc
                go_wp2_with fail
                refine ⟨⟨t ++ [c], k + 1, by omega, by simp; omega, ?_, by go_num, hc7.alloc _, grown_trans hgt (grown_trans hg6 (grown_trans hg7 (World.grownBy_alloc _ _ _)))⟩, by simp [intOf]; omega⟩
                rw [str_append]
              · go_wp2_with fail
                refine ⟨⟨t, i + 1, by omega, by omega, rfl, by go_num, hc6, grown_trans hgt hg6⟩, by simp [intOf]; omega⟩
          · go_wp2_with fail
            refine (below_any _ _ _ _ _ _ (by omega) hc8).mono ?_
            rintro e w3 ⟨x1, ⟨hx0, hx1, -⟩, rfl, hc3, hg3⟩
            have hx2 := hx1 (by omega)
            clear hx1
            go_wp2_with fail
            refine (below_any _ _ _ _ _ _ (by omega) hc3).mono ?_
            rintro e w4 ⟨x2, ⟨hy0, hy1, -⟩, rfl, hc4, hg4⟩
            have hy2 := hy1 (by omega)
            clear hy1
            have hp := two_three x1 x2 hx0 hx2 hy0 hy2
            go_wp2_with fail
            refine (long_any _ _ _ (by omega) (by omega) (by omega) (by omega)).mono ?_
            rintro e w5 ⟨t2, ht2, rfl, hb5⟩
            have hl2 : t2.length ≤ 3 := by omega
            clear ht2
            have hcx := hc4.kept (below_grown hb5 none) (by simp) (fun _ _ _ => by simp)
            have hgx := grown_trans hgr8 (grown_trans hg3 (grown_trans hg4 (below_grown hb5 _)))
            obtain ⟨l0, hl0⟩ : ∃ l0, l0 = l ++ t2 := ⟨_, rfl⟩
            have hlen0 : l0.length ≤ 8 * i + 3 := by rw [hl0]; simp; omega
            have HL0 := Lib.hid hl0
            clear hl0 hp
            go_wp2_with fail
            obtain ⟨wo, hwo⟩ : ∃ wo : World, wo = w5 := ⟨_, rfl⟩
            subst hwo
            go_loopw [5, 7] (fun s k wr => InnerRel l0 w1 w.heap.size a n cap s k wr) (fun _ k _ => (6 - intOf k).toNat)
            case atStart => exact ⟨l0, 0, by omega, by omega, congrArg Value.string ((str_append l t2).trans (congrArg strOf HL0.out.symm)), rfl, hcx, hgx⟩
            case round =>
              obtain ⟨t, k, hk, ht, rfl, rfl, hct, hgt⟩ := hrel
              go_wp2_with fail
              refine (below_any _ _ _ _ _ _ (by omega) hct).mono ?_
              rintro e w6 ⟨y, ⟨hy0, hy1, -⟩, rfl, hc6, hg6⟩
              have hy2 := hy1 (by omega)
              clear hy1
              by_cases hky : (k : Int) ≤ y
              · go_wp2_with fail
                refine (below_any _ _ _ _ _ _ (by omega) hc6).mono ?_
                rintro e w7 ⟨z, ⟨hz0, hz1, -⟩, rfl, hc7, hg7⟩
                have hz2 := hz1 (by omega)
                clear hz1
                obtain ⟨c, hc⟩ : ∃ c : UInt8, (c.toNat : Int) = 33 + z := ⟨UInt8.ofNat (33 + z).toNat, by rw [UInt8.toNat_ofNat']; omega⟩
                have hconv := convert_one w7 (33 + z) c hc
                clear hc
                go_wp2_with fail
                refine ⟨⟨t ++ [c], k + 1, by omega, by simp; omega, ?_, by go_num, hc7.alloc _, grown_trans hgt (grown_trans hg6 (grown_trans hg7 (World.grownBy_alloc _ _ _)))⟩, by simp [intOf]; omega⟩
                rw [str_append]
              · go_wp2_with fail
                refine ⟨⟨t, i + 1, by omega, by omega, rfl, by go_num, hc6, grown_trans hgt hg6⟩, by simp [intOf]; omega⟩
      · have hl200 : l.length ≤ 200 := by omega
        go_wp2_with fail
        refine (below_any _ _ _ _ _ _ (by omega) hcr).mono ?_
        rintro e w9 ⟨x, ⟨hx0, hx1, -⟩, rfl, hc9, hg9⟩
        have hx2 := hx1 (by omega)
        clear hx1
        have hgr9 := grown_trans hgr hg9
        have hlt9 := hc9.lt
        have hx : (x == 0) = true ∨ ((x == 0) = false ∧ (x == 1) = true) ∨ ((x == 0) = false ∧ (x == 1) = false) := by
          cases h0 : x == 0 <;> cases h1 : x == 1 <;> simp
        rcases hx with h0 | ⟨h0, h1⟩ | ⟨h0, h1⟩
        · go_wp2_with fail
          refine (pick_any _ w.heap.size a n cap w9.heap.size 6 6 (by omega) (by omega) (by omega) ?_ (hc9.alloc _)).mono ?_
          · intro k hk
            match k, hk with
            | 0, _ => exact ⟨[32], by simp, by go_simp⟩
            | 1, _ => exact ⟨[32, 32], by simp, by go_simp⟩
            | 2, _ => exact ⟨[9], by simp, by go_simp⟩
            | 3, _ => exact ⟨[10], by simp, by go_simp⟩
            | 4, _ => exact ⟨[127], by simp, by go_simp⟩
            | 5, _ => exact ⟨[233], by simp, by go_simp⟩
          · rintro e w10 ⟨t3, ht3, rfl, hc10, hg10⟩
            go_wp2_with fail
            go_ret
            exact ⟨l ++ t3, by simp; omega, congrArg (fun z => Ending.returned (.string z)) (str_append l t3), below_of_grown hb1 (grown_trans hgr9 (grown_trans (World.grownBy_alloc _ _ _) hg10)) rfl⟩
        · go_wp2_with fail
          refine (below_any _ _ _ _ _ _ (by omega) hc9).mono ?_
          rintro e w10 ⟨y, ⟨hy0, hy1, -⟩, rfl, hc10, hg10⟩
          have hy2 := hy1 (by omega)
          clear hy1
          go_wp2_with fail
          refine (long_any _ _ _ (by omega) (by omega) (by omega) (by omega)).mono ?_
          rintro e w11 ⟨t3, ht3, rfl, hb11⟩
          have hl3 : t3.length ≤ 700 := by omega
          clear ht3
          have hb10 := below_of_grown hb1 (grown_trans hgr9 hg10) rfl
          go_wp2_with fail
          go_ret
          exact ⟨l ++ t3, by simp; omega, congrArg (fun z => Ending.returned (.string z)) (str_append l t3), hb10.trans (hb11.mono hb10.size)⟩
        · go_wp2_with fail
          go_ret
          exact ⟨l, by omega, rfl, below_of_grown hb1 hgr9 rfl⟩
end Go.Proofs.YtibdmidinopppaaDoor
