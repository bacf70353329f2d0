/- Proofs of collapse in the laws: their marks. -/
import Derived.Test.YtidmhpeaehmmhabPrL
namespace Go.Proofs.Ytidmhpeaehmmhab
set_option maxRecDepth 100000
open Go.ChangeShapes Go.WideShapes Go.ChangeAt Go.RowKit

/-- A proof in a box, with its two rows. -/
structure PV (w : World) (bx : Nat) (a : Option Addr) (n c : Nat) (b : Option Addr) (m d : Nat) (ps fs : List Int) : Prop where
  box : PBox w bx a n c b m d
  one : Ins w 0 a n c ps
  two : Ins w 0 b m d fs
theorem PV.below {w w' : World} {bx n c m d : Nat} {a b : Option Addr} {ps fs : List Int} (h : PV w bx a n c b m d ps fs) (hb : Below w.heap.size w w') : PV w' bx a n c b m d ps fs :=
  ⟨h.box.below hb, h.one.below hb, h.two.below hb⟩
theorem Ins.kept {w w' : World} {B m c : Nat} {a : Option Addr} {l : List Int} {row : Option Nat} (h : Ins w B a m c l) (hg : w.grownBy w' row) (hne : ∀ k, (Value.slice a m c).ownBlock = some k → some k ≠ row) : Ins w' B a m c l := by
  refine ⟨World.ownsRow.kept h.1 hg ?_, h.2⟩
  cases hv : (Value.slice a m c).ownBlock with
  | none => exact .inl rfl
  | some k => exact .inr (hne k hv)
theorem PV.kept {w w' : World} {bx n c m d : Nat} {a b : Option Addr} {ps fs : List Int} {row : Option Nat} (h : PV w bx a n c b m d ps fs) (hg : w.grownBy w' row) (h0 : some bx ≠ row) (h1 : ∀ k, (Value.slice a n c).ownBlock = some k → some k ≠ row)
    (h2 : ∀ k, (Value.slice b m d).ownBlock = some k → some k ≠ row) : PV w' bx a n c b m d ps fs :=
  ⟨h.box.grown hg h0, h.one.kept hg h1, h.two.kept hg h2⟩

theorem markInNoneK (w : World) (a : Option Addr) (cap : Nat) (k0 : Int) :
    Calls Try.prog 33 #[.slice a 0 cap, .int .i64 k0] w fun e w' => e = .returned (.int .i64 k0) ∧ w = w' := by
  go_enter Try.func33, Try.ntmps33
  go_wp2_with fail
  refine wp_loop_rounds 1 ?_
  rw [rounds_succ]
  go_wp2
  go_ret
  exact ⟨rfl, rfl⟩
theorem markInsFrom (w : World) (B : Nat) (a : Option Addr) (n c : Nat) (l : List Int) (k0 : Int) (hk0 : 0 ≤ k0 ∧ k0 ≤ 8000000) (hr : Ins w B a n c l) (hm : n ≤ 1048576) :
    Calls Try.prog 33 #[.slice a n c, .int .i64 k0] w fun e w' => e = .returned (.int .i64 (k0 + n)) ∧ Ins w' B a n c (marksI k0 n) ∧ w.grownBy w' (Value.slice a n c).ownBlock := by
  have hl := hr.2
  rcases hr.1.cases' with ⟨hv, rfl⟩ | ⟨g, cap, hv, r, -⟩
  · simp only [Value.slice.injEq] at hv
    obtain ⟨rfl, rfl, rfl⟩ := hv
    refine (markInNoneK _ _ _ _).mono ?_
    rintro e w1 ⟨rfl, rfl⟩
    exact ⟨by simp, ⟨InRow.nil _ _, rfl⟩, World.grownBy.refl _ _⟩
  · simp only [Value.slice.injEq] at hv
    obtain ⟨rfl, h2, rfl⟩ := hv
    refine (markInFrom _ B g _ n l k0 hk0 r hl hm).mono ?_
    rintro e w1 ⟨rfl, hrow, hgr⟩
    refine ⟨rfl, ⟨?_, marksI_length _ _⟩, hgr⟩
    have : InRow w1 B (.slice (some ⟨g, 0, none⟩) (marksI k0 n).length c) (marksI k0 n) := hrow
    rw [marksI_length] at this
    exact this

/-- A proof is marked: its rows alone are written. -/
theorem markProof (w : World) (a b : Option Addr) (n c m d : Nat) (ps fs : List Int) (k0 : Int) (hk0 : 0 ≤ k0 ∧ k0 ≤ 6000000) (h1 : Ins w 0 a n c ps) (h2 : Ins w 0 b m d fs) (hd : ∀ k, (Value.slice a n c).ownBlock = some k → some k ≠ (Value.slice b m d).ownBlock) (hn : n ≤ 1048576) (hm : m ≤ 1048576) :
    Calls Try.prog 19 #[.agg #[.slice a n c, .slice b m d], .int .i64 k0] w fun e w' => e = .returned (.int .i64 (k0 + n + m)) ∧ Ins w' 0 a n c (marksI k0 n) ∧ Ins w' 0 b m d (marksI (k0 + n) m) ∧ ∃ wm, w.grownBy wm (Value.slice a n c).ownBlock ∧ wm.grownBy w' (Value.slice b m d).ownBlock := by
  obtain ⟨hka, hkb⟩ := hk0
  have hal := pr_al w (.cells #[.slice a n c, .slice b m d] 32)
  have H1 := Lib.hid (h1.below hal)
  have H2 := Lib.hid (h2.below hal)
  have HX := Lib.hid (pbox_alloc w a b n c m d 32)
  have hlt : ∀ k, (Value.slice a n c).ownBlock = some k → k < w.heap.size := fun k hk => (World.ownsRow.lt h1.1 k hk).2
  have HLT := Lib.hid hlt
  have HD := Lib.hid hd
  have HG0 := Lib.hid (World.grownBy_alloc w (.cells #[.slice a n c, .slice b m d] 32) (Value.slice a n c).ownBlock)
  have HMK := Lib.hid (fun w k hk hr => markInsFrom w 0 a n c ps k hk hr hn)
  have HMK2 := Lib.hid (fun w k hk hr => markInsFrom w 0 b m d fs k hk hr hm)
  clear h1 h2 hal hlt hd
  go_enter Try.func19, Try.ntmps19
  go_wp2_with fail
  refine (HMK.out _ _ ⟨by omega, by omega⟩ H1.out).mono ?_
  rintro e w1 ⟨rfl, hr1, hg1⟩
  have HR1 := Lib.hid hr1
  have HG1 := Lib.hid (grownI_trans HG0.out hg1)
  have H2' := Lib.hid (H2.out.kept hg1 (fun k hk he => HD.out k he.symm hk.symm))
  have HX1 := Lib.hid (HX.out.grown hg1 (fun he => by have := HLT.out _ he.symm; omega))
  obtain ⟨q, hq⟩ : ∃ q, q = k0 + (n : Int) := ⟨_, rfl⟩
  have HQ := Lib.hid hq
  have hqb : 0 ≤ q ∧ q ≤ 8000000 := by omega
  rw [← hq]
  obtain ⟨i0, i1⟩ := id HX1.out
  clear hr1 hg1 hq
  go_wp2_with fail
  refine (HMK2.out _ _ hqb H2'.out).mono ?_
  rintro e w2 ⟨rfl, hr2, hg2⟩
  have HR2 := Lib.hid hr2
  have HG2 := Lib.hid hg2
  have HR1' := Lib.hid (HR1.out.kept hg2 HD.out)
  clear hr2 hg2
  go_wp2_with fail
  go_ret
  exact ⟨by rw [← HQ.out]; rfl, HR1'.out, by rw [← HQ.out]; exact HR2.out, w1, HG1.out, HG2.out⟩

set_option maxHeartbeats 2000000 in
theorem heldInFrom (w : World) (B g cap n : Nat) (k0 : Int) (hk0 : 0 ≤ k0 ∧ k0 ≤ 8000000) (hr : InRowAt w B g cap (marksI k0 n)) (hm : n ≤ 1048576) :
    Calls Try.prog 34 #[.slice (some ⟨g, 0, none⟩) n cap, .int .i64 k0] w fun e w' => e = .returned (.int .i64 (k0 + n)) ∧ Below w.heap.size w w' := by
  have HR := Lib.hid hr
  obtain ⟨-, hg, hc, hcm⟩ := hr.lt
  rw [marksI_length] at hc
  unfold maxLen at hcm
  obtain ⟨hka, hkb⟩ := hk0
  clear hr
  go_enter Try.func34, Try.ntmps34
  go_wp2_with fail
  go_loopw [1, 5] (fun q t wr => ∃ k : Nat, k ≤ n ∧ t = .int .i64 k ∧ q = .int .i64 (k0 + (k : Int)) ∧ Below w.heap.size w wr)
    (fun _ t _ => n - (intOf t).toNat)
  case atStart => exact ⟨0, Nat.zero_le _, rfl, by simp, Below.refl _ _⟩
  case round =>
    obtain ⟨k, hk, rfl, rfl, hbw⟩ := hrel
    have HB := Lib.hid hbw
    by_cases hlt : k < n
    · have c0 := cell_kept (HR.out.cell k (by rw [marksI_length]; exact hlt)) hbw
      rw [marksI_at _ _ _ hlt] at c0
      have hkm : (k : Int) < (n : Int) := by omega
      obtain ⟨z, hz⟩ : ∃ z, z = k0 + (k : Int) := ⟨_, rfl⟩
      rw [← hz] at c0 ⊢
      have HZ := Lib.hid hz
      have hz1 : IntKind.i64.wrap (z + 1) = z + 1 := IntWalk.i64_in _ (by omega)
      have hzz : (z != z) = false := by simp
      clear hbw hz
      go_wp2_with fail
      try (go_quiet (fail); go_wp2_with fail)
      go_roundw
      case rel => exact ⟨k + 1, by omega, by go_num, by (have := HZ.out; congr 1; omega), by first | exact HB.out | exact below_drewN HB.out _⟩
      case measure => simp [intOf]; omega
    · have hkn : k = n := by omega
      rw [hkn]
      clear hkn hlt hk hbw
      go_wp2_with fail
      go_ret
      exact ⟨rfl, HB.out⟩
theorem heldInNoneK (w : World) (a : Option Addr) (cap : Nat) (k0 : Int) :
    Calls Try.prog 34 #[.slice a 0 cap, .int .i64 k0] w fun e w' => e = .returned (.int .i64 k0) ∧ w = w' := by
  go_enter Try.func34, Try.ntmps34
  go_wp2_with fail
  refine wp_loop_rounds 1 ?_
  rw [rounds_succ]
  go_wp2
  go_ret
  exact ⟨rfl, rfl⟩
theorem heldInsFrom (w : World) (B : Nat) (a : Option Addr) (n c : Nat) (k0 : Int) (hk0 : 0 ≤ k0 ∧ k0 ≤ 8000000) (hr : Ins w B a n c (marksI k0 n)) (hm : n ≤ 1048576) :
    Calls Try.prog 34 #[.slice a n c, .int .i64 k0] w fun e w' => e = .returned (.int .i64 (k0 + n)) ∧ Below w.heap.size w w' := by
  rcases hr.1.cases' with ⟨hv, hz⟩ | ⟨g, cap, hv, r, -⟩
  · simp only [Value.slice.injEq] at hv
    obtain ⟨rfl, rfl, rfl⟩ := hv
    refine (heldInNoneK _ _ _ _).mono ?_
    rintro e w1 ⟨rfl, rfl⟩
    exact ⟨by simp, Below.refl _ _⟩
  · simp only [Value.slice.injEq] at hv
    obtain ⟨rfl, h2, rfl⟩ := hv
    exact heldInFrom _ B g _ n k0 hk0 r hm

theorem heldProof (w : World) (a b : Option Addr) (n c m d : Nat) (k0 : Int) (hk0 : 0 ≤ k0 ∧ k0 ≤ 6000000) (h1 : Ins w 0 a n c (marksI k0 n)) (h2 : Ins w 0 b m d (marksI (k0 + n) m)) (hn : n ≤ 1048576) (hm : m ≤ 1048576) :
    Calls Try.prog 20 #[.agg #[.slice a n c, .slice b m d], .int .i64 k0] w fun e w' => e = .returned (.int .i64 (k0 + n + m)) ∧ Below w.heap.size w w' := by
  obtain ⟨hka, hkb⟩ := hk0
  have hal := pr_al w (.cells #[.slice a n c, .slice b m d] 32)
  have H1 := Lib.hid (h1.below hal)
  have H2 := Lib.hid (h2.below hal)
  have HX := Lib.hid (pbox_alloc w a b n c m d 32)
  have HB0 := Lib.hid hal
  have HMK := Lib.hid (fun w k hk hr => heldInsFrom w 0 a n c k hk hr hn)
  obtain ⟨q, hq⟩ : ∃ q, q = k0 + (n : Int) := ⟨_, rfl⟩
  rw [← hq] at H2
  have HMK2 := Lib.hid (fun w hk hr => heldInsFrom w 0 b m d q hk hr hm)
  have HQ := Lib.hid hq
  have hqb : 0 ≤ q ∧ q ≤ 8000000 := by omega
  have hq0 : ¬ q < 0 := by omega
  have hq1 : decide (q < 0) = false := decide_eq_false hq0
  obtain ⟨z, hz⟩ : ∃ z, z = q + (m : Int) := ⟨_, rfl⟩
  have HZ := Lib.hid hz
  have hz0 : ¬ z < 0 := by omega
  have hz1 : decide (z < 0) = false := decide_eq_false hz0
  rw [← hz] at HMK2
  have HQB := Lib.hid hqb
  clear h1 h2 hal hq hz hqb
  go_enter Try.func20, Try.ntmps20
  go_wp2_with fail
  refine (HMK.out _ _ ⟨by omega, by omega⟩ H1.out).mono ?_
  rintro e w1 ⟨rfl, hb1⟩
  rw [← HQ.out]
  have H2' := Lib.hid (H2.out.below hb1)
  have HB1 := Lib.hid (HB0.out.trans (hb1.mono HB0.out.size))
  obtain ⟨i0, i1⟩ := HX.out.below hb1
  clear hb1
  go_wp2_with fail
  refine (HMK2.out _ HQB.out H2'.out).mono ?_
  rintro e w2 ⟨rfl, hb2⟩
  have HB2 := Lib.hid (HB1.out.trans (hb2.mono HB1.out.size))
  clear hb2
  go_wp2_with fail
  go_ret
  exact ⟨by rw [← HQ.out, ← HZ.out]; rfl, HB2.out⟩
end Go.Proofs.Ytidmhpeaehmmhab
