/- Ranges and the greatest common divisor: the contracts of isBetween and commonDivisor of the program, of l01In and l08Gcd of the model. -/
import Derived.Test.YtidmhpeaehmmhaaDoorThrustP
namespace Go.Proofs.YtidmhpeaehmmhaaDoor
set_option maxRecDepth 100000
open Go.ChangeShapes Go.WideShapes Go.ChangeAt Go.RowKit

theorem tcell {w w' : World} {b o : Nat} {v : Value} (h : w.cell? ⟨b, o, none⟩ = some v) (k : Below w.heap.size w w') : w'.cell? ⟨b, o, none⟩ = some v := (k.cell (p := ⟨b, o, none⟩) (cell_block_lt h)).trans h

theorem tcellD {w w' : World} {b o : Nat} {v : Value} (h : w.cell? ⟨b, o, none⟩ = some v) (k : Below w.drew.heap.size w.drew w') : w'.cell? ⟨b, o, none⟩ = some v := (k.cell (p := ⟨b, o, none⟩) (show b < w.heap.size from cell_block_lt h)).trans h
theorem tbelowD {B : Nat} {a w : World} (h : Below B a w) : Below B a w.drew := ⟨h.os, h.tape, h.output, h.size, h.block⟩

theorem isBetweenR (n a b : Int) (w : World) (hab : a ≤ b) :
    Calls Tryd.prog 18 #[.int .i64 n, .int .i64 a, .int .i64 b] w fun e w' => e = .returned (.bool (inR n a b)) ∧ w = w' := by
  go_enter Tryd.func18, Tryd.ntmps18
  go_wp2
  all_goals
    go_ret
    refine ⟨ret_bool ?_, rfl⟩
    rw [Bool.eq_iff_iff, inR_iff]
    first
      | (rw [decide_eq_true_iff]; omega)
      | (simp only [Bool.false_eq_true, false_iff]; omega)

theorem l01InR (n lo hi : Int) (w : World) :
    Calls Tryd.prog 34 #[.int .i64 n, .int .i64 lo, .int .i64 hi] w fun e w' => e = .returned (.bool (inR n lo hi)) ∧ w = w' := by
  have hV : inR n lo hi = decide (lo ≤ n ∧ n ≤ hi) := rfl
  rw [hV]
  clear hV
  by_cases h : n < lo
  · go_enter Tryd.func34, Tryd.ntmps34
    go_wp2
    go_ret
    exact ⟨ret_bool (by simp <;> omega), rfl⟩
  · go_enter Tryd.func34, Tryd.ntmps34
    go_wp2
    go_ret
    exact ⟨ret_bool (by simp <;> omega), rfl⟩

theorem gcd_step (p q : Int) : Nat.gcd q.natAbs (p.tmod q).natAbs = Nat.gcd p.natAbs q.natAbs := by
  rw [Int.natAbs_tmod, Nat.gcd_comm q.natAbs, ← Nat.gcd_rec, Nat.gcd_comm]
theorem tmod_lt {p q : Int} (hq : q ≠ 0) : (p.tmod q).natAbs < q.natAbs := by
  rw [Int.natAbs_tmod]; exact Nat.mod_lt _ (by omega)

set_option maxHeartbeats 400000 in
theorem specGcd (a b : Int) (w : World) (ha : a.natAbs ≤ 9223372036854775807) (hb : b.natAbs ≤ 9223372036854775807) :
    Calls Tryd.prog 35 #[.int .i64 a, .int .i64 b] w fun e w' => e = .returned (.int .i64 ((Nat.gcd a.natAbs b.natAbs : Nat) : Int)) ∧ Below w.heap.size w w' := by
  obtain ⟨g, hg⟩ : ∃ g, g = Nat.gcd a.natAbs b.natAbs := ⟨_, rfl⟩
  rw [← hg]
  have HG := Lib.hid hg
  have HA := Lib.hid ha
  have HB := Lib.hid hb
  clear hg ha hb
  go_enter Tryd.func35, Tryd.ntmps35
  go_wp2_with fail
  go_loopw [0, 1] (fun x y wr => ∃ p q : Int, x = .int .i64 p ∧ y = .int .i64 q ∧ p.natAbs ≤ 9223372036854775807 ∧ q.natAbs ≤ 9223372036854775807 ∧ Nat.gcd p.natAbs q.natAbs = g ∧ Below w.heap.size w wr) (fun _ y _ => (intOf y).natAbs)
  case atStart => exact ⟨a, b, rfl, rfl, HA.out, HB.out, HG.out.symm, Below.refl _ _⟩
  case round =>
    obtain ⟨p, q, rfl, rfl, hp, hq, he, hbw⟩ := hrel
    have HBW := Lib.hid hbw
    clear hbw
    have HE := Lib.hid he
    have HP := Lib.hid hp
    have HQ := Lib.hid hq
    clear he hp hq
    by_cases h0 : q = 0
    · subst h0
      have hm : max p (-p) = (g : Int) := by
        have := HE.out
        rw [show (0 : Int).natAbs = 0 from rfl, Nat.gcd_zero_right] at this
        omega
      have hn : IntKind.i64.wrap (-p) = -p := IntWalk.i64_in _ (by have := HP.out; omega)
      go_wp2_with fail
      all_goals
        go_ret
        exact ⟨ret_i64 (by omega), HBW.out⟩
    · obtain ⟨r, hr⟩ : ∃ r, p.tmod q = r := ⟨_, rfl⟩
      have HR := Lib.hid hr
      go_wp2_with fail
      go_quiet (fail)
      go_wp2_with fail
      go_round
      case rel =>
        have h1 := gcd_step p q
        have h2 := tmod_lt (p := p) h0
        rw [HR.out] at h1 h2
        have := HQ.out
        exact ⟨q, r, rfl, rfl, this, by omega, h1.trans HE.out, below_drewN HBW.out _⟩
      case measure =>
        have h2 := tmod_lt (p := p) h0
        rw [HR.out] at h2
        simp [intOf]; omega

/-- The greatest common divisor of the first k numbers. -/
def gTo (ns : List Int) : Nat → Nat
  | 0 => 0
  | k + 1 => Nat.gcd (gTo ns k) (ns.getD k 0).natAbs
theorem gTo_four (h v m d : Int) : gTo [h, v, m, d] 4 = gcd4 h v m d := gcd4_row h v m d
theorem gTo_le {ns : List Int} {M : Nat} (hM : ∀ k, k < ns.length → (ns.getD k 0).natAbs ≤ M) : ∀ k, k ≤ ns.length → gTo ns k ≤ M
  | 0, _ => Nat.zero_le _
  | k + 1, hk => by
    by_cases h0 : (ns.getD k 0).natAbs = 0
    · show Nat.gcd _ _ ≤ M
      rw [h0, Nat.gcd_zero_right]; exact gTo_le hM k (by omega)
    · exact Nat.le_trans (Nat.le_of_dvd (by omega) (Nat.gcd_dvd_right _ _)) (hM k (by omega))

/-- A slice's numbers: they lie at block b; none is the least int. -/
def NumRow (w : World) (b : Nat) (ns : List Int) : Prop := ∀ k, k < ns.length → w.cell? ⟨b, k, none⟩ = some (.int .i64 (ns.getD k 0)) ∧ (ns.getD k 0).natAbs ≤ 9223372036854775807
theorem NumRow.below {w w' : World} {b : Nat} {ns : List Int} (h : NumRow w b ns) (hb : Below w.heap.size w w') : NumRow w' b ns := fun k hk => ⟨by
  rw [hb.cell (p := ⟨b, k, none⟩) (cell_block_lt (h k hk).1)]; exact (h k hk).1, (h k hk).2⟩

end Go.Proofs.YtidmhpeaehmmhaaDoor
