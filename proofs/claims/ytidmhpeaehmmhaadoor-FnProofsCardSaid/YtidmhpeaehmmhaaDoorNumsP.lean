/- Plain facts on decimal numerals: what a numeral's figures spell, and that only one number has a numeral. No program. -/
import Derived.Lib.AtoiAll
import Derived.Lib.ItoaNum
namespace Go.Proofs.YtidmhpeaehmmhaaDoor
set_option maxRecDepth 100000
open Go.Lib

theorem decDigits_small {u : Nat} (h : u < 10) : decDigits u = [UInt8.ofNat (48 + u)] := by rw [decDigits, dif_pos h]
theorem decDigits_big {u : Nat} (h : ¬ u < 10) : decDigits u = decDigits (u / 10) ++ [UInt8.ofNat (48 + u % 10)] := by rw [decDigits, dif_neg h]

theorem parse_append (l m : List UInt8) (acc : Nat) : parseUint10 acc (l ++ m) = match parseUint10 acc l with
    | .ok a => parseUint10 a m
    | e => e := by
  induction l generalizing acc with
  | nil => rfl
  | cons c l ih =>
    simp only [List.cons_append, parseUint10]
    split
    · split
      · rfl
      · split
        · rfl
        · exact ih _
    · rfl

theorem fig_nat (d : Nat) (h : d < 10) : (UInt8.ofNat (48 + d)).toNat = 48 + d := by rw [UInt8.toNat_ofNat']; omega

theorem parse_dec (u : Nat) (h : u < 10000000000000000000) : parseUint10 0 (decDigits u) = .ok u := by
  induction u using Nat.strongRecOn with
  | _ u ih =>
    by_cases h1 : u < 10
    · rw [decDigits_small h1]
      simp only [parseUint10, fig_nat u h1]
      rw [if_pos (by omega), if_neg (by omega), if_neg (by omega)]
      congr 1; omega
    · rw [decDigits_big h1, parse_append, ih (u / 10) (by omega) (by omega)]
      simp only [parseUint10, fig_nat (u % 10) (by omega)]
      rw [if_pos (by omega), if_neg (by omega), if_neg (by omega)]
      congr 1; omega

theorem dec_length (u k : Nat) (hk : 0 < k) (h : u < 10 ^ k) : (decDigits u).length ≤ k ∧ 0 < (decDigits u).length := by
  induction k generalizing u with
  | zero => omega
  | succ k ih =>
    by_cases h1 : u < 10
    · rw [decDigits_small h1]; simp
    · rw [decDigits_big h1]
      have h2 : 0 < k := by
        rcases Nat.eq_zero_or_pos k with rfl | h
        · simp at h; omega
        · exact h
      have := ih (u / 10) h2 (by rw [Nat.pow_succ] at h; omega)
      simp; omega

theorem dec_inj {u v : Nat} (hu : u < 10000000000000000000) (hv : v < 10000000000000000000) (h : decDigits u = decDigits v) : u = v := by
  have a := parse_dec u hu
  have b := parse_dec v hv
  rw [h, b] at a
  injection a with a
  exact a.symm

/-- A byte of a numeral is a figure. -/
theorem dec_head (u : Nat) : ∃ c r, decDigits u = c :: r ∧ 48 ≤ c.toNat ∧ c.toNat ≤ 57 := by
  induction u using Nat.strongRecOn with
  | _ u ih =>
    by_cases h1 : u < 10
    · exact ⟨_, [], decDigits_small h1, by rw [fig_nat u h1]; omega, by rw [fig_nat u h1]; omega⟩
    · obtain ⟨c, r, h, h2⟩ := ih (u / 10) (by omega)
      exact ⟨c, r ++ [UInt8.ofNat (48 + u % 10)], by rw [decDigits_big h1, h]; rfl, h2⟩

theorem atoi_dec (u : Nat) (h : u ≤ 1000000000) : atoiAll (decDigits u) = .ok (u : Int) := by
  obtain ⟨c, r, hd, h1, h2⟩ := dec_head u
  have hp := parse_dec u (by omega)
  rw [hd] at hp ⊢
  unfold atoiAll
  simp only
  rw [if_neg (by omega)]
  unfold parseMag
  rw [if_neg (by simp), hp]
  simp only
  rw [if_neg (by omega), if_neg (by omega), if_neg (by omega)]

/-- The number from 0 to 1000000000 of which l is the numeral, if there is one. -/
noncomputable def numOf (l : List UInt8) : Int × Bool := @dite _ (∃ u : Nat, u ≤ 1000000000 ∧ decDigits u = l) (Classical.propDecidable _) (fun h => ((h.choose : Int), true)) (fun _ => (0, false))

theorem numOf_yes {u : Nat} (h : u ≤ 1000000000) {l : List UInt8} (hl : decDigits u = l) : numOf l = ((u : Int), true) := by
  have hex : ∃ u : Nat, u ≤ 1000000000 ∧ decDigits u = l := ⟨u, h, hl⟩
  unfold numOf
  rw [dif_pos hex]
  have hc := hex.choose_spec
  have := dec_inj (by omega) (by omega) (hc.2.trans hl.symm)
  rw [this]
theorem numOf_no {l : List UInt8} (h : ∀ u : Nat, u ≤ 1000000000 → decDigits u ≠ l) : numOf l = (0, false) := by
  unfold numOf
  rw [dif_neg]
  rintro ⟨u, h1, h2⟩
  exact h u h1 h2
/-- Where the figures spell v, no other number has this numeral. -/
theorem numOf_parsed {l : List UInt8} {v : Nat} (hp : parseUint10 0 l = .ok v) (h : 1000000000 < v ∨ decDigits v ≠ l) : numOf l = (0, false) :=
  numOf_no fun u hu hd => by
    have := parse_dec u (by omega)
    rw [hd, hp] at this
    injection this with this
    subst this
    rcases h with h | h
    · omega
    · exact h hd
/-- Where a byte is no figure, there is none. -/
theorem numOf_bad {l m : List UInt8} {v : Nat} {c : UInt8} (hp : parseUint10 0 l = .ok v) (hc : ¬ (48 ≤ c.toNat ∧ c.toNat ≤ 57)) : numOf (l ++ c :: m) = (0, false) :=
  numOf_no fun u hu hd => by
    have h := parse_dec u (by omega)
    rw [hd, parse_append, hp] at h
    simp only [parseUint10, if_neg hc] at h
    cases h
theorem numOf_atoi {l : List UInt8} (h : ∀ u : Nat, u ≤ 1000000000 → atoiAll l ≠ .ok (u : Int)) : numOf l = (0, false) :=
  numOf_no fun u hu hd => h u hu (by rw [← hd]; exact atoi_dec u hu)
theorem numOf_long {l : List UInt8} (h : 10 < l.length) : numOf l = (0, false) :=
  numOf_no fun u hu hd => by
    have := (dec_length u 10 (by omega) (by omega)).1
    rw [hd] at this
    omega
end Go.Proofs.YtidmhpeaehmmhaaDoor
