/- Numerals, plainly: no comma and no blank in one; two numbers with one numeral are one number; a text parted at its first comma. -/
import Derived.Test.YtghnkcfilpjhgaaDoorNumsP
import Derived.Lib.ItoaMem
namespace Go.Proofs.YtghnkcfilpjhgaaDoor
set_option maxRecDepth 100000
open Go.Lib

/-- A figure or the minus. -/
def NumByte (c : UInt8) : Prop := c.toNat = 45 ∨ (48 ≤ c.toNat ∧ c.toNat ≤ 57)
theorem dec_bytes (u : Nat) : ∀ c ∈ decDigits u, 48 ≤ c.toNat ∧ c.toNat ≤ 57 := by
  induction u using Nat.strongRecOn with
  | _ u ih =>
    by_cases h : u < 10
    · rw [decDigits_small h]
      intro c hc
      obtain rfl := List.mem_singleton.1 hc
      rw [fig_nat u h]; omega
    · rw [decDigits_big h]
      intro c hc
      rcases List.mem_append.1 hc with hc | hc
      · exact ih (u / 10) (by omega) c hc
      · obtain rfl := List.mem_singleton.1 hc
        rw [fig_nat (u % 10) (by omega)]; omega
theorem itoa_bytes (n : Int) : ∀ c ∈ itoa n, NumByte c := by
  intro c hc
  unfold itoa at hc
  split at hc
  · rcases List.mem_cons.1 hc with rfl | hc
    · exact .inl rfl
    · exact .inr (dec_bytes _ c hc)
  · exact .inr (dec_bytes _ c hc)
theorem itoa_inj {n m : Int} (hn : -9223372036854775808 ≤ n ∧ n ≤ 9223372036854775807) (hm : -9223372036854775808 ≤ m ∧ m ≤ 9223372036854775807) (h : itoa n = itoa m) : n = m := by
  unfold itoa at h
  split at h <;> split at h
  · have := dec_inj (by omega) (by omega) (List.cons.inj h).2
    omega
  · obtain ⟨c, r, hc, h1, h2⟩ := dec_head m.toNat
    rw [hc] at h
    have := (List.cons.inj h).1
    subst this
    simp at h1
  · obtain ⟨c, r, hc, h1, h2⟩ := dec_head n.toNat
    rw [hc] at h
    have := (List.cons.inj h).1
    subst this
    simp at h1
  · have := dec_inj (by omega) (by omega) h
    omega
/-- Texts parted at the first byte that is none of the first part's. -/
theorem part_eq {b : UInt8} : ∀ {l m r t : List UInt8}, (∀ c ∈ l, c ≠ b) → (∀ c ∈ m, c ≠ b) → l ++ b :: r = m ++ b :: t → l = m ∧ r = t
  | [], [], _, _, _, _, h => ⟨rfl, (List.cons.inj h).2⟩
  | [], c :: m, _, _, _, hm, h => absurd (List.cons.inj h).1.symm (hm c (by simp))
  | c :: l, [], _, _, hl, _, h => absurd (List.cons.inj h).1 (hl c (by simp))
  | c :: l, d :: m, _, _, hl, hm, h => by
    obtain ⟨h1, h2⟩ := List.cons.inj h
    obtain ⟨h3, h4⟩ := part_eq (fun c hc => hl c (by simp [hc])) (fun c hc => hm c (by simp [hc])) h2
    exact ⟨by rw [h1, h3], h4⟩
theorem num_ne {c b : UInt8} (h : NumByte c) (hb : b.toNat < 45 ∨ b.toNat = 46 ∨ b.toNat = 47 ∨ 57 < b.toNat) : c ≠ b := by
  rintro rfl
  rcases h with h | h <;> omega
end Go.Proofs.YtghnkcfilpjhgaaDoor
