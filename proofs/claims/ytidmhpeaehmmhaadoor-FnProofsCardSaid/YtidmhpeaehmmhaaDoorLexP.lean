/- A region's lexical order, told by one pass over its operations (masks of temporaries): cheap where a region is long. -/
import Derived.Still
namespace Go.Proofs.YtidmhpeaehmmhaaDoor
set_option maxRecDepth 100000
open Go

/-- One pass: k operations have been seen; D: what they write; L: what they look at. -/
def fastFrom (ops : Array Oper) : List Oper → Nat → Nat → Nat → Bool
  | [], _, _, _ => true
  | o :: l, k, D, L =>
    ((o.after.toList.all fun e => !Region.binds .any e || Nat.blt e.on k) &&
     (match o.dst with | some d => !D.testBit d && !L.testBit d | none => true) &&
     ((o.looksAt ops).all fun t => !D.testBit t || o.after.toList.any fun e => Region.binds .any e && ((ops[e.on]?).bind (·.dst) == some t))) &&
    fastFrom ops l (k + 1) (match o.dst with | some d => D ||| 2 ^ d | none => D) ((o.looksAt ops).foldl (fun m t => m ||| 2 ^ t) L)
def fastB (ops : Array Oper) : Bool := Region.noSelect ops && fastFrom ops ops.toList 0 0 0

section
variable {ops : Array Oper}

/-- What the pass tells of operation number j. -/
def Fast (ops : Array Oper) (j : Nat) (oj : Oper) : Prop :=
  (∀ e ∈ oj.after, Region.binds .any e = true → e.on < j) ∧
  (∀ i oi d, i < j → ops[i]? = some oi → oi.dst = some d → oj.dst ≠ some d) ∧
  (∀ i oi d, i < j → ops[i]? = some oi → oj.dst = some d → d ∉ oi.looksAt ops) ∧
  (∀ i oi d, i < j → ops[i]? = some oi → oi.dst = some d → d ∈ oj.looksAt ops → ∃ e ∈ oj.after, Region.binds .any e = true ∧ (ops[e.on]?).bind (·.dst) = some d)

theorem testBit_or_pow (m d t : Nat) : (m ||| 2 ^ d).testBit t = (m.testBit t || decide (d = t)) := by
  rw [Nat.testBit_or, Nat.testBit_two_pow]
theorem foldl_keeps : ∀ (l : List Nat) (m t : Nat), m.testBit t = true → (l.foldl (fun m t => m ||| 2 ^ t) m).testBit t = true
  | [], _, _, h => h
  | x :: l, m, t, h => foldl_keeps l _ t (by rw [testBit_or_pow, h]; rfl)
theorem foldl_has : ∀ (l : List Nat) (m t : Nat), t ∈ l → (l.foldl (fun m t => m ||| 2 ^ t) m).testBit t = true
  | x :: l, m, t, h => by
    rcases List.mem_cons.1 h with rfl | h
    · exact foldl_keeps l _ t (by rw [testBit_or_pow]; simp)
    · exact foldl_has l _ t h

theorem fast_spec : ∀ (l : List Oper) (k D L : Nat), (∀ j, l[j]? = ops[k + j]?) → (∀ i oi d, i < k → ops[i]? = some oi → oi.dst = some d → D.testBit d = true) →
    (∀ i oi t, i < k → ops[i]? = some oi → t ∈ oi.looksAt ops → L.testBit t = true) → fastFrom ops l k D L = true → ∀ j oj, k ≤ j → ops[j]? = some oj → Fast ops j oj
  | [], k, D, L, hl, _, _, _, j, oj, hkj, hj => by
    have h := hl (j - k)
    rw [show k + (j - k) = j by omega, hj] at h
    simp at h
  | o :: l, k, D, L, hl, hD, hL, h, j, oj, hkj, hj => by
    have h0 : ops[k]? = some o := by simpa using (hl 0).symm
    simp only [fastFrom, Bool.and_eq_true] at h
    obtain ⟨⟨⟨hA, hB⟩, hC⟩, hrest⟩ := h
    rcases Nat.eq_or_lt_of_le hkj with rfl | hlt
    · rw [h0] at hj
      obtain rfl := Option.some.inj hj
      refine ⟨fun e he hb => ?_, fun i oi d hi hoi hd hd' => ?_, fun i oi d hi hoi hd hm => ?_, fun i oi d hi hoi hd hm => ?_⟩
      · have := List.all_eq_true.1 hA e (by simpa using he)
        rw [hb] at this
        have hb : Nat.blt e.on k = true := by simpa using this
        exact Nat.le_of_ble_eq_true hb
      · rw [hd'] at hB
        simp [hD i oi d hi hoi hd] at hB
      · rw [hd] at hB
        simp [hL i oi d hi hoi hm] at hB
      · have := List.all_eq_true.1 hC d hm
        rw [hD i oi d hi hoi hd] at this
        simp only [Bool.not_true, Bool.false_or, List.any_eq_true, Bool.and_eq_true, beq_iff_eq] at this
        obtain ⟨e, he, hb, ho⟩ := this
        exact ⟨e, by simpa using he, hb, ho⟩
    · refine fast_spec l (k + 1) _ _ (fun j => by have := hl (j + 1); simpa [Nat.add_assoc, Nat.add_comm 1 j] using this) ?_ ?_ hrest j oj hlt hj
      · intro i oi d hi hoi hd
        rcases Nat.eq_or_lt_of_le (Nat.le_of_lt_succ hi) with rfl | hi
        · rw [h0] at hoi
          obtain rfl := Option.some.inj hoi
          rw [hd]
          simp only
          rw [testBit_or_pow]
          simp
        · have := hD i oi d hi hoi hd
          cases o.dst with
          | none => exact this
          | some x => simp only; rw [testBit_or_pow, this]; rfl
      · intro i oi t hi hoi ht
        rcases Nat.eq_or_lt_of_le (Nat.le_of_lt_succ hi) with rfl | hi
        · rw [h0] at hoi
          obtain rfl := Option.some.inj hoi
          exact foldl_has _ _ _ ht
        · exact foldl_keeps _ _ _ (hL i oi t hi hoi ht)

theorem lex_of_fast (hF : ∀ j oj, ops[j]? = some oj → Fast ops j oj) : ∀ (fuel k : Nat) (listed : Array Bool), fuel + k = ops.size → (∀ i, i < ops.size → listed[i]? = some (decide (i < k))) → listed.size = ops.size →
    Region.lexFrom .any ops fuel k listed = true
  | 0, k, listed, hk, hl, hz => by
    simp only [Region.lexFrom, List.isEmpty_iff]
    refine List.eq_nil_iff_forall_not_mem.2 fun j hj => ?_
    obtain ⟨h0, o, ho, _⟩ := mem_ready.1 hj
    have hlt : j < ops.size := (Array.getElem?_eq_some_iff.1 ho).1
    rw [Array.getD_eq_getD_getElem?, hl j hlt] at h0
    simp at h0
    omega
  | fuel + 1, k, listed, hk, hl, hz => by
    have hklt : k < ops.size := by omega
    have hok : ops[k]? = some ops[k] := by simp [hklt]
    generalize ops[k] = ok at hok
    have hFk := hF k ok hok
    simp only [Region.lexFrom, Bool.and_eq_true]
    refine ⟨⟨?_, ?_⟩, lex_of_fast hF fuel (k + 1) _ (by omega) (fun i hi => ?_) (by simpa using hz)⟩
    · have hm : k ∈ Region.ready .any ops listed := by
        refine mem_ready.2 ⟨by rw [Array.getD_eq_getD_getElem?, hl k hklt]; simp, ok, hok, fun e he hb => ?_⟩
        have he1 := hFk.1 e he hb
        rw [Array.getD_eq_getD_getElem?, hl e.on (by omega)]
        simpa using he1
      simpa using hm
    · simp only [Region.free, hok, List.all_eq_true, List.mem_range]
      intro j hj
      have hoj : ops[j]? = some ops[j] := by simp [hj]
      generalize ops[j] = oj at hoj
      have hFj := hF j oj hoj
      simp only [hoj]
      rw [Array.getD_eq_getD_getElem?, hl j hj]
      rcases Nat.lt_trichotomy j k with h | h | h
      · simp [h]
      · simp [h]
      · by_cases hed : oj.after.any (fun e => Region.binds .any e && e.on == k) = true
        · rw [hed]; simp
        · have hno : ∀ e ∈ oj.after, Region.binds .any e = true → e.on ≠ k := fun e he hb heq => hed (Array.any_eq_true'.2 ⟨e, he, by simp [hb, heq]⟩)
          have hap : ok.apart ops oj = true := by
            unfold Oper.apart
            rw [Bool.and_eq_true]
            refine ⟨?_, ?_⟩
            · cases hd : ok.dst with
              | none => rfl
              | some d =>
                have h1 : d ∉ oj.looksAt ops := fun hm => by
                  obtain ⟨e, he, hb, ho⟩ := hFj.2.2.2 k ok d h hok hd hm
                  have hne := hno e he hb
                  have hlt := hFj.1 e he hb
                  have hoe : ops[e.on]? = some ops[e.on] := by simp [show e.on < ops.size by omega]
                  generalize ops[e.on] = oe at hoe
                  rw [hoe] at ho
                  have hde : oe.dst = some d := by simpa using ho
                  rcases Nat.lt_or_gt_of_ne hne with h2 | h2
                  · exact hFk.2.1 e.on oe d h2 hoe hde hd
                  · exact (hF e.on oe hoe).2.1 k ok d h2 hok hd hde
                have h2 := hFj.2.1 k ok d h hok hd
                simp [h1, h2]
            · cases hd : oj.dst with
              | none => rfl
              | some d =>
                have h1 := hFj.2.2.1 k ok d h hok hd
                simp [h1]
          simp [hap]
    · rw [Array.getElem?_setIfInBounds]
      by_cases hik : k = i
      · subst hik
        simp [hz, hklt]
      · rw [if_neg hik, hl i hi]
        congr 1
        simp
        omega

/-- The Bool that a quiet walk asks, by the one pass. -/
theorem lexB_of_fast (h : fastB ops = true) : Region.lexB .any ops = true := by
  simp only [fastB, Bool.and_eq_true] at h
  simp only [Region.lexB, Bool.and_eq_true]
  exact ⟨h.1, lex_of_fast (fun j oj hj => fast_spec ops.toList 0 0 0 (fun j => by simp) (fun i _ _ hi => absurd hi (by omega)) (fun i _ _ hi => absurd hi (by omega)) h.2 j oj (Nat.zero_le _) hj)
    ops.size 0 _ (by omega) (fun i hi => by simp [hi]) (by simp)⟩
end
end Go.Proofs.YtidmhpeaehmmhaaDoor
