/- Pushes and conditions, plainly: a valid thrust fulfills the rows of an arch just if it passes all joints; how many it breaks; what is halfway between two that fulfill a row fulfills it; the place of a push. -/
import Derived.Test.YtbmlcfdilopmgaaGPush
import Derived.Test.YtbmlcfdilopmgaaGRows
namespace Go.Proofs.Ytbmlcfdilopmgaa
set_option maxRecDepth 100000

/-- A joint's two rows are its two moments. -/
theorem row_in {js : List Jt} {ls : List Ld} {h v m d : Int} {k : Nat} (hl : loadsV js ls = true) (ht : okT h v m d = true) (hk : k < js.length) :
    cdH h v m d (cdI js ls k).1 (cdI js ls k).2.1 (cdI js ls k).2.2.1 (cdI js ls k).2.2.2 = decide (phA js ls h v m d (k : Int) ≤ 0) := by
  have hp := phA_yes (phOk_yes hl ht (k := (k : Int)) (by omega))
  rw [leftF_yes hl hk, leftF_yes hl hk, Int.toNat_natCast] at hp
  unfold cdH cdI
  dsimp only
  rw [Bool.eq_iff_iff, decide_eq_true_iff, decide_eq_true_iff, hp]
  generalize (jt js k).1.1 = x
  generalize (jt js k).1.2 = y
  generalize sumTo (mL js ls) k = M
  generalize sumTo (wL js ls) k = W
  have e : m - d * M - x * (v - d * W) + y * h = (y * h + -x * v + 1 * m) - (M - x * W) * d := by grind
  rw [e]
  omega
theorem row_out {js : List Jt} {ls : List Ld} {h v m d : Int} {k : Nat} (hl : loadsV js ls = true) (ht : okT h v m d = true) (hk : k < js.length) :
    cdH h v m d (cdO js ls k).1 (cdO js ls k).2.1 (cdO js ls k).2.2.1 (cdO js ls k).2.2.2 = decide (0 ≤ phB js ls h v m d (k : Int)) := by
  have hp := phB_yes (phOk_yes hl ht (k := (k : Int)) (by omega))
  rw [leftF_yes hl hk, leftF_yes hl hk, Int.toNat_natCast] at hp
  unfold cdH cdO
  dsimp only
  rw [Bool.eq_iff_iff, decide_eq_true_iff, decide_eq_true_iff, hp]
  generalize (jt js k).2.1 = x
  generalize (jt js k).2.2 = y
  generalize sumTo (mL js ls) k = M
  generalize sumTo (wL js ls) k = W
  have e : m - d * M - x * (v - d * W) + y * h = (x * W - M) * d - (-y * h + x * v + -1 * m) := by grind
  rw [e]
  omega
theorem ph_in_iff {js : List Jt} {ls : List Ld} {h v m d : Int} {k : Nat} (hl : loadsV js ls = true) (ht : okT h v m d = true) (hk : k < js.length) :
    phIn js ls h v m d (k : Int) = true ↔ cdH h v m d (cdI js ls k).1 (cdI js ls k).2.1 (cdI js ls k).2.2.1 (cdI js ls k).2.2.2 = true ∧ cdH h v m d (cdO js ls k).1 (cdO js ls k).2.1 (cdO js ls k).2.2.1 (cdO js ls k).2.2.2 = true := by
  rw [row_in hl ht hk, row_out hl ht hk, decide_eq_true_iff, decide_eq_true_iff]
  unfold phIn
  rw [phOk_yes hl ht (k := (k : Int)) (by omega), Bool.true_and, passV_iff]

/-- The rows by their places. -/
theorem cdsTo_at (js : List Jt) (ls : List Ld) (n i : Nat) (hi : i < n) : cd (cdsTo js ls n) (2 * i) = cdI js ls i ∧ cd (cdsTo js ls n) (2 * i + 1) = cdO js ls i := by
  induction n with
  | zero => omega
  | succ n ih =>
    rw [cdsTo_next]
    have hl := cdsTo_length js ls n
    by_cases h : i < n
    · rw [cd_app1 (by omega), cd_app1 (by omega)]; exact ih h
    · obtain rfl : i = n := by omega
      unfold cd
      rw [List.getD_eq_getElem?_getD, List.getD_eq_getElem?_getD, List.getElem?_append_right (by omega), List.getElem?_append_right (by omega), hl, Nat.sub_self, Nat.add_sub_cancel_left]
      exact ⟨rfl, rfl⟩
theorem cdsV_at (js : List Jt) (ls : List Ld) (i : Nat) (hi : i < js.length) : cd (cdsV js ls) (2 * i) = cdI js ls i ∧ cd (cdsV js ls) (2 * i + 1) = cdO js ls i := by
  have hl := cdsTo_length js ls js.length
  unfold cdsV
  rw [cd_app1 (by omega), cd_app1 (by omega)]
  exact cdsTo_at js ls _ i hi
theorem cdsV_last (js : List Jt) (ls : List Ld) : cd (cdsV js ls) (2 * js.length) = (-1, 0, 0, 0) := by
  have hl := cdsTo_length js ls js.length
  unfold cdsV cd
  rw [List.getD_eq_getElem?_getD, List.getElem?_append_right (by omega), hl, Nat.sub_self]
  rfl
/-- A valid thrust keeps each row's products just if it passes all joints. -/
theorem rows_inside {js : List Jt} {ls : List Ld} {h v m d : Int} (hl : loadsV js ls = true) (ht : okT h v m d = true) :
    (∀ x, x < (cdsV js ls).length → cdH h v m d (cd (cdsV js ls) x).1 (cd (cdsV js ls) x).2.1 (cd (cdsV js ls) x).2.2.1 (cd (cdsV js ls) x).2.2.2 = true) ↔ ∀ k, k < js.length → phIn js ls h v m d ((k : Nat) : Int) = true := by
  rw [cdsV_length]
  constructor
  · intro hx k hk
    obtain ⟨e1, e2⟩ := cdsV_at js ls k hk
    have h1 := hx (2 * k) (by omega)
    have h2 := hx (2 * k + 1) (by omega)
    rw [e1] at h1
    rw [e2] at h2
    exact (ph_in_iff hl ht hk).2 ⟨h1, h2⟩
  · intro hp x hx
    by_cases he : x = 2 * js.length
    · rw [he, cdsV_last]
      have := (okT_iff.1 ht).2.1
      rw [cdH_iff]
      dsimp only
      omega
    · have hk : x / 2 < js.length := by omega
      obtain ⟨e1, e2⟩ := cdsV_at js ls (x / 2) hk
      obtain ⟨h1, h2⟩ := (ph_in_iff hl ht hk).1 (hp _ hk)
      by_cases hm : x % 2 = 0
      · rw [show x = 2 * (x / 2) by omega, e1]; exact h1
      · rw [show x = 2 * (x / 2) + 1 by omega, e2]; exact h2
/-- Whether it passes all joints. -/
def allIn (js : List Jt) (ls : List Ld) (h v m d : Int) : Bool := allV js.length (fun k => phIn js ls h v m d ((k : Nat) : Int))
theorem ful_inside {js : List Jt} {ls : List Ld} {h v m d : Int} (hl : loadsV js ls = true) (hc : cdsOk (cdsV js ls) = true) (ht : okT h v m d = true) : fulAll h v m d (rowsV js ls) = allIn js ls h v m d := by
  have h38 := arch_size (loadsV_iff.1 hl).1
  have hn := cdsV_length js ls
  rw [rowsV_yes hl hc, fulAll_yes (inR_iff.2 (by omega)) ht]
  unfold allIn
  rw [Bool.eq_iff_iff, allV_iff, allV_iff, ← rows_inside hl ht]
  refine ⟨fun hh x hx => ?_, fun hh x hx => ?_⟩
  · have := hh x hx
    unfold cdFAt cdF at this
    rw [Bool.and_eq_true] at this
    exact this.2
  · unfold cdFAt cdF
    rw [Bool.and_eq_true]
    exact ⟨allV_iff.1 hc x hx, hh x hx⟩
/-- It breaks none just then. -/
theorem brkTo_zero {h v m d : Int} {rs : List Cd} (k : Nat) : brkTo h v m d rs k = 0 ↔ ∀ i, i < k → brkAt h v m d rs i = false := by
  induction k with
  | zero => exact ⟨fun _ i hi => absurd hi (Nat.not_lt_zero i), fun _ => rfl⟩
  | succ k ih =>
    cases hb : brkAt h v m d rs k
    · rw [brkTo_no hb, ih]
      exact ⟨fun hh i hi => if e : i = k then by rw [e]; exact hb else hh i (by omega), fun hh i hi => hh i (by omega)⟩
    · rw [brkTo_yes hb]
      exact ⟨fun hh => by omega, fun hh => by have := hh k (Nat.lt_succ_self k); rw [hb] at this; cases this⟩
theorem brk_inside {js : List Jt} {ls : List Ld} {h v m d : Int} (hl : loadsV js ls = true) (hc : cdsOk (cdsV js ls) = true) (ht : okT h v m d = true) : decide (brkV h v m d (rowsV js ls) = 0) = allIn js ls h v m d := by
  rw [rowsV_yes hl hc, brkV_yes ht]
  unfold allIn
  rw [Bool.eq_iff_iff, decide_eq_true_iff, allV_iff, ← rows_inside hl ht]
  rw [show (((brkTo h v m d (cdsV js ls) (cdsV js ls).length : Nat) : Int) = 0) ↔ brkTo h v m d (cdsV js ls) (cdsV js ls).length = 0 by omega, brkTo_zero]
  refine ⟨fun hh x hx => ?_, fun hh x hx => ?_⟩
  · have h1 := hh x hx
    have h2 := allV_iff.1 hc x hx
    unfold cdOkAt at h2
    unfold brkAt at h1
    rw [h2] at h1
    simpa using h1
  · unfold brkAt
    rw [hh x hx]
    simp

/-- What is halfway between two thrusts that keep a row's products keeps them. -/
theorem mix_row {ah av am ad bh bv bm bd a b c e : Int} (hA : 0 < ad) (hB : 0 < bd) (h1 : a * ah + b * av + c * am ≤ e * ad) (h2 : a * bh + b * bv + c * bm ≤ e * bd) :
    a * mxH ah ad bh bd + b * mxH av ad bv bd + c * mxH am ad bm bd ≤ e * mxD ad bd := by
  unfold mxH mxD
  have k1 := Int.mul_le_mul_of_nonneg_right h1 (Int.le_of_lt hB)
  have k2 := Int.mul_le_mul_of_nonneg_right h2 (Int.le_of_lt hA)
  have e1 : a * (ah * bd + bh * ad) + b * (av * bd + bv * ad) + c * (am * bd + bm * ad) = (a * ah + b * av + c * am) * bd + (a * bh + b * bv + c * bm) * ad := by grind
  have e2 : e * (2 * ad * bd) = e * ad * bd + e * bd * ad := by grind
  rw [e1, e2]
  omega
/-- In lowest terms it keeps them too. -/
theorem mk_row {h v m d a b c e : Int} (hd : 0 < d) (hb : mkB h v m d = true) (h1 : a * h + b * v + c * m ≤ e * d) : cdH (mkN h h v m d) (mkN v h v m d) (mkN m h v m d) (mkN d h v m d) a b c e = true := by
  obtain ⟨e1, e2, e3, e4, -⟩ := parts (h := h) (v := v) (m := m) (d := d) (by omega)
  have hs : 0 < sgn h v m d := by
    have := gcd4_pos (h := h) (v := v) (m := m) (d := d) (by omega)
    unfold sgn
    rw [if_neg (by omega)]
    omega
  rw [← mkN_yes (x := h) hb] at e1
  rw [← mkN_yes (x := v) hb] at e2
  rw [← mkN_yes (x := m) hb] at e3
  rw [← mkN_yes (x := d) hb] at e4
  rw [cdH_iff]
  generalize mkN h h v m d = H at *
  generalize mkN v h v m d = V at *
  generalize mkN m h v m d = M at *
  generalize mkN d h v m d = D at *
  generalize sgn h v m d = s at *
  subst e1 e2 e3 e4
  have e1 : a * (s * H) + b * (s * V) + c * (s * M) = s * (a * H + b * V + c * M) := by grind
  have e2 : e * (s * D) = s * (e * D) := by grind
  rw [e1, e2] at h1
  exact Int.le_of_mul_le_mul_left h1 hs

/-- The place of a push: the part is between none and the whole, and the moments are as the parts. -/
theorem place_law {a b : Int} (h : plOk a b = true) : 0 ≤ plN (-a) a b ∧ plN (-a) a b ≤ plN (b - a) a b ∧ plN (-a) a b * (b - a) = -a * plN (b - a) a b := by
  have hi := plOk_iff.1 h
  have hg := plG_pos h
  rw [plN_yes h, plN_yes h]
  have d1 : plG a b ∣ -a := by
    have := Nat.gcd_dvd_left (-a).natAbs (b - a).natAbs
    unfold plG
    exact Int.ofNat_dvd_left.2 this
  have d2 : plG a b ∣ b - a := by
    have := Nat.gcd_dvd_right (-a).natAbs (b - a).natAbs
    unfold plG
    exact Int.ofNat_dvd_left.2 this
  have m1 := Int.mul_tdiv_cancel' d1
  have m2 := Int.mul_tdiv_cancel' d2
  generalize (-a).tdiv (plG a b) = p at *
  generalize (b - a).tdiv (plG a b) = q at *
  generalize plG a b = g at *
  refine ⟨?_, ?_, ?_⟩
  · have : g * 0 ≤ g * p := by rw [m1]; omega
    exact Int.le_of_mul_le_mul_left this hg
  · have : g * p ≤ g * q := by rw [m1, m2]; omega
    exact Int.le_of_mul_le_mul_left this hg
  · rw [← m1, ← m2]; grind
/-- The two moments of a push differ by the way from Inner to Outer. -/
theorem moments_law {js : List Jt} {ls : List Ld} {h v m d k : Int} (hk : phOk js ls h v m d k = true) :
    phB js ls h v m d k - phA js ls h v m d k = -((jt js k.toNat).2.1 - (jt js k.toNat).1.1) * phU js ls h v m d k + ((jt js k.toNat).2.2 - (jt js k.toNat).1.2) * phH js ls h v m d k := by
  rw [phA_yes hk, phB_yes hk, phU_yes hk, phH_yes hk]
  grind
end Go.Proofs.Ytbmlcfdilopmgaa
