/- Pushes at joints, plainly: whether there is one, its force and its moments, where it passes, as functions of the joints, the loads and the thrust. -/
import Derived.Test.YtkafkghiahljpaaLoadP
import Derived.Test.YtkafkghiahljpaaThrustP
namespace Go.Proofs.Ytkafkghiahljpaa
set_option maxRecDepth 100000

/-- Whether there is a push of the thrust at joint k. -/
def phOk (js : List Jt) (ls : List Ld) (h v m d k : Int) : Bool := loadsV js ls && (okT h v m d && decide (0 ≤ k ∧ k ≤ (js.length : Int) - 1))
theorem phOk_iff {js : List Jt} {ls : List Ld} {h v m d k : Int} : phOk js ls h v m d k = true ↔ loadsV js ls = true ∧ okT h v m d = true ∧ 0 ≤ k ∧ k ≤ (js.length : Int) - 1 := by
  unfold phOk; simp only [Bool.and_eq_true, decide_eq_true_eq]
theorem phOk_l {js : List Jt} {ls : List Ld} {h v m d k : Int} (hl : loadsV js ls = false) : phOk js ls h v m d k = false := by unfold phOk; rw [hl]; rfl
theorem phOk_t {js : List Jt} {ls : List Ld} {h v m d k : Int} (ht : okT h v m d = false) : phOk js ls h v m d k = false := by unfold phOk; rw [ht, Bool.false_and, Bool.and_false]
theorem phOk_k {js : List Jt} {ls : List Ld} {h v m d k : Int} (hk : ¬ (0 ≤ k ∧ k ≤ (js.length : Int) - 1)) : phOk js ls h v m d k = false := by unfold phOk; rw [decide_eq_false hk, Bool.and_false, Bool.and_false]
theorem phOk_yes {js : List Jt} {ls : List Ld} {h v m d k : Int} (hl : loadsV js ls = true) (ht : okT h v m d = true) (hk : 0 ≤ k ∧ k ≤ (js.length : Int) - 1) : phOk js ls h v m d k = true := phOk_iff.2 ⟨hl, ht, hk⟩

/-- Its force to the right and upwards, its moment about 0, its joint (zeros where there is none). -/
def phH (js : List Jt) (ls : List Ld) (h v m d k : Int) : Int := if phOk js ls h v m d k then h else 0
def phU (js : List Jt) (ls : List Ld) (h v m d k : Int) : Int := if phOk js ls h v m d k then v - d * leftF wL js ls k else 0
def phT (js : List Jt) (ls : List Ld) (h v m d k : Int) : Int := if phOk js ls h v m d k then m - d * leftF mL js ls k else 0
def phJ (js : List Jt) (ls : List Ld) (h v m d k : Int) : Jt := if phOk js ls h v m d k then jt js k.toNat else ((0, 0), (0, 0))
/-- The moment about a point. -/
def abtV (t u r x y : Int) : Int := t - x * u + y * r
/-- The moments about Inner and about Outer. -/
def phA (js : List Jt) (ls : List Ld) (h v m d k : Int) : Int := abtV (phT js ls h v m d k) (phU js ls h v m d k) (phH js ls h v m d k) (phJ js ls h v m d k).1.1 (phJ js ls h v m d k).1.2
def phB (js : List Jt) (ls : List Ld) (h v m d k : Int) : Int := abtV (phT js ls h v m d k) (phU js ls h v m d k) (phH js ls h v m d k) (phJ js ls h v m d k).2.1 (phJ js ls h v m d k).2.2
theorem phH_yes {js : List Jt} {ls : List Ld} {h v m d k : Int} (hk : phOk js ls h v m d k = true) : phH js ls h v m d k = h := by unfold phH; rw [hk]; rfl
theorem phU_yes {js : List Jt} {ls : List Ld} {h v m d k : Int} (hk : phOk js ls h v m d k = true) : phU js ls h v m d k = v - d * leftF wL js ls k := by unfold phU; rw [hk]; rfl
theorem phT_yes {js : List Jt} {ls : List Ld} {h v m d k : Int} (hk : phOk js ls h v m d k = true) : phT js ls h v m d k = m - d * leftF mL js ls k := by unfold phT; rw [hk]; rfl
theorem phJ_yes {js : List Jt} {ls : List Ld} {h v m d k : Int} (hk : phOk js ls h v m d k = true) : phJ js ls h v m d k = jt js k.toNat := by unfold phJ; rw [hk]; rfl
theorem phH_no {js : List Jt} {ls : List Ld} {h v m d k : Int} (hk : phOk js ls h v m d k = false) : phH js ls h v m d k = 0 := by unfold phH; rw [hk]; rfl
theorem phU_no {js : List Jt} {ls : List Ld} {h v m d k : Int} (hk : phOk js ls h v m d k = false) : phU js ls h v m d k = 0 := by unfold phU; rw [hk]; rfl
theorem phT_no {js : List Jt} {ls : List Ld} {h v m d k : Int} (hk : phOk js ls h v m d k = false) : phT js ls h v m d k = 0 := by unfold phT; rw [hk]; rfl
theorem phJ_no {js : List Jt} {ls : List Ld} {h v m d k : Int} (hk : phOk js ls h v m d k = false) : phJ js ls h v m d k = ((0, 0), (0, 0)) := by unfold phJ; rw [hk]; rfl
theorem phA_no {js : List Jt} {ls : List Ld} {h v m d k : Int} (hk : phOk js ls h v m d k = false) : phA js ls h v m d k = 0 := by unfold phA; rw [phH_no hk, phU_no hk, phT_no hk, phJ_no hk]; rfl
theorem phB_no {js : List Jt} {ls : List Ld} {h v m d k : Int} (hk : phOk js ls h v m d k = false) : phB js ls h v m d k = 0 := by unfold phB; rw [phH_no hk, phU_no hk, phT_no hk, phJ_no hk]; rfl
theorem phA_yes {js : List Jt} {ls : List Ld} {h v m d k : Int} (hk : phOk js ls h v m d k = true) :
    phA js ls h v m d k = m - d * leftF mL js ls k - (jt js k.toNat).1.1 * (v - d * leftF wL js ls k) + (jt js k.toNat).1.2 * h := by unfold phA; rw [phH_yes hk, phU_yes hk, phT_yes hk, phJ_yes hk]; rfl
theorem phB_yes {js : List Jt} {ls : List Ld} {h v m d k : Int} (hk : phOk js ls h v m d k = true) :
    phB js ls h v m d k = m - d * leftF mL js ls k - (jt js k.toNat).2.1 * (v - d * leftF wL js ls k) + (jt js k.toNat).2.2 * h := by unfold phB; rw [phH_yes hk, phU_yes hk, phT_yes hk, phJ_yes hk]; rfl

theorem leftF_bd {js : List Jt} {ls : List Ld} (h : loadsV js ls = true) (k : Int) : (-32000000 ≤ leftF wL js ls k ∧ leftF wL js ls k ≤ 32000000) ∧ -75000000 ≤ leftF mL js ls k ∧ leftF mL js ls k ≤ 75000000 := by
  have h38 := arch_size (loadsV_iff.1 h).1
  by_cases hk : 0 ≤ k ∧ k ≤ (js.length : Int) - 1
  · obtain ⟨K, rfl⟩ : ∃ K : Nat, k = K := ⟨k.toNat, by omega⟩
    rw [leftF_yes h (by omega), leftF_yes h (by omega)]
    exact ⟨wL_bd h K (by omega), mL_bd h K (by omega)⟩
  · rw [leftF_no hk, leftF_no hk]
    omega

/-- The products of a push are small. -/
structure PhBd (js : List Jt) (ls : List Ld) (h v m d k : Int) : Prop where
  hw : -32000000000000 ≤ d * leftF wL js ls k ∧ d * leftF wL js ls k ≤ 32000000000000
  hm : -75000000000000 ≤ d * leftF mL js ls k ∧ d * leftF mL js ls k ≤ 75000000000000
  hu : -42000000000000 ≤ v - d * leftF wL js ls k ∧ v - d * leftF wL js ls k ≤ 42000000000000
  ht : -85000000000000 ≤ m - d * leftF mL js ls k ∧ m - d * leftF mL js ls k ≤ 85000000000000
theorem ph_bd {js : List Jt} {ls : List Ld} {h v m d : Int} (k : Int) (hl : loadsV js ls = true) (ht : okT h v m d = true) : PhBd js ls h v m d k := by
  obtain ⟨hd, hh, hv, hm, -⟩ := okT_iff.1 ht
  obtain ⟨bw, bm⟩ := leftF_bd hl k
  have a := mulT_bd (x := d) (y := leftF wL js ls k) 1000000 32000000 (by omega) (by omega)
  have b := mulT_bd (x := d) (y := leftF mL js ls k) 1000000 75000000 (by omega) (by omega)
  exact ⟨by omega, by omega, by omega, by omega⟩
/-- The products of a moment. -/
structure AbtBd (t u r x y : Int) : Prop where
  xu : -2520000000000000 ≤ x * u ∧ x * u ≤ 2520000000000000
  yr : -60000000000000 ≤ y * r ∧ y * r ≤ 60000000000000
  s : -2605000000000000 ≤ t - x * u ∧ t - x * u ≤ 2605000000000000
  v : -2665000000000000 ≤ abtV t u r x y ∧ abtV t u r x y ≤ 2665000000000000
theorem abt_bd {t u r x y : Int} (ht : -85000000000000 ≤ t ∧ t ≤ 85000000000000) (hu : -42000000000000 ≤ u ∧ u ≤ 42000000000000) (hr : 0 ≤ r ∧ r ≤ 1000000000000) (hx : -60 ≤ x ∧ x ≤ 60) (hy : -60 ≤ y ∧ y ≤ 60) : AbtBd t u r x y := by
  have a := mulT_bd (x := x) (y := u) 60 42000000000000 (by omega) (by omega)
  have b := mulT_bd (x := y) (y := r) 60 1000000000000 (by omega) (by omega)
  exact ⟨by omega, by omega, by omega, by unfold abtV; omega⟩
/-- A push's numbers are small, also where there is none. -/
structure PhIn (js : List Jt) (ls : List Ld) (h v m d k : Int) : Prop where
  t : -85000000000000 ≤ phT js ls h v m d k ∧ phT js ls h v m d k ≤ 85000000000000
  u : -42000000000000 ≤ phU js ls h v m d k ∧ phU js ls h v m d k ≤ 42000000000000
  r : 0 ≤ phH js ls h v m d k ∧ phH js ls h v m d k ≤ 1000000000000
  ax : -60 ≤ (phJ js ls h v m d k).1.1 ∧ (phJ js ls h v m d k).1.1 ≤ 60
  ay : -60 ≤ (phJ js ls h v m d k).1.2 ∧ (phJ js ls h v m d k).1.2 ≤ 60
  bx : -60 ≤ (phJ js ls h v m d k).2.1 ∧ (phJ js ls h v m d k).2.1 ≤ 60
  ly : -60 ≤ (phJ js ls h v m d k).2.2 ∧ (phJ js ls h v m d k).2.2 ≤ 60
theorem ph_in (js : List Jt) (ls : List Ld) (h v m d k : Int) : PhIn js ls h v m d k := by
  cases hk : phOk js ls h v m d k
  · exact ⟨by rw [phT_no hk]; omega, by rw [phU_no hk]; omega, by rw [phH_no hk]; omega, by rw [phJ_no hk]; decide, by rw [phJ_no hk]; decide, by rw [phJ_no hk]; decide, by rw [phJ_no hk]; decide⟩
  · obtain ⟨hl, ht, h0, h1⟩ := phOk_iff.1 hk
    have b := ph_bd k hl ht
    obtain ⟨hd, hh, hv, hm, -⟩ := okT_iff.1 ht
    obtain ⟨o1, o2⟩ := arch_ok (loadsV_iff.1 hl).1 (i := k.toNat) (by omega)
    have o1 := okP_iff.1 o1
    have o2 := okP_iff.1 o2
    exact ⟨by rw [phT_yes hk]; exact b.ht, by rw [phU_yes hk]; exact b.hu, by rw [phH_yes hk]; exact hh, by rw [phJ_yes hk]; omega, by rw [phJ_yes hk]; omega, by rw [phJ_yes hk]; omega, by rw [phJ_yes hk]; omega⟩
theorem phA_bd (js : List Jt) (ls : List Ld) (h v m d k : Int) : -2665000000000000 ≤ phA js ls h v m d k ∧ phA js ls h v m d k ≤ 2665000000000000 :=
  let b := ph_in js ls h v m d k; (abt_bd b.t b.u b.r b.ax b.ay).v
theorem phB_bd (js : List Jt) (ls : List Ld) (h v m d k : Int) : -2665000000000000 ≤ phB js ls h v m d k ∧ phB js ls h v m d k ≤ 2665000000000000 :=
  let b := ph_in js ls h v m d k; (abt_bd b.t b.u b.r b.bx b.ly).v

/-- Whether a push with these moments passes between. -/
def passV (a b : Int) : Bool := decide (a ≤ 0) && decide (0 ≤ b)
theorem passV_iff {a b : Int} : passV a b = true ↔ a ≤ 0 ∧ 0 ≤ b := by unfold passV; simp only [Bool.and_eq_true, decide_eq_true_eq]
theorem passV_no {a b : Int} : passV a b = false ↔ ¬ (a ≤ 0 ∧ 0 ≤ b) := by rw [← passV_iff]; simp
/-- What IsInside answers. -/
def phIn (js : List Jt) (ls : List Ld) (h v m d k : Int) : Bool := phOk js ls h v m d k && passV (phA js ls h v m d k) (phB js ls h v m d k)
/-- What PlaceAt answers of the moments: whether there is a place, and a number over the common divisor. -/
def plOk (a b : Int) : Bool := passV a b && !decide (a = b)
def plG (a b : Int) : Int := ((Nat.gcd (-a).natAbs (b - a).natAbs : Nat) : Int)
def plN (x a b : Int) : Int := if plOk a b then x.tdiv (plG a b) else 0
theorem plOk_iff {a b : Int} : plOk a b = true ↔ a ≤ 0 ∧ 0 ≤ b ∧ a ≠ b := by unfold plOk; rw [Bool.and_eq_true, passV_iff]; simp [and_assoc]
theorem plOk_no {a b : Int} : plOk a b = false ↔ ¬ (a ≤ 0 ∧ 0 ≤ b ∧ a ≠ b) := by rw [← plOk_iff]; simp
theorem plN_yes {x a b : Int} (h : plOk a b = true) : plN x a b = x.tdiv (plG a b) := by unfold plN; rw [h]; rfl
theorem plN_no {x a b : Int} (h : plOk a b = false) : plN x a b = 0 := by unfold plN; rw [h]; rfl
theorem plG_pos {a b : Int} (h : plOk a b = true) : 0 < plG a b := by
  have := plOk_iff.1 h
  have := Nat.gcd_pos_of_pos_right (-a).natAbs (n := (b - a).natAbs) (by omega)
  unfold plG; omega
theorem plG_le {a b : Int} (h : plOk a b = true) : plG a b ≤ b - a := by
  have := plOk_iff.1 h
  have := Nat.le_of_dvd (by omega) (Nat.gcd_dvd_right (-a).natAbs (b - a).natAbs)
  unfold plG; omega
theorem plN_bd {x a b : Int} : (x.tdiv (plG a b)).natAbs ≤ x.natAbs := by rw [Int.natAbs_tdiv]; exact Nat.div_le_self _ _
/-- Where there is a push, the model asks the same; where there is none, the moments are zeros. -/
theorem pl_in {js : List Jt} {ls : List Ld} {h v m d k : Int} : plOk (phA js ls h v m d k) (phB js ls h v m d k) = (phIn js ls h v m d k && !(decide (phA js ls h v m d k = 0) && decide (phB js ls h v m d k = 0))) := by
  cases hk : phOk js ls h v m d k
  · unfold phIn; rw [hk, phA_no hk, phB_no hk]; rfl
  · unfold phIn plOk
    rw [hk, Bool.true_and]
    generalize phA js ls h v m d k = a
    generalize phB js ls h v m d k = b
    cases hp : passV a b
    · rfl
    · have := passV_iff.1 hp
      rw [Bool.true_and, Bool.true_and, Bool.eq_iff_iff]
      simp
      omega
/-- What PlaceAt answers, as a value. -/
def plV (a b : Int) : Go.Value := .tuple #[.int .i64 (plN (-a) a b), .int .i64 (plN (b - a) a b), .bool (plOk a b)]
theorem plV_any (a b : Int) : ∃ (p q : Int) (t : Bool), plV a b = .tuple #[.int .i64 p, .int .i64 q, .bool t] := ⟨_, _, _, rfl⟩
theorem plV_no {a b : Int} (h : plOk a b = false) : plV a b = .tuple #[.int .i64 0, .int .i64 0, .bool false] := by unfold plV; rw [plN_no h, plN_no h, h]
theorem plV_yes {a b : Int} (h : plOk a b = true) : plV a b = .tuple #[.int .i64 ((-a).tdiv (plG a b)), .int .i64 ((b - a).tdiv (plG a b)), .bool true] := by unfold plV; rw [plN_yes h, plN_yes h, h]
end Go.Proofs.Ytkafkghiahljpaa
