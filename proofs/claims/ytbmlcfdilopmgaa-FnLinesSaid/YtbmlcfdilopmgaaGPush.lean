/- Pushes at joints, plainly: whether there is one, its force and its moments, where it passes, as functions of the joints, the loads and the thrust; The program's moments of a push: about a point, about both ends of a joint; whether it passes between; The program's findPush; The program's PushAt, MomentsAt, IsInside, PlaceAt. -/
import Derived.Test.YtbmlcfdilopmgaaGPlain
import Derived.Test.YtbmlcfdilopmgaaGThrust
import Derived.Shelf.Abstract
import Derived.Deep.RegionWith
import Derived.Test.YtbmlcfdilopmgaaGBear

/- Pushes at joints, plainly: whether there is one, its force and its moments, where it passes, as functions of the joints, the loads and the thrust. -/
namespace Go.Proofs.Ytbmlcfdilopmgaa
set_option maxRecDepth 100000

/-- Whether there is a push of the thrust at joint k. -/
def phOk (js : List Jt) (ls : List Ld) (h v m d k : Int) : Bool := loadsV js ls && (okT h v m d && decide (0 ≤ k ∧ k ≤ (js.length : Int) - 1))
theorem phOk_iff {js : List Jt} {ls : List Ld} {h v m d k : Int} : phOk js ls h v m d k = true ↔ loadsV js ls = true ∧ okT h v m d = true ∧ 0 ≤ k ∧ k ≤ (js.length : Int) - 1 := by
  unfold phOk; simp only [Bool.and_eq_true, decide_eq_true_eq]
theorem phOk_l {js : List Jt} {ls : List Ld} {h v m d k : Int} (hl : loadsV js ls = false) : phOk js ls h v m d k = false := by unfold phOk; rw [hl]; rfl
theorem phOk_t {js : List Jt} {ls : List Ld} {h v m d k : Int} (ht : okT h v m d = false) : phOk js ls h v m d k = false := by unfold phOk; rw [ht, Bool.false_and, Bool.and_false]
theorem phOk_k {js : List Jt} {ls : List Ld} {h v m d k : Int} (hk : ¬ (0 ≤ k ∧ k ≤ (js.length : Int) - 1)) : phOk js ls h v m d k = false := by unfold phOk; rw [decide_eq_false hk, Bool.and_false, Bool.and_false]
theorem phOk_yes {js : List Jt} {ls : List Ld} {h v m d k : Int} (hl : loadsV js ls = true) (ht : okT h v m d = true) (hk : 0 ≤ k ∧ k ≤ (js.length : Int) - 1) : phOk js ls h v m d k = true := phOk_iff.2 ⟨hl, ht, hk⟩

/-- Its force to the right and upwards, its moment about 0, its joint (zeros where there is none). -/
def phH (js : List Jt) (ls : List Ld) (h v m d k : Int) : Int := if phOk js ls h v m d k then h else 0
def phU (js : List Jt) (ls : List Ld) (h v m d k : Int) : Int := if phOk js ls h v m d k then v - d * leftF wL js ls k else 0
def phT (js : List Jt) (ls : List Ld) (h v m d k : Int) : Int := if phOk js ls h v m d k then m - d * leftF mL js ls k else 0
def phJ (js : List Jt) (ls : List Ld) (h v m d k : Int) : Jt := if phOk js ls h v m d k then jt js k.toNat else ((0, 0), (0, 0))
/-- The moment about a point. -/
def abtV (t u r x y : Int) : Int := t - x * u + y * r
/-- The moments about Inner and about Outer. -/
def phA (js : List Jt) (ls : List Ld) (h v m d k : Int) : Int := abtV (phT js ls h v m d k) (phU js ls h v m d k) (phH js ls h v m d k) (phJ js ls h v m d k).1.1 (phJ js ls h v m d k).1.2
def phB (js : List Jt) (ls : List Ld) (h v m d k : Int) : Int := abtV (phT js ls h v m d k) (phU js ls h v m d k) (phH js ls h v m d k) (phJ js ls h v m d k).2.1 (phJ js ls h v m d k).2.2
theorem phH_yes {js : List Jt} {ls : List Ld} {h v m d k : Int} (hk : phOk js ls h v m d k = true) : phH js ls h v m d k = h := by unfold phH; rw [hk]; rfl
theorem phU_yes {js : List Jt} {ls : List Ld} {h v m d k : Int} (hk : phOk js ls h v m d k = true) : phU js ls h v m d k = v - d * leftF wL js ls k := by unfold phU; rw [hk]; rfl
theorem phT_yes {js : List Jt} {ls : List Ld} {h v m d k : Int} (hk : phOk js ls h v m d k = true) : phT js ls h v m d k = m - d * leftF mL js ls k := by unfold phT; rw [hk]; rfl
theorem phJ_yes {js : List Jt} {ls : List Ld} {h v m d k : Int} (hk : phOk js ls h v m d k = true) : phJ js ls h v m d k = jt js k.toNat := by unfold phJ; rw [hk]; rfl
theorem phH_no {js : List Jt} {ls : List Ld} {h v m d k : Int} (hk : phOk js ls h v m d k = false) : phH js ls h v m d k = 0 := by unfold phH; rw [hk]; rfl
theorem phU_no {js : List Jt} {ls : List Ld} {h v m d k : Int} (hk : phOk js ls h v m d k = false) : phU js ls h v m d k = 0 := by unfold phU; rw [hk]; rfl
theorem phT_no {js : List Jt} {ls : List Ld} {h v m d k : Int} (hk : phOk js ls h v m d k = false) : phT js ls h v m d k = 0 := by unfold phT; rw [hk]; rfl
theorem phJ_no {js : List Jt} {ls : List Ld} {h v m d k : Int} (hk : phOk js ls h v m d k = false) : phJ js ls h v m d k = ((0, 0), (0, 0)) := by unfold phJ; rw [hk]; rfl
theorem phA_no {js : List Jt} {ls : List Ld} {h v m d k : Int} (hk : phOk js ls h v m d k = false) : phA js ls h v m d k = 0 := by unfold phA; rw [phH_no hk, phU_no hk, phT_no hk, phJ_no hk]; rfl
theorem phB_no {js : List Jt} {ls : List Ld} {h v m d k : Int} (hk : phOk js ls h v m d k = false) : phB js ls h v m d k = 0 := by unfold phB; rw [phH_no hk, phU_no hk, phT_no hk, phJ_no hk]; rfl
theorem phA_yes {js : List Jt} {ls : List Ld} {h v m d k : Int} (hk : phOk js ls h v m d k = true) :
    phA js ls h v m d k = m - d * leftF mL js ls k - (jt js k.toNat).1.1 * (v - d * leftF wL js ls k) + (jt js k.toNat).1.2 * h := by unfold phA; rw [phH_yes hk, phU_yes hk, phT_yes hk, phJ_yes hk]; rfl
theorem phB_yes {js : List Jt} {ls : List Ld} {h v m d k : Int} (hk : phOk js ls h v m d k = true) :
    phB js ls h v m d k = m - d * leftF mL js ls k - (jt js k.toNat).2.1 * (v - d * leftF wL js ls k) + (jt js k.toNat).2.2 * h := by unfold phB; rw [phH_yes hk, phU_yes hk, phT_yes hk, phJ_yes hk]; rfl

theorem leftF_bd {js : List Jt} {ls : List Ld} (h : loadsV js ls = true) (k : Int) : (-32000000 ≤ leftF wL js ls k ∧ leftF wL js ls k ≤ 32000000) ∧ -75000000 ≤ leftF mL js ls k ∧ leftF mL js ls k ≤ 75000000 := by
  have h38 := arch_size (loadsV_iff.1 h).1
  by_cases hk : 0 ≤ k ∧ k ≤ (js.length : Int) - 1
  · obtain ⟨K, rfl⟩ : ∃ K : Nat, k = K := ⟨k.toNat, by omega⟩
    rw [leftF_yes h (by omega), leftF_yes h (by omega)]
    exact ⟨wL_bd h K (by omega), mL_bd h K (by omega)⟩
  · rw [leftF_no hk, leftF_no hk]
    omega

/-- The products of a push are small. -/
structure PhBd (js : List Jt) (ls : List Ld) (h v m d k : Int) : Prop where
  hw : -32000000000000 ≤ d * leftF wL js ls k ∧ d * leftF wL js ls k ≤ 32000000000000
  hm : -75000000000000 ≤ d * leftF mL js ls k ∧ d * leftF mL js ls k ≤ 75000000000000
  hu : -42000000000000 ≤ v - d * leftF wL js ls k ∧ v - d * leftF wL js ls k ≤ 42000000000000
  ht : -85000000000000 ≤ m - d * leftF mL js ls k ∧ m - d * leftF mL js ls k ≤ 85000000000000
theorem ph_bd {js : List Jt} {ls : List Ld} {h v m d : Int} (k : Int) (hl : loadsV js ls = true) (ht : okT h v m d = true) : PhBd js ls h v m d k := by
  obtain ⟨hd, hh, hv, hm, -⟩ := okT_iff.1 ht
  obtain ⟨bw, bm⟩ := leftF_bd hl k
  have a := mulT_bd (x := d) (y := leftF wL js ls k) 1000000 32000000 (by omega) (by omega)
  have b := mulT_bd (x := d) (y := leftF mL js ls k) 1000000 75000000 (by omega) (by omega)
  exact ⟨by omega, by omega, by omega, by omega⟩
/-- The products of a moment. -/
structure AbtBd (t u r x y : Int) : Prop where
  xu : -2520000000000000 ≤ x * u ∧ x * u ≤ 2520000000000000
  yr : -60000000000000 ≤ y * r ∧ y * r ≤ 60000000000000
  s : -2605000000000000 ≤ t - x * u ∧ t - x * u ≤ 2605000000000000
  v : -2665000000000000 ≤ abtV t u r x y ∧ abtV t u r x y ≤ 2665000000000000
theorem abt_bd {t u r x y : Int} (ht : -85000000000000 ≤ t ∧ t ≤ 85000000000000) (hu : -42000000000000 ≤ u ∧ u ≤ 42000000000000) (hr : 0 ≤ r ∧ r ≤ 1000000000000) (hx : -60 ≤ x ∧ x ≤ 60) (hy : -60 ≤ y ∧ y ≤ 60) : AbtBd t u r x y := by
  have a := mulT_bd (x := x) (y := u) 60 42000000000000 (by omega) (by omega)
  have b := mulT_bd (x := y) (y := r) 60 1000000000000 (by omega) (by omega)
  exact ⟨by omega, by omega, by omega, by unfold abtV; omega⟩
/-- A push's numbers are small, also where there is none. -/
structure PhIn (js : List Jt) (ls : List Ld) (h v m d k : Int) : Prop where
  t : -85000000000000 ≤ phT js ls h v m d k ∧ phT js ls h v m d k ≤ 85000000000000
  u : -42000000000000 ≤ phU js ls h v m d k ∧ phU js ls h v m d k ≤ 42000000000000
  r : 0 ≤ phH js ls h v m d k ∧ phH js ls h v m d k ≤ 1000000000000
  ax : -60 ≤ (phJ js ls h v m d k).1.1 ∧ (phJ js ls h v m d k).1.1 ≤ 60
  ay : -60 ≤ (phJ js ls h v m d k).1.2 ∧ (phJ js ls h v m d k).1.2 ≤ 60
  bx : -60 ≤ (phJ js ls h v m d k).2.1 ∧ (phJ js ls h v m d k).2.1 ≤ 60
  ly : -60 ≤ (phJ js ls h v m d k).2.2 ∧ (phJ js ls h v m d k).2.2 ≤ 60
theorem ph_in (js : List Jt) (ls : List Ld) (h v m d k : Int) : PhIn js ls h v m d k := by
  cases hk : phOk js ls h v m d k
  · exact ⟨by rw [phT_no hk]; omega, by rw [phU_no hk]; omega, by rw [phH_no hk]; omega, by rw [phJ_no hk]; decide, by rw [phJ_no hk]; decide, by rw [phJ_no hk]; decide, by rw [phJ_no hk]; decide⟩
  · obtain ⟨hl, ht, h0, h1⟩ := phOk_iff.1 hk
    have b := ph_bd k hl ht
    obtain ⟨hd, hh, hv, hm, -⟩ := okT_iff.1 ht
    obtain ⟨o1, o2⟩ := arch_ok (loadsV_iff.1 hl).1 (i := k.toNat) (by omega)
    have o1 := okP_iff.1 o1
    have o2 := okP_iff.1 o2
    exact ⟨by rw [phT_yes hk]; exact b.ht, by rw [phU_yes hk]; exact b.hu, by rw [phH_yes hk]; exact hh, by rw [phJ_yes hk]; omega, by rw [phJ_yes hk]; omega, by rw [phJ_yes hk]; omega, by rw [phJ_yes hk]; omega⟩
theorem phA_bd (js : List Jt) (ls : List Ld) (h v m d k : Int) : -2665000000000000 ≤ phA js ls h v m d k ∧ phA js ls h v m d k ≤ 2665000000000000 :=
  let b := ph_in js ls h v m d k; (abt_bd b.t b.u b.r b.ax b.ay).v
theorem phB_bd (js : List Jt) (ls : List Ld) (h v m d k : Int) : -2665000000000000 ≤ phB js ls h v m d k ∧ phB js ls h v m d k ≤ 2665000000000000 :=
  let b := ph_in js ls h v m d k; (abt_bd b.t b.u b.r b.bx b.ly).v

/-- Whether a push with these moments passes between. -/
def passV (a b : Int) : Bool := decide (a ≤ 0) && decide (0 ≤ b)
theorem passV_iff {a b : Int} : passV a b = true ↔ a ≤ 0 ∧ 0 ≤ b := by unfold passV; simp only [Bool.and_eq_true, decide_eq_true_eq]
theorem passV_no {a b : Int} : passV a b = false ↔ ¬ (a ≤ 0 ∧ 0 ≤ b) := by rw [← passV_iff]; simp
/-- What IsInside answers. -/
def phIn (js : List Jt) (ls : List Ld) (h v m d k : Int) : Bool := phOk js ls h v m d k && passV (phA js ls h v m d k) (phB js ls h v m d k)
/-- What PlaceAt answers of the moments: whether there is a place, and a number over the common divisor. -/
def plOk (a b : Int) : Bool := passV a b && !decide (a = b)
def plG (a b : Int) : Int := ((Nat.gcd (-a).natAbs (b - a).natAbs : Nat) : Int)
def plN (x a b : Int) : Int := if plOk a b then x.tdiv (plG a b) else 0
theorem plOk_iff {a b : Int} : plOk a b = true ↔ a ≤ 0 ∧ 0 ≤ b ∧ a ≠ b := by unfold plOk; rw [Bool.and_eq_true, passV_iff]; simp [and_assoc]
theorem plOk_no {a b : Int} : plOk a b = false ↔ ¬ (a ≤ 0 ∧ 0 ≤ b ∧ a ≠ b) := by rw [← plOk_iff]; simp
theorem plN_yes {x a b : Int} (h : plOk a b = true) : plN x a b = x.tdiv (plG a b) := by unfold plN; rw [h]; rfl
theorem plN_no {x a b : Int} (h : plOk a b = false) : plN x a b = 0 := by unfold plN; rw [h]; rfl
theorem plG_pos {a b : Int} (h : plOk a b = true) : 0 < plG a b := by
  have := plOk_iff.1 h
  have := Nat.gcd_pos_of_pos_right (-a).natAbs (n := (b - a).natAbs) (by omega)
  unfold plG; omega
theorem plG_le {a b : Int} (h : plOk a b = true) : plG a b ≤ b - a := by
  have := plOk_iff.1 h
  have := Nat.le_of_dvd (by omega) (Nat.gcd_dvd_right (-a).natAbs (b - a).natAbs)
  unfold plG; omega
theorem plN_bd {x a b : Int} : (x.tdiv (plG a b)).natAbs ≤ x.natAbs := by rw [Int.natAbs_tdiv]; exact Nat.div_le_self _ _
/-- Where there is a push, the model asks the same; where there is none, the moments are zeros. -/
theorem pl_in {js : List Jt} {ls : List Ld} {h v m d k : Int} : plOk (phA js ls h v m d k) (phB js ls h v m d k) = (phIn js ls h v m d k && !(decide (phA js ls h v m d k = 0) && decide (phB js ls h v m d k = 0))) := by
  cases hk : phOk js ls h v m d k
  · unfold phIn; rw [hk, phA_no hk, phB_no hk]; rfl
  · unfold phIn plOk
    rw [hk, Bool.true_and]
    generalize phA js ls h v m d k = a
    generalize phB js ls h v m d k = b
    cases hp : passV a b
    · rfl
    · have := passV_iff.1 hp
      rw [Bool.true_and, Bool.true_and, Bool.eq_iff_iff]
      simp
      omega
/-- What PlaceAt answers, as a value. -/
def plV (a b : Int) : Go.Value := .tuple #[.int .i64 (plN (-a) a b), .int .i64 (plN (b - a) a b), .bool (plOk a b)]
theorem plV_any (a b : Int) : ∃ (p q : Int) (t : Bool), plV a b = .tuple #[.int .i64 p, .int .i64 q, .bool t] := ⟨_, _, _, rfl⟩
theorem plV_no {a b : Int} (h : plOk a b = false) : plV a b = .tuple #[.int .i64 0, .int .i64 0, .bool false] := by unfold plV; rw [plN_no h, plN_no h, h]
theorem plV_yes {a b : Int} (h : plOk a b = true) : plV a b = .tuple #[.int .i64 ((-a).tdiv (plG a b)), .int .i64 ((b - a).tdiv (plG a b)), .bool true] := by unfold plV; rw [plN_yes h, plN_yes h, h]
end Go.Proofs.Ytbmlcfdilopmgaa

/- The program's moments of a push: about a point, about both ends of a joint; whether it passes between. -/
namespace Go.Proofs.Ytbmlcfdilopmgaa
set_option maxRecDepth 100000
open Go.ChangeShapes Go.WideShapes Go.ChangeAt Go.RowKit

set_option maxHeartbeats 1000000 in
theorem pushAbout (jx jy jz ju r u t x y : Int) (w : World) (hb : AbtBd t u r x y) :
    Calls Try.prog 95 #[.agg #[.int .i64 jx, .int .i64 jy, .int .i64 jz, .int .i64 ju, .int .i64 r, .int .i64 u, .int .i64 t], .agg #[.int .i64 x, .int .i64 y]] w fun e w' => e = .returned (.int .i64 (abtV t u r x y)) ∧ Below w.heap.size w w' := by
  have hb0 := ((Below.refl w.heap.size w).alloc (Nat.le_refl _) (.cells #[.int .i64 jx, .int .i64 jy, .int .i64 jz, .int .i64 ju, .int .i64 r, .int .i64 u, .int .i64 t] 145)).alloc (by simp) (.cells #[.int .i64 x, .int .i64 y] 100)
  have HB0 := Lib.hid hb0
  have HV : RowKit.Hid (abtV t u r x y = t - x * u + y * r) := Lib.hid rfl
  obtain ⟨h1, h2, h3, h4⟩ := hb
  rw [HV.out] at h4 ⊢
  have w1 : IntKind.i64.wrap (x * u) = x * u := IntWalk.i64_in _ (by omega)
  have w2 : IntKind.i64.wrap (y * r) = y * r := IntWalk.i64_in _ (by omega)
  have w3 : IntKind.i64.wrap (t - x * u) = t - x * u := IntWalk.i64_in _ (by omega)
  have w4 : IntKind.i64.wrap (t - x * u + y * r) = t - x * u + y * r := IntWalk.i64_in _ (by omega)
  clear hb0 h1 h2 h3 h4
  go_enter Try.func95, Try.ntmps95
  go_wp2_with fail
  go_ret
  exact ⟨rfl, HB0.out⟩

set_option maxHeartbeats 1000000 in
/-- A joint's two moments, by the method of a push. -/
theorem atEnds (jx jy jz ju r u t x y z v : Int) (w : World) (ha : AbtBd t u r x y) (hb : AbtBd t u r z v) :
    Calls Try.prog 94 #[.agg #[.int .i64 x, .int .i64 y, .int .i64 z, .int .i64 v], .func (.func 95) #[.agg #[.int .i64 jx, .int .i64 jy, .int .i64 jz, .int .i64 ju, .int .i64 r, .int .i64 u, .int .i64 t]] #[]] w
      fun e w' => e = .returned (.tuple #[.int .i64 (abtV t u r x y), .int .i64 (abtV t u r z v)]) ∧ Below w.heap.size w w' := by
  have hA := fun w => pushAbout jx jy jz ju r u t x y w ha
  have hB := fun w => pushAbout jx jy jz ju r u t z v w hb
  generalize abtV t u r x y = P at *
  generalize abtV t u r z v = Q at *
  have HA := Lib.hid hA
  have HB := Lib.hid hB
  have hb0 := (Below.refl w.heap.size w).alloc (Nat.le_refl _) (.cells #[.int .i64 x, .int .i64 y, .int .i64 z, .int .i64 v] 102)
  have HB0 := Lib.hid hb0
  clear hA hB ha hb hb0
  go_enter Try.func94, Try.ntmps94
  go_wp2_with fail
  generalize hW : w.alloc (.cells #[.int .i64 x, .int .i64 y, .int .i64 z, .int .i64 v] 102) = W at *
  have hn1 := Since.nonempty W
  have hw1 : w.heap.size < W.heap.size := by subst hW; simp
  have s0 := fun (q : Since W) => (q.cell w.heap.size 0 hw1).trans (show _ = some (.int .i64 x) by subst hW; go_simp)
  have s1 := fun (q : Since W) => (q.cell w.heap.size 1 hw1).trans (show _ = some (.int .i64 y) by subst hW; go_simp)
  have s2 := fun (q : Since W) => (q.cell w.heap.size 2 hw1).trans (show _ = some (.int .i64 z) by subst hW; go_simp)
  have s3 := fun (q : Since W) => (q.cell w.heap.size 3 hw1).trans (show _ = some (.int .i64 v) by subst hW; go_simp)
  have he : ∀ args w, (callFunc 95 args).run Try.prog w = .ok (.enter 95 args) w := enters_of Try.func95 (by kernel_rfl) rfl
  clear hW
  refine wp_region_since (by kernel_rfl) (by kernel_rfl) ?_
  repeat (go_big_quiet_step (first
    | (go_at_call_of 95 (Value.int .i64 x); exact Since.call (HA.out _))
    | (go_at_call_of 95 (Value.int .i64 z); exact Since.call (HB.out _))))
  refine wpQuiet_nil ?_
  rintro w2 ⟨⟨_, hb2⟩, rfl⟩
  go_wp2_with fail
  refine bodyPost_ret (v := .tuple #[.int .i64 P, .int .i64 Q]) (by simp [results, Try.results94, go_sem]) rfl ⟨rfl, HB0.out.trans (hb2.mono HB0.out.size)⟩

theorem passesBetween (a b : Int) (w : World) :
    Calls Try.prog 81 #[.int .i64 a, .int .i64 b] w fun e w' => e = .returned (.bool (passV a b)) ∧ w = w' := by
  by_cases h : a ≤ 0
  · go_enter Try.func81, Try.ntmps81
    go_wp2
    go_ret
    exact ⟨ret_bool (by unfold passV; simp <;> omega), rfl⟩
  · go_enter Try.func81, Try.ntmps81
    go_wp2
    go_ret
    exact ⟨ret_bool (by unfold passV; simp <;> omega), rfl⟩
end Go.Proofs.Ytbmlcfdilopmgaa

/- The program's findPush. -/
namespace Go.Proofs.Ytbmlcfdilopmgaa
set_option maxRecDepth 100000
open Go.ChangeShapes Go.WideShapes Go.ChangeAt Go.RowKit

/-- A push as a value; what findPush answers. -/
abbrev pushV (jx jy jz ju r u t : Int) : Value := .agg #[.int .i64 jx, .int .i64 jy, .int .i64 jz, .int .i64 ju, .int .i64 r, .int .i64 u, .int .i64 t]
def phV (js : List Jt) (ls : List Ld) (h v m d k : Int) : Value :=
  .tuple #[pushV (phJ js ls h v m d k).1.1 (phJ js ls h v m d k).1.2 (phJ js ls h v m d k).2.1 (phJ js ls h v m d k).2.2 (phH js ls h v m d k) (phU js ls h v m d k) (phT js ls h v m d k), .bool (phOk js ls h v m d k)]
theorem phV_no {js : List Jt} {ls : List Ld} {h v m d k : Int} (hk : phOk js ls h v m d k = false) : phV js ls h v m d k = .tuple #[pushV 0 0 0 0 0 0 0, .bool false] := by
  unfold phV; rw [phJ_no hk, phH_no hk, phU_no hk, phT_no hk, hk]
theorem phV_yes {js : List Jt} {ls : List Ld} {h v m d k : Int} (hk : phOk js ls h v m d k = true) :
    phV js ls h v m d k = .tuple #[pushV (jt js k.toNat).1.1 (jt js k.toNat).1.2 (jt js k.toNat).2.1 (jt js k.toNat).2.2 h (v - d * leftF wL js ls k) (m - d * leftF mL js ls k), .bool true] := by
  unfold phV; rw [phJ_yes hk, phH_yes hk, phU_yes hk, phT_yes hk, hk]

/-- The boxes of findPush: the thrust, the push that it answers. -/
def FBox (W : World) (H : Nat) (th tv tm td : Int) : Prop :=
  W.cell? ⟨H + 1, 0, none⟩ = some (.int .i64 th) ∧ W.cell? ⟨H + 1, 1, none⟩ = some (.int .i64 tv) ∧ W.cell? ⟨H + 1, 2, none⟩ = some (.int .i64 tm) ∧ W.cell? ⟨H + 1, 3, none⟩ = some (.int .i64 td) ∧
  W.cell? ⟨H + 1 + 1, 0, none⟩ = some (.int .i64 0) ∧ W.cell? ⟨H + 1 + 1, 1, none⟩ = some (.int .i64 0) ∧ W.cell? ⟨H + 1 + 1, 2, none⟩ = some (.int .i64 0) ∧ W.cell? ⟨H + 1 + 1, 3, none⟩ = some (.int .i64 0) ∧
  W.cell? ⟨H + 1 + 1, 4, none⟩ = some (.int .i64 0) ∧ W.cell? ⟨H + 1 + 1, 5, none⟩ = some (.int .i64 0) ∧ W.cell? ⟨H + 1 + 1, 6, none⟩ = some (.int .i64 0) ∧ ∀ o, W.frozen? ⟨H + 1 + 1, o, none⟩ = false
theorem FBox.below {w w' : World} {H : Nat} {th tv tm td : Int} (h : FBox w H th tv tm td) (hb : Below w.heap.size w w') : FBox w' H th tv tm td := by
  obtain ⟨h0, h1, h2, h3, h4, h5, h6, h7, h8, h9, h10, h11⟩ := h
  exact ⟨cell_kept h0 hb, cell_kept h1 hb, cell_kept h2 hb, cell_kept h3 hb, cell_kept h4 hb, cell_kept h5 hb, cell_kept h6 hb, cell_kept h7 hb, cell_kept h8 hb, cell_kept h9 hb, cell_kept h10 hb, fun o => frozen_kept (h11 o) h4 hb⟩
theorem al_below (w : World) (o : Obj) : Below w.heap.size w (w.alloc o) := (Below.refl w.heap.size w).alloc (Nat.le_refl _) o

/-- A struct of seven cells, written into its box. -/
def set7 (w : World) (b : Nat) (a0 a1 a2 a3 a4 a5 a6 : Value) : World :=
  ((((((w.setCell ⟨b, 0, none⟩ a0).setCell ⟨b, 1, none⟩ a1).setCell ⟨b, 2, none⟩ a2).setCell ⟨b, 3, none⟩ a3).setCell ⟨b, 4, none⟩ a4).setCell ⟨b, 5, none⟩ a5).setCell ⟨b, 6, none⟩ a6
theorem set7_below {A : Nat} {a w : World} {b : Nat} (h : Below A a w) (hb : A ≤ b) (a0 a1 a2 a3 a4 a5 a6 : Value) : Below A a (set7 w b a0 a1 a2 a3 a4 a5 a6) := by
  unfold set7
  repeat refine Below.setCell ?_ (by simpa using hb) _
  exact h
set_option maxHeartbeats 1000000 in
theorem set7_cells {w : World} {H : Nat} {th tv tm td : Int} (h : FBox w H th tv tm td) (a0 a1 a2 a3 a4 a5 a6 : Value) :
    (set7 w (H + 1 + 1) a0 a1 a2 a3 a4 a5 a6).cell? ⟨H + 1 + 1, 0, none⟩ = some a0 ∧ (set7 w (H + 1 + 1) a0 a1 a2 a3 a4 a5 a6).cell? ⟨H + 1 + 1, 1, none⟩ = some a1 ∧ (set7 w (H + 1 + 1) a0 a1 a2 a3 a4 a5 a6).cell? ⟨H + 1 + 1, 2, none⟩ = some a2 ∧
    (set7 w (H + 1 + 1) a0 a1 a2 a3 a4 a5 a6).cell? ⟨H + 1 + 1, 3, none⟩ = some a3 ∧ (set7 w (H + 1 + 1) a0 a1 a2 a3 a4 a5 a6).cell? ⟨H + 1 + 1, 4, none⟩ = some a4 ∧ (set7 w (H + 1 + 1) a0 a1 a2 a3 a4 a5 a6).cell? ⟨H + 1 + 1, 5, none⟩ = some a5 ∧
    (set7 w (H + 1 + 1) a0 a1 a2 a3 a4 a5 a6).cell? ⟨H + 1 + 1, 6, none⟩ = some a6 := by
  obtain ⟨-, -, -, -, p0, p1, p2, p3, p4, p5, p6, fz⟩ := h
  unfold set7
  refine ⟨?_, ?_, ?_, ?_, ?_, ?_, ?_⟩ <;> go_simp
theorem fbox_end {w w1 Z : World} {th tv tm td : Int} (h : FBox w1 w.heap.size th tv tm td) (hb : Below w.heap.size w w1) (a0 a1 a2 a3 a4 a5 a6 : Value) (hz : Below (set7 w1 (w.heap.size + 1 + 1) a0 a1 a2 a3 a4 a5 a6).heap.size (set7 w1 (w.heap.size + 1 + 1) a0 a1 a2 a3 a4 a5 a6) Z) :
    Below w.heap.size w Z ∧ Z.cell? ⟨w.heap.size + 1 + 1, 0, none⟩ = some a0 ∧ Z.cell? ⟨w.heap.size + 1 + 1, 1, none⟩ = some a1 ∧ Z.cell? ⟨w.heap.size + 1 + 1, 2, none⟩ = some a2 ∧ Z.cell? ⟨w.heap.size + 1 + 1, 3, none⟩ = some a3 ∧
    Z.cell? ⟨w.heap.size + 1 + 1, 4, none⟩ = some a4 ∧ Z.cell? ⟨w.heap.size + 1 + 1, 5, none⟩ = some a5 ∧ Z.cell? ⟨w.heap.size + 1 + 1, 6, none⟩ = some a6 := by
  obtain ⟨h0, h1, h2, h3, h4, h5, h6⟩ := set7_cells h a0 a1 a2 a3 a4 a5 a6
  have hb1 := set7_below hb (b := w.heap.size + 1 + 1) (by omega) a0 a1 a2 a3 a4 a5 a6
  exact ⟨hb1.trans (hz.mono hb1.size), cell_kept h0 hz, cell_kept h1 hz, cell_kept h2 hz, cell_kept h3 hz, cell_kept h4 hz, cell_kept h5 hz, cell_kept h6 hz⟩

set_option maxHeartbeats 4000000 in
theorem findPush (w : World) (B B2 g cap n : Nat) (la : Option Addr) (m lc : Nat) (js : List Jt) (ls : List Ld) (th tv tm td k : Int) (hr : JRowAt w B g cap js) (hn : js.length = n) (hl : Lds w B2 la m lc ls) :
    Calls Try.prog 93 #[.agg #[.slice (some ⟨g, 0, none⟩) n cap], .slice la m lc, .agg #[.int .i64 th, .int .i64 tv, .int .i64 tm, .int .i64 td], .int .i64 k] w
      fun e w' => e = .returned (phV js ls th tv tm td k) ∧ Below w.heap.size w w' := by
  have hb0 := (((Below.refl w.heap.size w).alloc (Nat.le_refl _) (.cells #[.slice (some ⟨g, 0, none⟩) n cap] 26)).alloc (by simp) (.cells #[.int .i64 th, .int .i64 tv, .int .i64 tm, .int .i64 td] 31)).alloc (by simp <;> omega) (.cells #[.int .i64 0, .int .i64 0, .int .i64 0, .int .i64 0, .int .i64 0, .int .i64 0, .int .i64 0] 145)
  have hp0 : FBox (((w.alloc (.cells #[.slice (some ⟨g, 0, none⟩) n cap] 26)).alloc (.cells #[.int .i64 th, .int .i64 tv, .int .i64 tm, .int .i64 td] 31)).alloc (.cells #[.int .i64 0, .int .i64 0, .int .i64 0, .int .i64 0, .int .i64 0, .int .i64 0, .int .i64 0] 145)) w.heap.size th tv tm td := by
    refine ⟨?_, ?_, ?_, ?_, ?_, ?_, ?_, ?_, ?_, ?_, ?_, fun o => ?_⟩ <;> go_simp
  have HP0 := Lib.hid hp0
  have HR := Lib.hid (hr.below hb0)
  have HL := Lib.hid (hl.below hb0)
  have HB0 := Lib.hid hb0
  have HN := Lib.hid hn
  clear hr hn hl hb0 hp0
  cases h : loadsV js ls
  · have H := Lib.hid h
    have HV := Lib.hid (phV_no (phOk_l (h := th) (v := tv) (m := tm) (d := td) (k := k) h))
    clear h
    go_enter Try.func93, Try.ntmps93
    go_wp2_with fail
    refine (loadNo _ _ _ _ _ _ _ _ _ js ls HR.out HN.out HL.out H.out).mono ?_
    rintro e w1 ⟨rfl, hb1⟩
    have HB1 := Lib.hid (HB0.out.trans (hb1.mono HB0.out.size))
    have hp1 := HP0.out.below hb1
    have hlt : w.heap.size + 1 + 1 < w1.heap.size := cell_block_lt hp1.2.2.2.2.1
    clear hb1
    obtain ⟨t0, t1, t2, t3, p0, p1, p2, p3, p4, p5, p6, fz⟩ := id hp1
    go_wp2_with fail
    refine World.any (p := fun W => bodyPost _ _ _ _ _ W) (fun Z hW => ?_)
    obtain ⟨HBW, z0, z1, z2, z3, z4, z5, z6⟩ := fbox_end hp1 HB1.out _ _ _ _ _ _ _ (show Below _ (set7 w1 (w.heap.size + 1 + 1) (.int .i64 0) (.int .i64 0) (.int .i64 0) (.int .i64 0) (.int .i64 0) (.int .i64 0) (.int .i64 0)) Z by subst hW; exact al_below _ _)
    clear hW
    refine bodyPost_ret (v := .tuple #[.agg #[.int .i64 0, .int .i64 0, .int .i64 0, .int .i64 0, .int .i64 0, .int .i64 0, .int .i64 0], .bool false]) (by simp [results, Try.results93, go_sem, z0, z1, z2, z3, z4, z5, z6]) rfl ⟨by rw [HV.out], HBW⟩
  · have H := Lib.hid h
    go_enter Try.func93, Try.ntmps93
    go_wp2_with fail
    refine (loadYes _ _ _ _ _ _ _ _ _ js ls HR.out HN.out HL.out H.out).mono ?_
    rintro e w1 ⟨sg, sc, rfl, hbu, hb1⟩
    have hal := al_below w1 (.cells #[.slice (some ⟨g, 0, none⟩) n cap, .slice (some ⟨sg, 0, none⟩) (n - 1) sc, .slice la m lc] 159)
    have HBU := Lib.hid (hbu.below hal)
    have HL1 := Lib.hid ((HL.out.below hb1).below hal)
    have HR1 := Lib.hid ((HR.out.below hb1).below hal)
    have HP1 := Lib.hid ((HP0.out.below hb1).below hal)
    have hb1' := HB0.out.trans (hb1.mono HB0.out.size)
    have HB1 := Lib.hid (hb1'.trans (hal.mono hb1'.size))
    have x0 : (w1.alloc (.cells #[.slice (some ⟨g, 0, none⟩) n cap, .slice (some ⟨sg, 0, none⟩) (n - 1) sc, .slice la m lc] 159)).cell? ⟨w1.heap.size, 0, none⟩ = some (.slice (some ⟨g, 0, none⟩) n cap) := by go_simp
    have x1 : (w1.alloc (.cells #[.slice (some ⟨g, 0, none⟩) n cap, .slice (some ⟨sg, 0, none⟩) (n - 1) sc, .slice la m lc] 159)).cell? ⟨w1.heap.size, 1, none⟩ = some (.slice (some ⟨sg, 0, none⟩) (n - 1) sc) := by go_simp
    have x2 : (w1.alloc (.cells #[.slice (some ⟨g, 0, none⟩) n cap, .slice (some ⟨sg, 0, none⟩) (n - 1) sc, .slice la m lc] 159)).cell? ⟨w1.heap.size, 2, none⟩ = some (.slice la m lc) := by go_simp
    have hlt1 : w.heap.size + 1 + 1 < w1.heap.size := cell_block_lt (HP0.out.below hb1).2.2.2.2.1
    clear hb1 hbu hal hb1' HR HL HP0 HB0
    obtain ⟨t0, t1, t2, t3, -⟩ := id HP1.out
    go_wp2_with fail
    generalize hX : w1.alloc (.cells #[.slice (some ⟨g, 0, none⟩) n cap, .slice (some ⟨sg, 0, none⟩) (n - 1) sc, .slice la m lc] 159) = X at *
    have hlt2 : w1.heap.size < X.heap.size := cell_block_lt x0
    clear hX
    refine (isValidT _ _ _ _ _).mono ?_
    rintro e w2 ⟨rfl, hb2⟩
    have HP2 := Lib.hid (HP1.out.below hb2)
    have HB2 := Lib.hid (HB1.out.trans (hb2.mono HB1.out.size))
    have HBU2 := Lib.hid (HBU.out.below hb2)
    have HL2 := Lib.hid (HL1.out.below hb2)
    have HR2 := Lib.hid (HR1.out.below hb2)
    have y0 := cell_kept x0 hb2
    have y1 := cell_kept x1 hb2
    have y2 := cell_kept x2 hb2
    clear hb2 x0 x1 x2 t0 t1 t2 t3 HP1 HB1 HBU HL1 HR1
    cases ht : okT th tv tm td
    · have HV := Lib.hid (phV_no (phOk_t (js := js) (ls := ls) (k := k) ht))
      clear ht h
      obtain ⟨t0, t1, t2, t3, p0, p1, p2, p3, p4, p5, p6, fz⟩ := id HP2.out
      go_wp2_with fail
      refine World.any (p := fun W => bodyPost _ _ _ _ _ W) (fun Z hW => ?_)
      obtain ⟨HBW, z0, z1, z2, z3, z4, z5, z6⟩ := fbox_end HP2.out HB2.out _ _ _ _ _ _ _ (show Below _ (set7 _ (w.heap.size + 1 + 1) (.int .i64 0) (.int .i64 0) (.int .i64 0) (.int .i64 0) (.int .i64 0) (.int .i64 0) (.int .i64 0)) Z by subst hW; exact Below.refl _ _)
      clear hW
      refine bodyPost_ret (v := .tuple #[.agg #[.int .i64 0, .int .i64 0, .int .i64 0, .int .i64 0, .int .i64 0, .int .i64 0, .int .i64 0], .bool false]) (by simp [results, Try.results93, go_sem, z0, z1, z2, z3, z4, z5, z6]) rfl ⟨by rw [HV.out], HBW⟩
    · go_wp2_with fail
      refine (hasJoint _ n _ k _).mono ?_
      rintro e w3 ⟨rfl, rfl⟩
      by_cases hk : 0 ≤ k ∧ k < (n : Int)
      · obtain ⟨K, rfl⟩ : ∃ K : Nat, k = K := ⟨k.toNat, by omega⟩
        rw [decide_eq_true hk]
        have hV := phV_yes (phOk_yes h ht (k := (K : Int)) (by rw [HN.out]; omega))
        obtain ⟨hbw, hbm, hbu, hbt⟩ := ph_bd (K : Int) h ht
        obtain ⟨a0, a1, a2, a3⟩ := HR2.out.cells K (by rw [HN.out]; omega)
        have hlt := HR2.out.lt
        have HK := Lib.hid hk
        have hK0 : (0 : Int) ≤ (K : Int) := Int.natCast_nonneg _
        have hKn : (K : Int) < (n : Int) := hk.2
        obtain ⟨-, hgw, hcap, hcm⟩ := hlt
        rw [HN.out] at hcap
        unfold maxLen at hcm
        have HBL := Lib.hid (burdenLeft _ _ _ g n cap _ _ _ _ _ js ls (K : Int) HBU2.out HL2.out H.out HN.out)
        rw [show ((K : Int)).toNat = K from rfl] at hV
        generalize leftF wL js ls (K : Int) = W at *
        generalize leftF mL js ls (K : Int) = M at *
        generalize (jt js K).1.1 = x at *
        generalize (jt js K).1.2 = y at *
        generalize (jt js K).2.1 = z at *
        generalize (jt js K).2.2 = u at *
        have HV := Lib.hid hV
        have e1 : IntKind.i64.wrap (td * W) = td * W := IntWalk.i64_in _ (by omega)
        have e2 : IntKind.i64.wrap (tv - td * W) = tv - td * W := IntWalk.i64_in _ (by omega)
        have e3 : IntKind.i64.wrap (td * M) = td * M := IntWalk.i64_in _ (by omega)
        have e4 : IntKind.i64.wrap (tm - td * M) = tm - td * M := IntWalk.i64_in _ (by omega)
        clear hbw hbm hbu hbt hV h ht hk HR2 HL2 HBU2
        go_wp2_with fail
        refine HBL.out.mono ?_
        rintro e w4 ⟨rfl, hb4⟩
        have hal := al_below w4 (.cells #[.int .i64 W, .int .i64 M] 165)
        have HP4 := Lib.hid ((HP2.out.below hb4).below hal)
        have hb4' := HB2.out.trans (hb4.mono HB2.out.size)
        have HB4 := Lib.hid (hb4'.trans (hal.mono hb4'.size))
        have v0 := cell_kept (cell_kept y0 hb4) hal
        have b0 := cell_kept (cell_kept a0 hb4) hal
        have b1 := cell_kept (cell_kept a1 hb4) hal
        have b2 := cell_kept (cell_kept a2 hb4) hal
        have b3 := cell_kept (cell_kept a3 hb4) hal
        have l0 : (w4.alloc (.cells #[.int .i64 W, .int .i64 M] 165)).cell? ⟨w4.heap.size, 0, none⟩ = some (.int .i64 W) := by go_simp
        have l1 : (w4.alloc (.cells #[.int .i64 W, .int .i64 M] 165)).cell? ⟨w4.heap.size, 1, none⟩ = some (.int .i64 M) := by go_simp
        clear hb4 hb4' hal y0 y1 y2 a0 a1 a2 a3 HP2 HB2 HBL
        obtain ⟨t0, t1, t2, t3, p0, p1, p2, p3, p4, p5, p6, fz⟩ := id HP4.out
        go_upto_region 5 with (fail)
        generalize hX : w4.alloc (.cells #[.int .i64 W, .int .i64 M] 165) = X at *
        clear hX
        have HBX : RowKit.Hid (Below w.heap.size w X) := HB4
        have lX1 := cell_block_lt t0
        have lX2 := cell_block_lt v0
        have lX3 := cell_block_lt b0
        have lX4 := cell_block_lt l0
        dsimp only at lX1 lX2 lX3 lX4
        go_region_held3 (fun w' => w'.cell? ⟨w.heap.size + 1, 0, none⟩ = some (.int .i64 th) ∧ w'.cell? ⟨w.heap.size + 1, 1, none⟩ = some (.int .i64 tv) ∧ w'.cell? ⟨w.heap.size + 1, 2, none⟩ = some (.int .i64 tm) ∧ w'.cell? ⟨w.heap.size + 1, 3, none⟩ = some (.int .i64 td) ∧
          w'.cell? ⟨w1.heap.size, 0, none⟩ = some (.slice (some ⟨g, 0, none⟩) n cap) ∧ w'.cell? ⟨w4.heap.size, 0, none⟩ = some (.int .i64 W) ∧ w'.cell? ⟨w4.heap.size, 1, none⟩ = some (.int .i64 M) ∧
          w'.cell? ⟨g, K * 4, none⟩ = some (.int .i64 x) ∧ w'.cell? ⟨g, K * 4 + 1, none⟩ = some (.int .i64 y) ∧ w'.cell? ⟨g, K * 4 + 2, none⟩ = some (.int .i64 z) ∧ w'.cell? ⟨g, K * 4 + 3, none⟩ = some (.int .i64 u))
          (first | go_keep | trivial)
          (fail)
        clear t0 t1 t2 t3 p0 p1 p2 p3 p4 p5 p6 fz v0 b0 b1 b2 b3 l0 l1
        have hal : Below X.heap.size X (X.alloc (.cells #[.int .i64 x, .int .i64 y, .int .i64 z, .int .i64 u, .int .i64 th, .int .i64 (tv - td * W), .int .i64 (tm - td * M)] 145)).drew := tbelowD (al_below _ _)
        have HP5 := Lib.hid (HP4.out.below hal)
        have HB5 := Lib.hid (HB4.out.trans (hal.mono HB4.out.size))
        have q0 : (X.alloc (.cells #[.int .i64 x, .int .i64 y, .int .i64 z, .int .i64 u, .int .i64 th, .int .i64 (tv - td * W), .int .i64 (tm - td * M)] 145)).drew.cell? ⟨X.heap.size, 0, none⟩ = some (.int .i64 x) := by go_simp
        have q1 : (X.alloc (.cells #[.int .i64 x, .int .i64 y, .int .i64 z, .int .i64 u, .int .i64 th, .int .i64 (tv - td * W), .int .i64 (tm - td * M)] 145)).drew.cell? ⟨X.heap.size, 1, none⟩ = some (.int .i64 y) := by go_simp
        have q2 : (X.alloc (.cells #[.int .i64 x, .int .i64 y, .int .i64 z, .int .i64 u, .int .i64 th, .int .i64 (tv - td * W), .int .i64 (tm - td * M)] 145)).drew.cell? ⟨X.heap.size, 2, none⟩ = some (.int .i64 z) := by go_simp
        have q3 : (X.alloc (.cells #[.int .i64 x, .int .i64 y, .int .i64 z, .int .i64 u, .int .i64 th, .int .i64 (tv - td * W), .int .i64 (tm - td * M)] 145)).drew.cell? ⟨X.heap.size, 3, none⟩ = some (.int .i64 u) := by go_simp
        have q4 : (X.alloc (.cells #[.int .i64 x, .int .i64 y, .int .i64 z, .int .i64 u, .int .i64 th, .int .i64 (tv - td * W), .int .i64 (tm - td * M)] 145)).drew.cell? ⟨X.heap.size, 4, none⟩ = some (.int .i64 th) := by go_simp
        have q5 : (X.alloc (.cells #[.int .i64 x, .int .i64 y, .int .i64 z, .int .i64 u, .int .i64 th, .int .i64 (tv - td * W), .int .i64 (tm - td * M)] 145)).drew.cell? ⟨X.heap.size, 5, none⟩ = some (.int .i64 (tv - td * W)) := by go_simp
        have q6 : (X.alloc (.cells #[.int .i64 x, .int .i64 y, .int .i64 z, .int .i64 u, .int .i64 th, .int .i64 (tv - td * W), .int .i64 (tm - td * M)] 145)).drew.cell? ⟨X.heap.size, 6, none⟩ = some (.int .i64 (tm - td * M)) := by go_simp
        have lt0 := cell_block_lt HP4.out.2.2.2.2.1
        dsimp only at lt0
        have lt1 := Nat.ne_of_lt lt0
        clear hal HP4 HB4 HBX
        generalize (X.alloc (.cells #[.int .i64 x, .int .i64 y, .int .i64 z, .int .i64 u, .int .i64 th, .int .i64 (tv - td * W), .int .i64 (tm - td * M)] 145)).drew = Y at *
        obtain ⟨t0, t1, t2, t3, p0, p1, p2, p3, p4, p5, p6, fz⟩ := id HP5.out
        go_wp2_with fail
        refine World.any (p := fun W => bodyPost _ _ _ _ _ W) (fun Z hW => ?_)
        obtain ⟨HBW, z0, z1, z2, z3, z4, z5, z6⟩ := fbox_end HP5.out HB5.out _ _ _ _ _ _ _ (show Below _ (set7 _ (w.heap.size + 1 + 1) (.int .i64 x) (.int .i64 y) (.int .i64 z) (.int .i64 u) (.int .i64 th) (.int .i64 (tv - td * W)) (.int .i64 (tm - td * M))) Z by subst hW; exact Below.refl _ _)
        clear hW
        refine bodyPost_ret (v := .tuple #[.agg #[.int .i64 x, .int .i64 y, .int .i64 z, .int .i64 u, .int .i64 th, .int .i64 (tv - td * W), .int .i64 (tm - td * M)], .bool true]) (by simp [results, Try.results93, go_sem, z0, z1, z2, z3, z4, z5, z6]) rfl ⟨by rw [HV.out], HBW⟩
      · rw [decide_eq_false hk]
        have HV := Lib.hid (phV_no (phOk_k (js := js) (ls := ls) (h := th) (v := tv) (m := tm) (d := td) (k := k) (by rw [HN.out]; omega)))
        clear ht h hk
        obtain ⟨t0, t1, t2, t3, p0, p1, p2, p3, p4, p5, p6, fz⟩ := id HP2.out
        go_wp2_with fail
        refine World.any (p := fun W => bodyPost _ _ _ _ _ W) (fun Z hW => ?_)
        obtain ⟨HBW, z0, z1, z2, z3, z4, z5, z6⟩ := fbox_end HP2.out HB2.out _ _ _ _ _ _ _ (show Below _ (set7 _ (w.heap.size + 1 + 1) (.int .i64 0) (.int .i64 0) (.int .i64 0) (.int .i64 0) (.int .i64 0) (.int .i64 0) (.int .i64 0)) Z by subst hW; exact Below.refl _ _)
        clear hW
        refine bodyPost_ret (v := .tuple #[.agg #[.int .i64 0, .int .i64 0, .int .i64 0, .int .i64 0, .int .i64 0, .int .i64 0, .int .i64 0], .bool false]) (by simp [results, Try.results93, go_sem, z0, z1, z2, z3, z4, z5, z6]) rfl ⟨by rw [HV.out], HBW⟩
end Go.Proofs.Ytbmlcfdilopmgaa

/- The program's PushAt, MomentsAt, IsInside, PlaceAt. -/
namespace Go.Proofs.Ytbmlcfdilopmgaa
set_option maxRecDepth 100000
open Go.ChangeShapes Go.WideShapes Go.ChangeAt Go.RowKit

theorem phV_any (js : List Jt) (ls : List Ld) (h v m d k : Int) : ∃ (x y z u r q t : Int) (ok : Bool), phV js ls h v m d k = .tuple #[.agg #[.int .i64 x, .int .i64 y, .int .i64 z, .int .i64 u, .int .i64 r, .int .i64 q, .int .i64 t], .bool ok] ∧
    phA js ls h v m d k = abtV t q r x y ∧ phB js ls h v m d k = abtV t q r z u ∧ phH js ls h v m d k = r ∧ phU js ls h v m d k = q ∧ phOk js ls h v m d k = ok ∧ AbtBd t q r x y ∧ AbtBd t q r z u :=
  let b := ph_in js ls h v m d k
  ⟨_, _, _, _, _, _, _, _, rfl, rfl, rfl, rfl, rfl, rfl, abt_bd b.t b.u b.r b.ax b.ay, abt_bd b.t b.u b.r b.bx b.ly⟩


set_option maxHeartbeats 1000000 in
theorem implMomentsAt (w : World) (B B2 g cap n : Nat) (la : Option Addr) (m lc : Nat) (js : List Jt) (ls : List Ld) (th tv tm td k : Int) (hr : JRowAt w B g cap js) (hn : js.length = n) (hl : Lds w B2 la m lc ls) :
    Calls Try.prog 80 #[.agg #[.slice (some ⟨g, 0, none⟩) n cap], .slice la m lc, .agg #[.int .i64 th, .int .i64 tv, .int .i64 tm, .int .i64 td], .int .i64 k] w fun e w' => e = .returned (.tuple #[.int .i64 (phA js ls th tv tm td k), .int .i64 (phB js ls th tv tm td k)]) ∧ Below w.heap.size w w' := by
  have hb0 := ((Below.refl w.heap.size w).alloc (Nat.le_refl _) (.cells #[.slice (some ⟨g, 0, none⟩) n cap] 26)).alloc (by simp) (.cells #[.int .i64 th, .int .i64 tv, .int .i64 tm, .int .i64 td] 31)
  have HR := Lib.hid (hr.below hb0)
  have HL := Lib.hid (hl.below hb0)
  have HB0 := Lib.hid hb0
  have HN := Lib.hid hn
  clear hr hn hl hb0
  obtain ⟨x, y, z, u, r, q, t, ok, hv, hA, hB, hH, hU, hO, ba, bb⟩ := phV_any js ls th tv tm td k
  have HF := Lib.hid (fun w B B2 la hr hn hl => findPush w B B2 g cap n la m lc js ls th tv tm td k hr hn hl)
  rw [hv] at HF
  clear hv
  have HE := Lib.hid (fun W => atEnds x y z u r q t x y z u W ba bb)
  rw [hA, hB]
  generalize abtV t q r x y = a at *
  generalize abtV t q r z u = b at *
  clear hA hB hH hU hO ba bb
  go_enter Try.func80, Try.ntmps80
  go_wp2_with fail
  refine (HF.out _ _ _ _ HR.out HN.out HL.out).mono ?_
  rintro e w1 ⟨rfl, hb1⟩
  have hal := al_below w1 (.cells #[.int .i64 x, .int .i64 y, .int .i64 z, .int .i64 u, .int .i64 r, .int .i64 q, .int .i64 t] 145)
  have hb1' := HB0.out.trans (hb1.mono HB0.out.size)
  have HB1 := Lib.hid (hb1'.trans (hal.mono hb1'.size))
  have q0 : (w1.alloc (.cells #[.int .i64 x, .int .i64 y, .int .i64 z, .int .i64 u, .int .i64 r, .int .i64 q, .int .i64 t] 145)).cell? ⟨w1.heap.size, 0, none⟩ = some (.int .i64 x) := by go_simp
  have q1 : (w1.alloc (.cells #[.int .i64 x, .int .i64 y, .int .i64 z, .int .i64 u, .int .i64 r, .int .i64 q, .int .i64 t] 145)).cell? ⟨w1.heap.size, 1, none⟩ = some (.int .i64 y) := by go_simp
  have q2 : (w1.alloc (.cells #[.int .i64 x, .int .i64 y, .int .i64 z, .int .i64 u, .int .i64 r, .int .i64 q, .int .i64 t] 145)).cell? ⟨w1.heap.size, 2, none⟩ = some (.int .i64 z) := by go_simp
  have q3 : (w1.alloc (.cells #[.int .i64 x, .int .i64 y, .int .i64 z, .int .i64 u, .int .i64 r, .int .i64 q, .int .i64 t] 145)).cell? ⟨w1.heap.size, 3, none⟩ = some (.int .i64 u) := by go_simp
  have q4 : (w1.alloc (.cells #[.int .i64 x, .int .i64 y, .int .i64 z, .int .i64 u, .int .i64 r, .int .i64 q, .int .i64 t] 145)).cell? ⟨w1.heap.size, 4, none⟩ = some (.int .i64 r) := by go_simp
  have q5 : (w1.alloc (.cells #[.int .i64 x, .int .i64 y, .int .i64 z, .int .i64 u, .int .i64 r, .int .i64 q, .int .i64 t] 145)).cell? ⟨w1.heap.size, 5, none⟩ = some (.int .i64 q) := by go_simp
  have q6 : (w1.alloc (.cells #[.int .i64 x, .int .i64 y, .int .i64 z, .int .i64 u, .int .i64 r, .int .i64 q, .int .i64 t] 145)).cell? ⟨w1.heap.size, 6, none⟩ = some (.int .i64 t) := by go_simp
  clear hb1 hb1' hal HR HL HB0 HF
  go_wp2_with fail
  refine (HE.out _).mono ?_
  rintro e w2 ⟨rfl, hb2⟩
  have HB2 := Lib.hid (HB1.out.trans (hb2.mono HB1.out.size))
  clear hb2 HE
  go_wp2_with fail
  refine bodyPost_ret (v := .tuple #[.int .i64 a, .int .i64 b]) (by simp [results, Try.results80, go_sem]) rfl ⟨rfl, HB2.out⟩


theorem gTo_two (a b : Int) : gTo [a, b] 2 = Nat.gcd a.natAbs b.natAbs := by
  show Nat.gcd (Nat.gcd 0 a.natAbs) b.natAbs = _
  rw [Nat.gcd_zero_left]

set_option maxHeartbeats 1000000 in
theorem implPlaceAt (w : World) (B B2 g cap n : Nat) (la : Option Addr) (m lc : Nat) (js : List Jt) (ls : List Ld) (th tv tm td k : Int) (hr : JRowAt w B g cap js) (hn : js.length = n) (hl : Lds w B2 la m lc ls) :
    Calls Try.prog 59 #[.agg #[.slice (some ⟨g, 0, none⟩) n cap], .slice la m lc, .agg #[.int .i64 th, .int .i64 tv, .int .i64 tm, .int .i64 td], .int .i64 k] w fun e w' => e = .returned (plV (phA js ls th tv tm td k) (phB js ls th tv tm td k)) ∧ Below w.heap.size w w' := by
  have hb0 := ((Below.refl w.heap.size w).alloc (Nat.le_refl _) (.cells #[.slice (some ⟨g, 0, none⟩) n cap] 26)).alloc (by simp) (.cells #[.int .i64 th, .int .i64 tv, .int .i64 tm, .int .i64 td] 31)
  have HR := Lib.hid (hr.below hb0)
  have HL := Lib.hid (hl.below hb0)
  have HB0 := Lib.hid hb0
  have HN := Lib.hid hn
  clear hr hn hl hb0
  have HM := Lib.hid (fun w B B2 la hr hn hl => implMomentsAt w B B2 g cap n la m lc js ls th tv tm td k hr hn hl)
  have ba := phA_bd js ls th tv tm td k
  have bb := phB_bd js ls th tv tm td k
  generalize phA js ls th tv tm td k = a at *
  generalize phB js ls th tv tm td k = b at *
  have wa : IntKind.i64.wrap (-a) = -a := IntWalk.i64_in _ (by omega)
  have wb : IntKind.i64.wrap (b - a) = b - a := IntWalk.i64_in _ (by omega)
  cases hp : passV a b
  · have HV := Lib.hid (plV_no (a := a) (b := b) (by unfold plOk; rw [hp]; rfl))
    go_enter Try.func59, Try.ntmps59
    go_wp2_with fail
    refine (HM.out _ _ _ _ HR.out HN.out HL.out).mono ?_
    rintro e w1 ⟨rfl, hb1⟩
    have HB1 := Lib.hid (HB0.out.trans (hb1.mono HB0.out.size))
    clear hb1 HR HL HB0 HM
    go_wp2_with fail
    refine (passesBetween _ _ _).mono ?_
    rintro e w3 ⟨rfl, rfl⟩
    rw [hp]
    go_wp2_with fail
    refine bodyPost_ret (v := .tuple #[.int .i64 0, .int .i64 0, .bool false]) (by simp [results, Try.results59, go_sem]) rfl ⟨by rw [HV.out], HB1.out⟩
  by_cases he : a = b
  · have HV := Lib.hid (plV_no (a := a) (b := b) (plOk_no.2 (by omega)))
    have he' : (a == b) = true := by simpa using he
    clear he
    go_enter Try.func59, Try.ntmps59
    go_wp2_with fail
    refine (HM.out _ _ _ _ HR.out HN.out HL.out).mono ?_
    rintro e w1 ⟨rfl, hb1⟩
    have HB1 := Lib.hid (HB0.out.trans (hb1.mono HB0.out.size))
    clear hb1 HR HL HB0 HM
    go_wp2_with fail
    refine (passesBetween _ _ _).mono ?_
    rintro e w3 ⟨rfl, rfl⟩
    rw [hp]
    go_wp2_with fail
    refine bodyPost_ret (v := .tuple #[.int .i64 0, .int .i64 0, .bool false]) (by simp [results, Try.results59, go_sem]) rfl ⟨by rw [HV.out], HB1.out⟩
  · have hok : plOk a b = true := plOk_iff.2 (by have := passV_iff.1 hp; omega)
    have hg0 : ¬ plG a b = 0 := by have := plG_pos hok; omega
    have bN := plN_bd (x := -a) (a := a) (b := b)
    have bD := plN_bd (x := b - a) (a := a) (b := b)
    have hV := plV_yes hok
    have HG : RowKit.Hid (((gTo [-a, b - a] 2 : Nat) : Int) = plG a b) := Lib.hid (by rw [gTo_two]; rfl)
    obtain ⟨G, hG⟩ : ∃ G, plG a b = G := ⟨_, rfl⟩
    rw [hG] at hg0 bN bD hV HG
    obtain ⟨p, hP⟩ : ∃ p, (-a).tdiv G = p := ⟨_, rfl⟩
    obtain ⟨q, hQ⟩ : ∃ q, (b - a).tdiv G = q := ⟨_, rfl⟩
    rw [hP] at bN hV
    rw [hQ] at bD hV
    have wp_ : IntKind.i64.wrap p = p := IntWalk.i64_in _ (by omega)
    have wq : IntKind.i64.wrap q = q := IntWalk.i64_in _ (by omega)
    have HV := Lib.hid hV
    have he' : (a == b) = false := by simpa using he
    have HQ2 := Lib.hid (show (-a).natAbs ≤ 9223372036854775807 ∧ (b - a).natAbs ≤ 9223372036854775807 by omega)
    clear hok bN bD hG he ba bb hV
    go_enter Try.func59, Try.ntmps59
    go_wp2_with fail
    refine (HM.out _ _ _ _ HR.out HN.out HL.out).mono ?_
    rintro e w1 ⟨rfl, hb1⟩
    have HB1 := Lib.hid (HB0.out.trans (hb1.mono HB0.out.size))
    clear hb1 HR HL HB0 HM
    go_wp2_with fail
    refine (passesBetween _ _ _).mono ?_
    rintro e w3 ⟨rfl, rfl⟩
    rw [hp]
    go_wp2_with fail
    refine (implGcd [-a, b - a] _ 2 _ _ rfl (by omega) ?_).mono ?_
    · obtain ⟨ha, hb⟩ := HQ2.out
      intro k hk
      match k, hk with
      | 0, _ => exact ⟨by go_simp, by show (-a).natAbs ≤ _; omega⟩
      | 1, _ => exact ⟨by go_simp, by show (b - a).natAbs ≤ _; omega⟩
    · rintro e w2 ⟨rfl, hb2⟩
      rw [HG.out]
      have HB2 := Lib.hid ((HB1.out.alloc HB1.out.size (.cells #[.int .i64 (-a), .int .i64 (b - a)] 3)).trans (hb2.mono (by have := HB1.out.size; simp <;> omega)))
      clear hb2
      go_wp2_with fail
      go_quiet (fail)
      go_wp2_with fail
      refine bodyPost_ret (v := .tuple #[.int .i64 p, .int .i64 q, .bool true]) (by simp [results, Try.results59, go_sem]) rfl ⟨by rw [HV.out], ?_⟩
      exact below_drewN HB2.out _
end Go.Proofs.Ytbmlcfdilopmgaa
