/- Arches, plainly: what the functions on an arch answer, as functions of the list of joints. -/
import Derived.Test.YtoholdpobkgffaaArchP
namespace Go.Proofs.Ytoholdpobkgffaa
set_option maxRecDepth 100000

/-- Whether Inner grows to the right behind joint i. -/
def growV (js : List Jt) (i : Nat) : Bool := decide ((jt js i).1.1 < (jt js (i + 1)).1.1)
/-- Whether there is a stone behind joint i. -/
def betOk (js : List Jt) (i : Nat) : Bool := stoneV (betw (jt js i) (jt js (i + 1)))
theorem archV_parts (js : List Jt) : archV js = (decide (3 ≤ js.length ∧ js.length ≤ 8) && (allV (js.length - 1) (growV js) && allV (js.length - 1) (betOk js))) := by
  have h : linksV js = (allV (js.length - 1) (betOk js) && allV (js.length - 1) (growV js)) := by unfold linksV; rw [← allV_and]; rfl
  unfold archV
  rw [h]
  cases allV (js.length - 1) (betOk js) <;> cases allV (js.length - 1) (growV js) <;> cases decide (3 ≤ js.length ∧ js.length ≤ 8) <;> rfl
theorem arch_size {js : List Jt} (h : archV js = true) : 3 ≤ js.length ∧ js.length ≤ 8 := (archV_iff.1 h).2
theorem arch_bet {js : List Jt} (h : archV js = true) {i : Nat} (hi : i + 1 < js.length) : stoneV (betw (jt js i) (jt js (i + 1))) = true := (link_stone ((archV_iff.1 h).1 i hi)).1
theorem arch_grow {js : List Jt} (h : archV js = true) {i : Nat} (hi : i + 1 < js.length) : (jt js i).1.1 < (jt js (i + 1)).1.1 := (link_stone ((archV_iff.1 h).1 i hi)).2
theorem bet_right {a : Jt} {ix iy ox oy : Int} (hs : stoneV (betw a ((ix, iy), (ox, oy))) = true) : okP ix iy = true ∧ okP ox oy = true :=
  ⟨stone_valid hs 1 (by show 1 < 4; omega), stone_valid hs 2 (by show 2 < 4; omega)⟩
theorem bet_left {b : Jt} {ix iy ox oy : Int} (hs : stoneV (betw ((ix, iy), (ox, oy)) b) = true) : okP ix iy = true ∧ okP ox oy = true :=
  ⟨stone_valid hs 0 (by show 0 < 4; omega), stone_valid hs 3 (by show 3 < 4; omega)⟩
/-- The joints of an arch are in range. -/
theorem arch_ok {js : List Jt} (h : archV js = true) {i : Nat} (hi : i < js.length) : okP (jt js i).1.1 (jt js i).1.2 = true ∧ okP (jt js i).2.1 (jt js i).2.2 = true := by
  have h3 := arch_size h
  by_cases hl : i + 1 < js.length
  · exact bet_left (arch_bet h hl)
  · obtain ⟨k, rfl⟩ : ∃ k, i = k + 1 := ⟨i - 1, by omega⟩
    exact bet_right (arch_bet h (i := k) hi)
theorem arch_joint {js : List Jt} (h : archV js = true) {i : Nat} (hi : i < js.length) : okJ (jt js i).1.1 (jt js i).1.2 (jt js i).2.1 (jt js i).2.2 = true := by
  have h3 := arch_size h
  by_cases hl : i + 1 < js.length
  · exact bet_joint (arch_bet h hl)
  · obtain ⟨k, rfl⟩ : ∃ k, i = k + 1 := ⟨i - 1, by omega⟩
    have ho := arch_ok h hi
    have hb := arch_bet h (i := k) hi
    refine okJ_iff.2 ⟨ho.1, ho.2, fun ⟨e1, e2⟩ => ?_⟩
    have hp : (jt js (k + 1)).1 = (jt js (k + 1)).2 := Prod.ext e1 e2
    unfold stoneV turnsC at hb
    simp only [Bool.and_eq_true] at hb
    have ht := allV_iff.1 hb.2.1.2 1 (by show 1 < 4; omega)
    unfold turnC at ht
    obtain ⟨c0, c1, c2, c3, c4, c5⟩ := betw_cn (jt js k) (jt js (k + 1))
    rw [c1, show 1 + 1 = 2 from rfl, c2, hp] at ht
    have : sid (jt js (k + 1)).2 (jt js (k + 1)).2 (cn (betw (jt js k) (jt js (k + 1))) 3) = 0 := side_none _ _ _ _
    rw [show 1 + 2 = 3 from rfl, this] at ht
    simp at ht

/-- What CountStones answers. -/
def cntV (js : List Jt) : Int := if archV js then (js.length : Int) - 1 else 0
theorem cntV_yes {js : List Jt} (h : archV js = true) : cntV js = (js.length : Int) - 1 := by unfold cntV; rw [h]; rfl
theorem cntV_no {js : List Jt} (h : archV js = false) : cntV js = 0 := by unfold cntV; rw [h]; rfl
/-- What StoneOf answers: the corners. -/
def soV (js : List Jt) (k : Int) : List (Int × Int) := if archV js = true ∧ 0 ≤ k ∧ k < (js.length : Int) - 1 then betw (jt js k.toNat) (jt js (k.toNat + 1)) else []
theorem soV_yes {js : List Jt} (h : archV js = true) {k : Nat} (hk : k + 1 < js.length) : soV js k = betw (jt js k) (jt js (k + 1)) := by
  unfold soV
  rw [if_pos ⟨h, by omega, by omega⟩]
  rfl
theorem soV_arch {js : List Jt} (h : archV js = false) (k : Int) : soV js k = [] := by unfold soV; rw [if_neg (by rw [h]; simp)]
theorem soV_no {js : List Jt} {k : Int} (hk : ¬ (0 ≤ k ∧ k < (js.length : Int) - 1)) : soV js k = [] := by unfold soV; rw [if_neg (fun h => hk h.2)]
theorem soV_length (js : List Jt) (k : Int) : (soV js k).length ≤ 4 := by unfold soV; split <;> simp [betw]
/-- What SpanOf answers. -/
def spanV (js : List Jt) : Int := if archV js then (jt js (js.length - 1)).1.1 - (jt js 0).1.1 else 0
theorem spanV_yes {js : List Jt} (h : archV js = true) : spanV js = (jt js (js.length - 1)).1.1 - (jt js 0).1.1 := by unfold spanV; rw [h]; rfl
theorem spanV_no {js : List Jt} (h : archV js = false) : spanV js = 0 := by unfold spanV; rw [h]; rfl
/-- The greatest Y of the first Inner and of the first k. -/
def topY (js : List Jt) : Nat → Int
  | 0 => (jt js 0).1.2
  | k + 1 => max (topY js k) (jt js k).1.2
theorem topY_bd {js : List Jt} (h : archV js = true) (k : Nat) (hk : k ≤ js.length) : -60 ≤ topY js k ∧ topY js k ≤ 60 := by
  have h3 := arch_size h
  induction k with
  | zero =>
    have := okP_iff.1 (arch_ok h (i := 0) (by omega)).1
    unfold topY
    omega
  | succ k ih =>
    have := okP_iff.1 (arch_ok h (i := k) (by omega)).1
    have := ih (by omega)
    unfold topY
    omega
theorem topY_ge (js : List Jt) (k : Nat) : (jt js 0).1.2 ≤ topY js k := by
  induction k with
  | zero => exact Int.le_refl _
  | succ k ih => unfold topY; omega
/-- What RiseOf answers. -/
def riseV (js : List Jt) : Int := if archV js then topY js js.length - min (jt js 0).1.2 (jt js (js.length - 1)).1.2 else 0
theorem riseV_yes {js : List Jt} (h : archV js = true) : riseV js = topY js js.length - min (jt js 0).1.2 (jt js (js.length - 1)).1.2 := by unfold riseV; rw [h]; rfl
theorem riseV_no {js : List Jt} (h : archV js = false) : riseV js = 0 := by unfold riseV; rw [h]; rfl

/-- The image of a joint. -/
def mirJ (x : Int) (j : Jt) : Jt := ((mirX j.1.1 j.1.2 x, j.1.2), (mirX j.2.1 j.2.2 x, j.2.2))
/-- The images of all joints, in reverse order. -/
def mirJs (js : List Jt) (x : Int) : List Jt := (js.map (mirJ x)).reverse
/-- The images of the first k joints, in reverse order. -/
def mirJUp (js : List Jt) (x : Int) (k : Nat) : List Jt := ((js.take k).map (mirJ x)).reverse
/-- The images of the joints from m on, in reverse order. -/
def mirJTo (js : List Jt) (x : Int) (m : Nat) : List Jt := ((js.drop m).map (mirJ x)).reverse
/-- Whether MirrorArch succeeds. -/
def mirOk (js : List Jt) (x : Int) : Bool := archV js && archV (mirJs js x)
/-- What MirrorArch answers: the joints. -/
def mirAV (js : List Jt) (x : Int) : List Jt := if mirOk js x then mirJs js x else []
theorem mirJs_length (js : List Jt) (x : Int) : (mirJs js x).length = js.length := by simp [mirJs]
theorem mirJUp_all (js : List Jt) (x : Int) : mirJUp js x js.length = mirJs js x := by simp [mirJUp, mirJs]
theorem mirJUp_next (js : List Jt) (x : Int) (k : Nat) (h : k < js.length) : mirJUp js x (k + 1) = mirJ x (jt js k) :: mirJUp js x k := by
  unfold mirJUp
  rw [List.take_succ_eq_append_getElem h, List.map_append, List.reverse_append, jt_get h]
  rfl
theorem mirJUp_length (js : List Jt) (x : Int) (k : Nat) (h : k ≤ js.length) : (mirJUp js x k).length = k := by simp [mirJUp]; omega
theorem mirJTo_all (js : List Jt) (x : Int) : mirJTo js x 0 = mirJs js x := by simp [mirJTo, mirJs]
theorem mirJTo_end (js : List Jt) (x : Int) : mirJTo js x js.length = [] := by simp [mirJTo]
theorem mirJTo_next (js : List Jt) (x : Int) (m : Nat) (h : m < js.length) : mirJTo js x m = mirJTo js x (m + 1) ++ [mirJ x (jt js m)] := by
  unfold mirJTo
  rw [List.drop_eq_getElem_cons h, List.map_cons, List.reverse_cons, jt_get h]
theorem mirJTo_length (js : List Jt) (x : Int) (m : Nat) : (mirJTo js x m).length = js.length - m := by simp [mirJTo]
theorem mirJs_at (js : List Jt) (x : Int) (i : Nat) (h : i < js.length) : jt (mirJs js x) i = mirJ x (jt js (js.length - 1 - i)) := by
  rw [jt_get (by rw [mirJs_length]; exact h), jt_get (by omega)]
  simp [mirJs]
theorem mirOk_iff {js : List Jt} {x : Int} : mirOk js x = true ↔ archV js = true ∧ archV (mirJs js x) = true := by unfold mirOk; rw [Bool.and_eq_true]
theorem mirAV_yes {js : List Jt} {x : Int} (h : mirOk js x = true) : mirAV js x = mirJs js x := by unfold mirAV; rw [h]; rfl
theorem mirAV_no {js : List Jt} {x : Int} (h : mirOk js x = false) : mirAV js x = [] := by unfold mirAV; rw [h]; rfl
theorem mirAV_length (js : List Jt) (x : Int) : (mirAV js x).length ≤ 8 := by
  cases h : mirOk js x
  · rw [mirAV_no h]; simp
  · rw [mirAV_yes h]; exact (arch_size (mirOk_iff.1 h).2).2
end Go.Proofs.Ytoholdpobkgffaa
