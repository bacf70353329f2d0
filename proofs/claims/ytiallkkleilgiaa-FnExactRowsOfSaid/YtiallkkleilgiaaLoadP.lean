/- Loads, plainly: valid, what they weigh to the left of a joint, how they are scaled, as functions of the list of loads. -/
import Derived.Test.YtiallkkleilgiaaArchH
namespace Go.Proofs.Ytiallkkleilgiaa
set_option maxRecDepth 100000

/-- A load: its Stone, its Weight, its X. -/
abbrev Ld : Type := Int × Int × Int
/-- The load at an index (zeros past the end). -/
def ld (ls : List Ld) (i : Nat) : Ld := ls.getD i (0, 0, 0)
theorem ld_get {ls : List Ld} {i : Nat} (h : i < ls.length) : ld ls i = ls[i] := by unfold ld; rw [List.getD_eq_getElem?_getD, List.getElem?_eq_getElem h]; rfl
theorem ld_app1 {ls ks : List Ld} {i : Nat} (h : i < ls.length) : ld (ls ++ ks) i = ld ls i := by
  unfold ld; rw [List.getD_eq_getElem?_getD, List.getElem?_append_left h, ← List.getD_eq_getElem?_getD]
theorem ld_app2 (ls : List Ld) (l : Ld) : ld (ls ++ [l]) ls.length = l := by
  unfold ld; rw [List.getD_eq_getElem?_getD, List.getElem?_append_right (Nat.le_refl _), Nat.sub_self]; rfl

/-- A load's stone is one of those of n joints; its weight is in range; all three are. -/
def ldS (n : Nat) (x : Int) : Bool := decide (0 ≤ x ∧ x ≤ (n : Int) - 2)
def ldW (x : Int) : Bool := decide (0 ≤ x ∧ x ≤ 10000)
def ldOk (n : Nat) (l : Ld) : Bool := ldS n l.1 && (ldW l.2.1 && inP l.2.2)
theorem ldS_iff {n : Nat} {x : Int} : ldS n x = true ↔ 0 ≤ x ∧ x ≤ (n : Int) - 2 := by unfold ldS; simp
theorem ldS_no {n : Nat} {x : Int} : ldS n x = false ↔ ¬ (0 ≤ x ∧ x ≤ (n : Int) - 2) := by unfold ldS; simp
theorem ldW_iff {x : Int} : ldW x = true ↔ 0 ≤ x ∧ x ≤ 10000 := by unfold ldW; simp
theorem ldW_no {x : Int} : ldW x = false ↔ ¬ (0 ≤ x ∧ x ≤ 10000) := by unfold ldW; simp
theorem ldOk_iff {n : Nat} {l : Ld} : ldOk n l = true ↔ (0 ≤ l.1 ∧ l.1 ≤ (n : Int) - 2) ∧ (0 ≤ l.2.1 ∧ l.2.1 ≤ 10000) ∧ -60 ≤ l.2.2 ∧ l.2.2 ≤ 60 := by
  unfold ldOk; rw [Bool.and_eq_true, Bool.and_eq_true, ldS_iff, ldW_iff, inP_iff]
/-- Whether load i may lie on the stones of n joints. -/
def ldAt (n : Nat) (ls : List Ld) (i : Nat) : Bool := ldOk n (ld ls i)
/-- Whether all may. -/
def ldAll (n : Nat) (ls : List Ld) : Bool := allV ls.length (ldAt n ls)
/-- What LoadsOk answers. -/
def loadsV (js : List Jt) (ls : List Ld) : Bool := archV js && (decide (ls.length ≤ 6) && ldAll js.length ls)
theorem loadsV_iff {js : List Jt} {ls : List Ld} : loadsV js ls = true ↔ archV js = true ∧ ls.length ≤ 6 ∧ ∀ i, i < ls.length → ldOk js.length (ld ls i) = true := by
  unfold loadsV ldAll; rw [Bool.and_eq_true, Bool.and_eq_true, decide_eq_true_iff, allV_iff]; exact Iff.rfl

/-- What load i adds on stone k; what it adds to the left of joint k. -/
def onF (f : Ld → Int) (ls : List Ld) (k i : Nat) : Int := if (ld ls i).1 = (k : Int) then f (ld ls i) else 0
def befF (f : Ld → Int) (ls : List Ld) (k i : Nat) : Int := if (ld ls i).1 < (k : Int) then f (ld ls i) else 0
theorem onF_yes {f : Ld → Int} {ls : List Ld} {k i : Nat} (h : (ld ls i).1 = (k : Int)) : onF f ls k i = f (ld ls i) := if_pos h
theorem onF_no {f : Ld → Int} {ls : List Ld} {k i : Nat} (h : ¬ (ld ls i).1 = (k : Int)) : onF f ls k i = 0 := if_neg h
theorem befF_yes {f : Ld → Int} {ls : List Ld} {k i : Nat} (h : (ld ls i).1 < (k : Int)) : befF f ls k i = f (ld ls i) := if_pos h
theorem befF_no {f : Ld → Int} {ls : List Ld} {k i : Nat} (h : ¬ (ld ls i).1 < (k : Int)) : befF f ls k i = 0 := if_neg h
/-- Load by load, or stone by stone: the same sum. -/
theorem bef_on (f : Ld → Int) (ls : List Ld) (h : ∀ i, i < ls.length → 0 ≤ (ld ls i).1) (k : Nat) : sumTo (befF f ls k) ls.length = sumTo (fun j => sumTo (onF f ls j) ls.length) k := by
  induction k with
  | zero =>
    have : sumTo (befF f ls 0) ls.length = sumTo (fun _ => 0) ls.length := sumTo_congr _ fun i hi => befF_no (by have := h i hi; omega)
    rw [this]
    have hz : ∀ n, sumTo (fun _ => 0) n = 0 := fun n => by
      induction n with
      | zero => rfl
      | succ n ih => show sumTo _ n + 0 = 0; rw [ih]; rfl
    exact hz _
  | succ k ih =>
    show _ = sumTo (fun j => sumTo (onF f ls j) ls.length) k + sumTo (onF f ls k) ls.length
    rw [← ih, ← sumTo_add]
    refine sumTo_congr _ fun i _ => ?_
    by_cases h1 : (ld ls i).1 < (k : Int)
    · rw [befF_yes h1, befF_yes (by omega), onF_no (by omega)]; omega
    · by_cases h2 : (ld ls i).1 = (k : Int)
      · rw [befF_no h1, befF_yes (by omega), onF_yes h2]; omega
      · rw [befF_no h1, befF_no (by omega), onF_no h2]; rfl

/-- A load's weight; its moment. -/
def ldw (l : Ld) : Int := l.2.1
def ldm (l : Ld) : Int := l.2.1 * l.2.2
theorem ldw_bd {n : Nat} {l : Ld} (h : ldOk n l = true) : -600000 ≤ ldw l ∧ ldw l ≤ 600000 := by
  have := ldOk_iff.1 h
  unfold ldw
  omega
theorem ldm_bd {n : Nat} {l : Ld} (h : ldOk n l = true) : -600000 ≤ ldm l ∧ ldm l ≤ 600000 := by
  have := ldOk_iff.1 h
  exact mul_bd (x := l.2.1) (y := l.2.2) 10000 60 ⟨by omega, by omega⟩ ⟨by omega, by omega⟩
/-- The stone behind joint k with its loads. -/
def stF (g : List Jt → Nat → Int) (f : Ld → Int) (js : List Jt) (ls : List Ld) (k : Nat) : Int := g js k + sumTo (onF f ls k) ls.length
def wL (js : List Jt) (ls : List Ld) : Nat → Int := stF wK ldw js ls
def mL (js : List Jt) (ls : List Ld) : Nat → Int := stF mK ldm js ls
theorem stF_sum (g : List Jt → Nat → Int) (f : Ld → Int) (js : List Jt) (ls : List Ld) (h : ∀ i, i < ls.length → 0 ≤ (ld ls i).1) (k : Nat) : sumTo (stF g f js ls) k = sumTo (g js) k + sumTo (befF f ls k) ls.length := by
  rw [bef_on f ls h k, ← sumTo_add]
  exact sumTo_congr k fun i _ => rfl
theorem onF_bd {n : Nat} {f : Ld → Int} {ls : List Ld} (hf : ∀ l, ldOk n l = true → -600000 ≤ f l ∧ f l ≤ 600000) (h6 : ls.length ≤ 6) (h : ∀ i, i < ls.length → ldOk n (ld ls i) = true) (k i : Nat) (hi : i ≤ ls.length) : -3600000 ≤ sumTo (onF f ls k) i ∧ sumTo (onF f ls k) i ≤ 3600000 := by
  have := sumTo_bd (onF f ls k) 600000 i fun x hx => by
    unfold onF
    split
    · exact hf _ (h x (by omega))
    · omega
  omega
theorem befF_bd {n : Nat} {f : Ld → Int} {ls : List Ld} (hf : ∀ l, ldOk n l = true → -600000 ≤ f l ∧ f l ≤ 600000) (h6 : ls.length ≤ 6) (h : ∀ i, i < ls.length → ldOk n (ld ls i) = true) (k i : Nat) (hi : i ≤ ls.length) : -3600000 ≤ sumTo (befF f ls k) i ∧ sumTo (befF f ls k) i ≤ 3600000 := by
  have := sumTo_bd (befF f ls k) 600000 i fun x hx => by
    unfold befF
    split
    · exact hf _ (h x (by omega))
    · omega
  omega
theorem wL_bd {js : List Jt} {ls : List Ld} (h : loadsV js ls = true) (k : Nat) (hk : k ≤ 8) : -32000000 ≤ sumTo (wL js ls) k ∧ sumTo (wL js ls) k ≤ 32000000 := by
  obtain ⟨h1, h2, h3⟩ := loadsV_iff.1 h
  have := sumTo_bd (wL js ls) 3729600 k fun i _ => by
    have a := onF_bd (f := ldw) (fun l hl => ldw_bd hl) h2 h3 i ls.length (Nat.le_refl _)
    have b := (wK_bd js i 0 (by omega)).1
    unfold wL stF
    omega
  omega
theorem mL_bd {js : List Jt} {ls : List Ld} (h : loadsV js ls = true) (k : Nat) (hk : k ≤ 8) : -75000000 ≤ sumTo (mL js ls) k ∧ sumTo (mL js ls) k ≤ 75000000 := by
  obtain ⟨h1, h2, h3⟩ := loadsV_iff.1 h
  have := sumTo_bd (mL js ls) 8784000 k fun i _ => by
    have a := onF_bd (f := ldm) (fun l hl => ldm_bd hl) h2 h3 i ls.length (Nat.le_refl _)
    have b := (mK_bd js i 0 (by omega)).1
    unfold mL stF
    omega
  omega

/-- What WeightLeft, MomentLeft, TotalOf answer. -/
def leftF (f : List Jt → List Ld → Nat → Int) (js : List Jt) (ls : List Ld) (k : Int) : Int := if loadsV js ls = true ∧ 0 ≤ k ∧ k ≤ (js.length : Int) - 1 then sumTo (f js ls) k.toNat else 0
theorem leftF_yes {f : List Jt → List Ld → Nat → Int} {js : List Jt} {ls : List Ld} {k : Nat} (h : loadsV js ls = true) (hk : k < js.length) : leftF f js ls k = sumTo (f js ls) k := by
  unfold leftF
  rw [if_pos ⟨h, by omega, by omega⟩]
  rfl
theorem leftF_not {f : List Jt → List Ld → Nat → Int} {js : List Jt} {ls : List Ld} (h : loadsV js ls = false) (k : Int) : leftF f js ls k = 0 := by
  unfold leftF; rw [if_neg (fun x => by rw [h] at x; simp at x)]
theorem leftF_no {f : List Jt → List Ld → Nat → Int} {js : List Jt} {ls : List Ld} {k : Int} (hk : ¬ (0 ≤ k ∧ k ≤ (js.length : Int) - 1)) : leftF f js ls k = 0 := by
  unfold leftF; rw [if_neg (fun x => hk x.2)]

/-- A load with n times its weight; whether it may be; all of them. -/
def scl (n : Int) (l : Ld) : Ld := (l.1, l.2.1 * n, l.2.2)
def sclOk (n : Int) (l : Ld) : Bool := decide (0 ≤ n ∧ n ≤ 1000) && (ldW l.2.1 && decide (l.2.1 * n ≤ 10000))
def sclAt (n : Int) (ls : List Ld) (i : Nat) : Bool := sclOk n (ld ls i)
/-- Whether ScaleLoads answers true; its row. -/
def sclV (n : Int) (ls : List Ld) : Bool := decide (0 ≤ n ∧ n ≤ 1000) && (decide (ls.length ≤ 6) && allV ls.length (sclAt n ls))
def sclRow (n : Int) (ls : List Ld) : List Ld := if sclV n ls then ls.map (scl n) else []
end Go.Proofs.Ytiallkkleilgiaa
