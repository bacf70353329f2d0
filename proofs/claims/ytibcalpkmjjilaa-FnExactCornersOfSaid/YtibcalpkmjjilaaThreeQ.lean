/- Corners, plainly: one step of their list, and which rows a solution fulfills. -/
import Derived.Test.YtibcalpkmjjilaaThreeP
namespace Go.Proofs.Ytibcalpkmjjilaa
set_option maxRecDepth 100000

/-- The corners, with the solution of three rows if it is one and not there yet. -/
def coAdd (rs l : List Cd) (p q r : Cd) : List Cd := if soB p q r && (!decide (soT p q r ∈ l) && coH rs (soT p q r)) then l ++ [soT p q r] else l
theorem coAdd_step (rs l : List Cd) (i k m : Nat) : coAdd rs l (cd rs i) (cd rs k) (cd rs m) = coStep rs l i k m := rfl
theorem coAdd_no {rs l : List Cd} {p q r : Cd} (h : soB p q r = false) : coAdd rs l p q r = l := by unfold coAdd; rw [h]; rfl
theorem coAdd_ful {rs l : List Cd} {p q r : Cd} (h : coH rs (soT p q r) = false) : coAdd rs l p q r = l := by unfold coAdd; rw [h]; simp
theorem coAdd_in {rs l : List Cd} {p q r : Cd} (h : decide (soT p q r ∈ l) = true) : coAdd rs l p q r = l := by unfold coAdd; rw [h]; simp
theorem coAdd_yes {rs l : List Cd} {p q r : Cd} (h : soB p q r = true) (hn : decide (soT p q r ∈ l) = false) (hf : coH rs (soT p q r) = true) : coAdd rs l p q r = l ++ [soT p q r] := by unfold coAdd; rw [h, hn, hf]; rfl
/-- Of valid rows, as many as may be, FulfillsAll says what the products say. -/
theorem coOk_ful {rs : List Cd} (hok : coOk rs = true) {p q r : Cd} (h : soB p q r = true) : fulAll (soT p q r).1 (soT p q r).2.1 (soT p q r).2.2.1 (soT p q r).2.2.2 rs = coH rs (soT p q r) := by
  unfold coOk at hok
  rw [Bool.and_eq_true] at hok
  have hn := inR_iff.1 hok.2
  rw [fulAll_yes (inR_iff.2 (by omega)) (soB_okT h), Bool.eq_iff_iff]
  unfold coH
  rw [allV_iff, allV_iff]
  refine ⟨fun hh x hx => ?_, fun hh x hx => ?_⟩
  · have := hh x hx
    unfold cdFAt cdF at this
    rw [Bool.and_eq_true] at this
    exact this.2
  · unfold cdFAt cdF
    rw [Bool.and_eq_true]
    exact ⟨allV_iff.1 hok.1 x hx, hh x hx⟩
end Go.Proofs.Ytibcalpkmjjilaa
