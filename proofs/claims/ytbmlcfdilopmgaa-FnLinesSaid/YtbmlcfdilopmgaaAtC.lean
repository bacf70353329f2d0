/- The contract of 'at': a number from 0 to 255 out of a draw's bytes; and of 'big' there are two in DrawC. -/
import Derived.Test.YtbmlcfdilopmgaaDrawC
namespace Go.Proofs.Ytbmlcfdilopmgaa
set_option maxRecDepth 100000
open Go.ChangeShapes Go.WideShapes Go.ChangeAt Go.RowKit

/-- A number from 0 to 255; the world is as it was. -/
def AtPost (w : World) (e : Ending) (w' : World) : Prop := ∃ x : Int, 0 ≤ x ∧ x ≤ 255 ∧ e = .returned (.int .i64 x) ∧ w = w'

theorem at_any (w : World) (a : Option Addr) (n cap : Nat) (zs : List Int) (i : Nat) (hi : i ≤ 1000) (hr : IsCode w a n cap zs) :
    Calls Try.prog 13 #[.slice a n cap, .int .i64 (i : Int)] w (AtPost w) := by
  obtain ⟨hm, hb⟩ := code_cells hr
  unfold maxLen at hm
  clear hr
  by_cases h0 : n = 0
  · subst h0
    clear hb
    go_enter Try.func13, Try.ntmps13
    go_wp2
    go_ret
    exact ⟨0, by omega, by omega, rfl, rfl⟩
  · obtain ⟨m, hm2, hmlt⟩ : ∃ m : Nat, ((i : Int) * 5 + 1) % (n : Int) = (m : Int) ∧ m < n := ⟨(i * 5 + 1) % n, by simp, Nat.mod_lt _ (by omega)⟩
    obtain ⟨b, off, rfl, hbl, u, hu0, hu1, hcell⟩ := hb m hmlt
    have hnn : ((n : Int) == 0) = false := by simp; omega
    clear hb
    go_enter Try.func13, Try.ntmps13
    go_wp2
    go_ret
    exact ⟨u, by omega, by omega, rfl, rfl⟩
end Go.Proofs.Ytbmlcfdilopmgaa
