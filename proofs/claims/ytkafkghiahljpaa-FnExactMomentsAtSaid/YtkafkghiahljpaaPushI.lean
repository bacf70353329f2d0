/- The program's moments of a push: about a point, about both ends of a joint; whether it passes between. -/
import Derived.Test.YtkafkghiahljpaaPushP
import Derived.Test.YtkafkghiahljpaaThrustG
import Derived.Shelf.Abstract
import Derived.Deep.RegionWith
namespace Go.Proofs.Ytkafkghiahljpaa
set_option maxRecDepth 100000
open Go.ChangeShapes Go.WideShapes Go.ChangeAt Go.RowKit

set_option maxHeartbeats 1000000 in
theorem pushAbout (jx jy jz ju r u t x y : Int) (w : World) (hb : AbtBd t u r x y) :
    Calls Try.prog 32 #[.agg #[.int .i64 jx, .int .i64 jy, .int .i64 jz, .int .i64 ju, .int .i64 r, .int .i64 u, .int .i64 t], .agg #[.int .i64 x, .int .i64 y]] w fun e w' => e = .returned (.int .i64 (abtV t u r x y)) ∧ Below w.heap.size w w' := by
  have hb0 := ((Below.refl w.heap.size w).alloc (Nat.le_refl _) (.cells #[.int .i64 jx, .int .i64 jy, .int .i64 jz, .int .i64 ju, .int .i64 r, .int .i64 u, .int .i64 t] 60)).alloc (by simp) (.cells #[.int .i64 x, .int .i64 y] 56)
  have HB0 := Lib.hid hb0
  have HV : RowKit.Hid (abtV t u r x y = t - x * u + y * r) := Lib.hid rfl
  obtain ⟨h1, h2, h3, h4⟩ := hb
  rw [HV.out] at h4 ⊢
  have w1 : IntKind.i64.wrap (x * u) = x * u := IntWalk.i64_in _ (by omega)
  have w2 : IntKind.i64.wrap (y * r) = y * r := IntWalk.i64_in _ (by omega)
  have w3 : IntKind.i64.wrap (t - x * u) = t - x * u := IntWalk.i64_in _ (by omega)
  have w4 : IntKind.i64.wrap (t - x * u + y * r) = t - x * u + y * r := IntWalk.i64_in _ (by omega)
  clear hb0 h1 h2 h3 h4
  go_enter Try.func32, Try.ntmps32
  go_wp2_with fail
  go_ret
  exact ⟨rfl, HB0.out⟩

set_option maxHeartbeats 1000000 in
/-- A joint's two moments, by the method of a push. -/
theorem atEnds (jx jy jz ju r u t x y z v : Int) (w : World) (ha : AbtBd t u r x y) (hb : AbtBd t u r z v) :
    Calls Try.prog 31 #[.agg #[.int .i64 x, .int .i64 y, .int .i64 z, .int .i64 v], .func (.func 32) #[.agg #[.int .i64 jx, .int .i64 jy, .int .i64 jz, .int .i64 ju, .int .i64 r, .int .i64 u, .int .i64 t]] #[]] w
      fun e w' => e = .returned (.tuple #[.int .i64 (abtV t u r x y), .int .i64 (abtV t u r z v)]) ∧ Below w.heap.size w w' := by
  have hA := fun w => pushAbout jx jy jz ju r u t x y w ha
  have hB := fun w => pushAbout jx jy jz ju r u t z v w hb
  generalize abtV t u r x y = P at *
  generalize abtV t u r z v = Q at *
  have HA := Lib.hid hA
  have HB := Lib.hid hB
  have hb0 := (Below.refl w.heap.size w).alloc (Nat.le_refl _) (.cells #[.int .i64 x, .int .i64 y, .int .i64 z, .int .i64 v] 58)
  have HB0 := Lib.hid hb0
  clear hA hB ha hb hb0
  go_enter Try.func31, Try.ntmps31
  go_wp2_with fail
  generalize hW : w.alloc (.cells #[.int .i64 x, .int .i64 y, .int .i64 z, .int .i64 v] 58) = W at *
  have hn1 := Since.nonempty W
  have hw1 : w.heap.size < W.heap.size := by subst hW; simp
  have s0 := fun (q : Since W) => (q.cell w.heap.size 0 hw1).trans (show _ = some (.int .i64 x) by subst hW; go_simp)
  have s1 := fun (q : Since W) => (q.cell w.heap.size 1 hw1).trans (show _ = some (.int .i64 y) by subst hW; go_simp)
  have s2 := fun (q : Since W) => (q.cell w.heap.size 2 hw1).trans (show _ = some (.int .i64 z) by subst hW; go_simp)
  have s3 := fun (q : Since W) => (q.cell w.heap.size 3 hw1).trans (show _ = some (.int .i64 v) by subst hW; go_simp)
  have he : ∀ args w, (callFunc 32 args).run Try.prog w = .ok (.enter 32 args) w := enters_of Try.func32 (by kernel_rfl) rfl
  clear hW
  refine wp_region_since (by kernel_rfl) (by kernel_rfl) ?_
  repeat (go_big_quiet_step (first
    | (go_at_call_of 32 (Value.int .i64 x); exact Since.call (HA.out _))
    | (go_at_call_of 32 (Value.int .i64 z); exact Since.call (HB.out _))))
  refine wpQuiet_nil ?_
  rintro w2 ⟨⟨_, hb2⟩, rfl⟩
  go_wp2_with fail
  refine bodyPost_ret (v := .tuple #[.int .i64 P, .int .i64 Q]) (by simp [results, Try.results31, go_sem]) rfl ⟨rfl, HB0.out.trans (hb2.mono HB0.out.size)⟩

theorem passesBetween (a b : Int) (w : World) :
    Calls Try.prog 33 #[.int .i64 a, .int .i64 b] w fun e w' => e = .returned (.bool (passV a b)) ∧ w = w' := by
  by_cases h : a ≤ 0
  · go_enter Try.func33, Try.ntmps33
    go_wp2
    go_ret
    exact ⟨ret_bool (by unfold passV; simp <;> omega), rfl⟩
  · go_enter Try.func33, Try.ntmps33
    go_wp2
    go_ret
    exact ⟨ret_bool (by unfold passV; simp <;> omega), rfl⟩
end Go.Proofs.Ytkafkghiahljpaa
