/- For every draw (bytes of any number; none longer than 1048576 bytes is looked at), FnClamped answers true: what Clamp gives is in the range, is not changed again, and is the number where that is in the range. No condition. -/
import Derived.Test.YtibdmidinopppaaClampC
import Derived.Test.YtibdmidinopppaaDrawC
import Derived.Test.YtibdmidinopppaaRows
import Derived.WalkKit
import Derived.ProofKit
import Derived.OpenShut
import Derived.ShutString
import Derived.ChangeOld
import Derived.Below
namespace Go.Proofs.Ytibdmidinopppaa.fnClamped
open Go.ChangeShapes Go.WideShapes Go.ChangeAt Go.RowKit
open Go.ChangeMaps (open_string shut_string)
set_option linter.unusedVariables false

theorem own : ownKnob Try.prog.godebug = none := by kernel_rfl
theorem laidOut : laidOutB Try.prog = true := by kernel_rfl

/-- WHAT THE WALK IS TOLD OF A SLICE OF INTEGERS THAT CAME IN: it is nil; or it leads to a row of 'cap' cells, the numbers 'zs' (the first 'len' are its elements, the rest its spare room), each fitting its kind. -/
def IsRow (k : IntKind) (w : World) (a : Option Addr) (len cap : Nat) (zs : List Int) : Prop :=
  (a = none ∧ len = 0 ∧ cap = 0 ∧ zs = []) ∨
  ∃ x, a = some x ∧ len ≤ cap ∧ cap ≤ maxLen ∧ zs.length = cap ∧ (∀ i, i < zs.length → w.cell? (x.add i) = some (.int k (zs.getD i 0))) ∧ ∀ n ∈ zs, (Lit.int k n).wf = true

/-- What a draw for Clamp leaves: three ints; below the block B all is as it was. -/
def Three (B : Nat) (w : World) (e : Ending) (w' : World) : Prop := ∃ x y z : Int, e = .returned (.tuple #[.int .i64 x, .int .i64 y, .int .i64 z]) ∧ Below B w w'

theorem below_of_grown {w w1 w2 : World} {bc : Nat} (h : Below w.heap.size w w1) (hg : w1.grownBy w2 (some bc)) (hb : bc = w.heap.size) : Below w.heap.size w w2 :=
  h.grown hg h.size (fun k hk => by cases hk; omega)

set_option maxHeartbeats 400000 in
theorem draw (w : World) (a : Option Addr) (n cap : Nat) (zs : List Int) (hr : IsCode w a n cap zs) :
    Calls Try.prog 9 #[.slice a n cap] w (Three w.heap.size w) := by
  go_enter Try.func9, Try.ntmps9
  go_wp2_with fail
  refine (new_any _ _ _ _ zs hr).mono ?_
  rintro e w1 ⟨rfl, hc1, hb1, -⟩
  clear hr
  go_wp2_with fail
  refine (once_any _ _ _ _ _ _ (by omega) hc1).mono ?_
  rintro e w2 ⟨q, rfl, hc2, hg2⟩
  cases q
  · go_wp2_with fail
    refine (below_any _ _ _ _ _ _ (by omega) hc2).mono ?_
    rintro e w3 ⟨x, ⟨hx0, hx1, -⟩, rfl, hc3, hg3⟩
    have hx2 := hx1 (by omega)
    clear hx1
    go_wp2_with fail
    refine (below_any _ _ _ _ _ _ (by omega) hc3).mono ?_
    rintro e w4 ⟨y, ⟨hy0, hy1, -⟩, rfl, hc4, hg4⟩
    have hy2 := hy1 (by omega)
    clear hy1
    go_wp2_with fail
    refine (below_any _ _ _ _ _ _ (by omega) hc4).mono ?_
    rintro e w5 ⟨z, ⟨hz0, hz1, -⟩, rfl, hc5, hg5⟩
    have hz2 := hz1 (by omega)
    clear hz1
    go_wp2_with fail
    go_ret3
    exact ⟨_, _, _, rfl, below_of_grown hb1 (grown_trans hg2 (grown_trans hg3 (grown_trans hg4 hg5))) rfl⟩
  · go_wp2_with fail
    refine (number_any _ _ _ _ _ hc2).mono ?_
    rintro e w3 ⟨x, hx, rfl, hc3, hg3⟩
    go_wp2_with fail
    refine (number_any _ _ _ _ _ hc3).mono ?_
    rintro e w4 ⟨y, hy, rfl, hc4, hg4⟩
    go_wp2_with fail
    refine (number_any _ _ _ _ _ hc4).mono ?_
    rintro e w5 ⟨z, hz, rfl, hc5, hg5⟩
    go_wp2_with fail
    go_ret3
    exact ⟨_, _, _, rfl, below_of_grown hb1 (grown_trans hg2 (grown_trans hg3 (grown_trans hg4 hg5))) rfl⟩

/-! ### STEP 1: THE WALK: the Go text returns true, AND WRITES NOTHING THAT WAS THERE: 'Below w.heap.size w w'' (Derived/Below.lean: '.refl', '.alloc', '.drew', '.setCell' at a new block, '.trans'). Open each 'IsRow' by 'rcases' AHEAD of 'go_enter'; part every test ahead of the walk. -/
theorem walk (a0 : Option Addr) (len0 cap0 : Nat) (z0 : List Int) (w : World) (w0 : IsRow .u8 w a0 len0 cap0 z0) :
    Calls Try.prog 3 #[.slice a0 len0 cap0] w fun e w' => e = .returned (.bool true) ∧ Below w.heap.size w w' := by
  have hr : IsCode w a0 len0 cap0 z0 := w0
  clear w0
  have hm := (code_cells hr).1
  unfold maxLen at hm
  by_cases hbig : 1048576 < len0
  · clear hr
    go_enter Try.func3, Try.ntmps3
    go_wp2_with (go_at_call 8; refine (big_yes _ _ _ _ (by omega) (by omega)).mono ?_; rintro e w' ⟨rfl, rfl⟩)
    go_ret
    exact ⟨rfl, Below.refl _ _⟩
  · go_enter Try.func3, Try.ntmps3
    go_wp2_with fail
    refine (big_no _ _ _ _ (by omega) (by omega)).mono ?_
    rintro e w' ⟨rfl, rfl⟩
    go_wp2_with fail
    refine (draw _ _ _ _ _ hr).mono ?_
    rintro e w1 ⟨x, y, z, rfl, hb⟩
    clear hr
    go_wp2_with fail
    refine (implClamp_is _ _ _ _).mono ?_
    rintro e w' ⟨c, rfl, rfl, hc1, hc2⟩
    by_cases hzy : z < y
    · have hcy := hc1 hzy
      clear hc1 hc2
      subst hcy
      have hcc : (c == c) = true := by simp
      go_wp2_with (go_at_call 10; refine (implClamp_753 _).mono ?_; rintro e w' ⟨rfl, rfl⟩)
      go_ret
      exact ⟨rfl, hb⟩
    · obtain ⟨h1, h2, h3⟩ := hc2 hzy
      clear hc1 hc2
      have hcc : (c == c) = true := by simp
      by_cases hxy : x < y
      · clear h3
        go_wp2_with fail
        refine (implClamp_same _ _ _ _ h1 h2).mono ?_
        rintro e w' ⟨rfl, rfl⟩
        go_wp2_with fail
        refine (implClamp_753 _).mono ?_
        rintro e w' ⟨rfl, rfl⟩
        go_wp2_with fail
        go_ret
        exact ⟨rfl, hb⟩
      · by_cases hxz : z < x
        · clear h3
          go_wp2_with fail
          refine (implClamp_same _ _ _ _ h1 h2).mono ?_
          rintro e w' ⟨rfl, rfl⟩
          go_wp2_with fail
          refine (implClamp_753 _).mono ?_
          rintro e w' ⟨rfl, rfl⟩
          go_wp2_with fail
          go_ret
          exact ⟨rfl, hb⟩
        · have hcx := h3 (by omega) (by omega)
          clear h3
          subst hcx
          go_wp2_with fail
          refine (implClamp_same _ _ _ _ h1 h2).mono ?_
          rintro e w' ⟨rfl, rfl⟩
          go_wp2_with fail
          refine (implClamp_753 _).mono ?_
          rintro e w' ⟨rfl, rfl⟩
          go_wp2_with fail
          go_ret
          exact ⟨rfl, hb⟩

/-! ### THE ROW's STEP: WRITTEN OUT: LEAVE IT -/
set_option maxRecDepth 100000 in
theorem lifted (os : Os) (started : os.Started) (H : Type) (enc : TypeId × Value → H) :
    ReturnsInHanded {} Try.checked os 3 .any (Rows.fnClampedSpec.pre6 enc Try.prog Try.f3 Rows.fnClampedRow.domain false) (Rows.fnClampedSpec.post enc Try.prog Try.f3 false true false false) := by
  refine returnsInHanded_of_change (C := Try.checked) own started (by kernel_rfl) Try.func3
    (ChangeSpec.witness6 (enc := enc) (C := Try.checked) false ⟨#[], #[.slice none 0 0], []⟩ 8 (by kernel_rfl) (by kernel_rfl) (by kernel_rfl) (by kernel_rfl)) ?_
  intro W base args ds gs before hval0 hW hcnd _
  have hval : ∀ (j : Nat) t v, Try.f3.params[j]? = some t → args[j]? = some v → Value.okWide Try.prog W .any base t v := hval0
  have hW' := hW
  obtain ⟨p, q, hA0, hV, rfl, hfz, hnd⟩ := hW
  have hA : DataW.TrodAll enc Try.prog W 0 (fun _ => true) true Try.f3.params.toList args.toList ds p := hA0
  rw [Try.params3] at hA hval
  obtain ⟨v0, vs0, d0, ds0, p0, q0, hargs, rfl, rfl, h0, r0⟩ := trodAll_cons hA
  obtain ⟨rfl, rfl, rfl⟩ := trodAll_nil r0
  obtain rfl : args = #[v0] := by cases args; simp_all
  obtain ⟨rfl, rfl⟩ := trodVars_none hV
  obtain ⟨a0, len0, cap0, rfl⟩ := okWide_slice Try.underlying22 (hval 0 22 v0 rfl rfl)
  have k0 := h0
  have lt0 : ∀ x ∈ p0, x.block < W.heap.size := by obtain ⟨m, hm⟩ := k0; exact DataW.trod_lt m _ _ _ hm
  obtain ⟨z0, w0⟩ : ∃ zs, IsRow .u8 W a0 len0 cap0 zs := by
    obtain ⟨fuel, hf⟩ := h0
    rcases open_ints Try.underlying22 Try.underlying5 (by kernel_rfl) hf with ⟨hcs, _⟩ | ⟨x, l, c, zs, hcs, _, hl, hm, hz, _, hcell, hwz⟩
    · simp [Value.cells] at hcs
      obtain ⟨rfl, rfl, rfl⟩ := hcs
      exact ⟨[], .inl ⟨rfl, rfl, rfl, rfl⟩⟩
    · simp [Value.cells] at hcs
      obtain ⟨rfl, rfl, rfl⟩ := hcs
      exact ⟨zs, .inr ⟨_, rfl, hl, hm, by simpa using hz, hcell, hwz⟩⟩
  clear hA0 hval0
  refine (walk a0 len0 cap0 z0 W w0).mono fun e W' ⟨he, bel⟩ => ?_
  subst he
  exact ⟨_, rfl, _, _, _, [], _, [], hW', trodAll_mk1 (shut_bool Try.underlying4 _), (trodAll_cons_mk (Below.trod laidOut (by kernel_rfl) (of_decide_eq_true (by kernel_rfl)) k0 bel lt0) trodAll_mk0), rfl, bel.frame _, fun h => by cases h⟩

theorem over : Rows.fnClampedRow.holds Try.pinned (OpenSpec.ofChange Rows.fnClampedSpec) :=
  OpenClaim.holds_of_wide 3 Try.f3 rfl rfl rfl rfl rfl rfl rfl ⟨rfl, rfl, rfl, rfl, rfl⟩ rfl rfl rfl rfl rfl (by kernel_rfl) Try.func3 (by kernel_rfl)
    (of_decide_eq_true (by kernel_rfl)) (by unfold Func.isWrapper; first | (rw [if_pos (by decide +kernel)]; kernel_rfl) | (rw [if_neg (by decide +kernel)]; exact ⟨rfl, rfl⟩))
    (fun os started H enc _ => lifted os started H enc)

/-- ████ THE STATEMENT ████ -/
theorem proved : Rows.FnClampedSaid := over
#print axioms proved
end Go.Proofs.Ytibdmidinopppaa.fnClamped
