/- For every draw (none longer than 1048576 bytes is looked at), FnNumbers answers true: exactly the numbers from 0 to MaxUint are parsed from their numerals. The card ties the library's tables and errors to the program's text; no other condition. -/
import Derived.Test.YtibdmidinopppaaDoorDrawC
import Derived.Test.YtibdmidinopppaaDoorParseC
import Derived.Test.YtibdmidinopppaaDoorLaidE
import Derived.Test.YtibdmidinopppaaDoorRows
import Derived.Test.YtibdmidinopppaaDoorCards
import Derived.Test.YtibdmidinopppaaDoorTie
import Derived.LaidMore
import Derived.Stop.Joined
import Derived.SevenTiedAt
import Derived.WalkKit
import Derived.ProofKit
import Derived.OpenShut
import Derived.ShutString
import Derived.ChangeOld
import Derived.Below
namespace Go.Proofs.YtibdmidinopppaaDoor.fnNumbers
open Go.ChangeShapes Go.WideShapes Go.ChangeAt Go.RowKit
open Go.ChangeMaps (open_string shut_string)
set_option linter.unusedVariables false

theorem own : ownKnob Tryd.prog.godebug = none := by kernel_rfl
theorem laidOut : laidOutB Tryd.prog = true := by kernel_rfl

/-- WHAT THE WALK IS TOLD OF A SLICE OF INTEGERS THAT CAME IN: it is nil; or it leads to a row of 'cap' cells, the numbers 'zs' (the first 'len' are its elements, the rest its spare room), each fitting its kind. -/
def IsRow (k : IntKind) (w : World) (a : Option Addr) (len cap : Nat) (zs : List Int) : Prop :=
  (a = none ∧ len = 0 ∧ cap = 0 ∧ zs = []) ∨
  ∃ x, a = some x ∧ len ≤ cap ∧ cap ≤ maxLen ∧ zs.length = cap ∧ (∀ i, i < zs.length → w.cell? (x.add i) = some (.int k (zs.getD i 0))) ∧ ∀ n ∈ zs, (Lit.int k n).wf = true

/-- An int was drawn; below the block B all is as it was. -/
def OneInt (B : Nat) (w : World) (e : Ending) (w' : World) : Prop := ∃ x : Int, I64 x ∧ e = .returned (.int .i64 x) ∧ Below B w w'

theorem below_of_grown {w w1 w2 : World} {bc : Nat} (h : Below w.heap.size w w1) (hg : w1.grownBy w2 (some bc)) (hb : bc = w.heap.size) : Below w.heap.size w w2 :=
  h.grown hg h.size (fun k hk => by cases hk; omega)

theorem prod_bd (x y : Int) (hx0 : 0 ≤ x) (hx1 : x < 1000000) (hy0 : -1000000 ≤ y) (hy1 : y < 1000000) : -1000000000000 ≤ x * y ∧ x * y ≤ 1000000000000 := by
  constructor
  · have h1 : x * (-1000000) ≤ x * y := Int.mul_le_mul_of_nonneg_left hy0 hx0
    omega
  · have h1 : x * y ≤ x * 1000000 := Int.mul_le_mul_of_nonneg_left (by omega) hx0
    omega

set_option maxHeartbeats 400000 in
theorem draw (w : World) (a : Option Addr) (n cap : Nat) (zs : List Int) (hr : IsCode w a n cap zs) :
    Calls Tryd.prog 13 #[.slice a n cap] w (OneInt w.heap.size w) := by
  go_enter Tryd.func13, Tryd.ntmps13
  go_wp2_with fail
  refine (new_any _ _ _ _ zs hr).mono ?_
  rintro e w1 ⟨rfl, hc1, hb1, -⟩
  clear hr
  go_wp2_with fail
  refine (once_any _ _ _ _ _ _ (by omega) hc1).mono ?_
  rintro e w2 ⟨q, rfl, hc2, hg2⟩
  cases q
  · go_wp2_with fail
    refine (number_any _ _ _ _ _ hc2).mono ?_
    rintro e w3 ⟨x, hx, rfl, hc3, hg3⟩
    go_wp2_with fail
    go_ret
    exact ⟨x, hx, rfl, below_of_grown hb1 (grown_trans hg2 hg3) rfl⟩
  · go_wp2_with fail
    refine (below_any _ _ _ _ _ _ (by omega) hc2).mono ?_
    rintro e w3 ⟨x, ⟨hx0, hx1, -⟩, rfl, hc3, hg3⟩
    have hx2 := hx1 (by omega)
    clear hx1
    go_wp2_with fail
    refine (below_any _ _ _ _ _ _ (by omega) hc3).mono ?_
    rintro e w4 ⟨y, ⟨hy0, hy1, -⟩, rfl, hc4, hg4⟩
    have hy2 := hy1 (by omega)
    clear hy1
    have hp := prod_bd x (y - 1000000) hx0 hx2 (by omega) (by omega)
    go_wp2_with fail
    go_ret
    exact ⟨_, by unfold I64; omega, rfl, below_of_grown hb1 (grown_trans hg2 (grown_trans hg3 hg4)) rfl⟩

/-- What ParseUint answers to a number's own numeral. -/
theorem num_in {n : Int} (h0 : 0 ≤ n) (h1 : n ≤ 1000000000) : numOf (Lib.itoa n) = (n, true) := by
  obtain ⟨u, rfl⟩ := Int.eq_ofNat_of_zero_le h0
  rw [Lib.itoa_nonneg]
  exact numOf_yes (by omega) rfl
theorem num_out {n : Int} (h0 : -9223372036854775808 ≤ n) (h1 : n ≤ 9223372036854775807) (h : n < 0 ∨ 1000000000 < n) : numOf (Lib.itoa n) = (0, false) := by
  refine numOf_no fun u hu hd => ?_
  by_cases hn : n < 0
  · obtain ⟨c, r, hc, h2, h3⟩ := dec_head u
    rw [hc] at hd
    unfold Lib.itoa at hd
    rw [if_pos hn] at hd
    injection hd with hd
    subst hd
    simp at h2
  · obtain ⟨v, rfl⟩ := Int.eq_ofNat_of_zero_le (show 0 ≤ n by omega)
    rw [Lib.itoa_nonneg] at hd
    have := dec_inj (by omega) (by omega) hd
    omega
theorem itoa_size {n : Int} (h0 : -9223372036854775808 ≤ n) (h1 : n ≤ 9223372036854775807) : 0 < (strOf (Lib.itoa n)).size ∧ (strOf (Lib.itoa n)).size ≤ 20 := by
  show 0 < (Lib.itoa n).toArray.size ∧ (Lib.itoa n).toArray.size ≤ 20
  unfold Lib.itoa
  split
  · have := dec_length n.natAbs 19 (by omega) (by omega)
    simp; omega
  · have := dec_length n.toNat 19 (by omega) (by omega)
    simp; omega
theorem isEmpty_no {f : ByteArray} (h : 0 < f.size) : f.toList.isEmpty = false := by
  rw [Lib.toList_data]
  cases hd : f.data.toList with
  | nil =>
    have h1 : f.data.toList.length = f.size := by simp
    rw [hd] at h1
    simp at h1
    omega
  | cons a t => rfl

/-! ### STEP 1: THE WALK: the Go text returns true, AND WRITES NOTHING THAT WAS THERE: 'Below w.heap.size w w'' (Derived/Below.lean: '.refl', '.alloc', '.drew', '.setCell' at a new block, '.trans'). Open each 'IsRow' by 'rcases' AHEAD of 'go_enter'; part every test ahead of the walk. -/
theorem walk (a0 : Option Addr) (len0 cap0 : Nat) (z0 : List Int) (w : World) (w0 : IsRow .u8 w a0 len0 cap0 z0) (hT : Tens w) (hE : Errs w) :
    Calls Tryd.prog 4 #[.slice a0 len0 cap0] w fun e w' => e = .returned (.bool true) ∧ Below w.heap.size w w' := by
  have hr : IsCode w a0 len0 cap0 z0 := w0
  clear w0
  have HT := Lib.hid hT
  have HE := Lib.hid hE
  clear hT hE
  have hm := (code_cells hr).1
  unfold maxLen at hm
  by_cases hbig : 1048576 < len0
  · clear hr
    go_enter Tryd.func4, Tryd.ntmps4
    go_wp2_with (go_at_call 8; refine (big_yes _ _ _ _ (by omega) (by omega)).mono ?_; rintro e w' ⟨rfl, rfl⟩)
    go_ret
    exact ⟨rfl, Below.refl _ _⟩
  · go_enter Tryd.func4, Tryd.ntmps4
    go_wp2_with fail
    refine (big_no _ _ _ _ (by omega) (by omega)).mono ?_
    rintro e w' ⟨rfl, rfl⟩
    go_wp2_with fail
    refine (draw _ _ _ _ _ hr).mono ?_
    rintro e w1 ⟨n, ⟨hn0, hn1⟩, rfl, hb⟩
    clear hr
    have hsz := itoa_size hn0 hn1
    have hem := isEmpty_no hsz.1
    obtain ⟨t, ht⟩ : ∃ t, t = strOf (Lib.itoa n) := ⟨_, rfl⟩
    have hF := fun w' h => implFormat n w' hn0 hn1 h
    rw [← ht] at hsz hem
    simp only [← ht] at hF
    have hP := fun w' h1 h2 => implParse t w' (by omega) h1 h2
    unfold ParsePost at hP
    have htl : t.data.toList = Lib.itoa n := by rw [ht]
    rw [htl] at hP
    have HF := Lib.hid hF
    have HP := Lib.hid hP
    clear hF hP ht htl hsz
    go_wp2_with fail
    refine (HF.out w1 (HT.out.below hb)).mono ?_
    rintro e w2 ⟨rfl, hb2⟩
    have hb12 := hb.trans (hb2.mono hb.size)
    by_cases hin : 0 ≤ n ∧ n ≤ 1000000000
    · obtain ⟨hi0, hi1⟩ := hin
      have HN := Lib.hid (num_in hi0 hi1)
      go_wp2_with fail
      refine (HP.out w2 (HT.out.below hb12) (HE.out.below hb12)).mono ?_
      rintro e w3 ⟨rfl, hb3⟩
      rw [HN.out]
      have hb13 := hb12.trans (hb3.mono hb12.size)
      have hnn : (n == n) = true := by simp
      go_wp2_with fail
      go_ret
      exact ⟨rfl, hb13⟩
    · have HN := Lib.hid (num_out hn0 hn1 (by omega))
      by_cases hn2 : n < 0
      · go_wp2_with fail
        refine (HP.out w2 (HT.out.below hb12) (HE.out.below hb12)).mono ?_
        rintro e w3 ⟨rfl, hb3⟩
        rw [HN.out]
        have hb13 := hb12.trans (hb3.mono hb12.size)
        go_wp2_with fail
        go_ret
        exact ⟨rfl, hb13⟩
      · have hn3 : 1000000000 < n := by omega
        go_wp2_with fail
        refine (HP.out w2 (HT.out.below hb12) (HE.out.below hb12)).mono ?_
        rintro e w3 ⟨rfl, hb3⟩
        rw [HN.out]
        have hb13 := hb12.trans (hb3.mono hb12.size)
        go_wp2_with fail
        go_ret
        exact ⟨rfl, hb13⟩

/-- The door's own heap meets the condition. -/
theorem door_met (os : Os) (args : Array Value) : laidMetH Tryd.prog Rows.fnNumbersRow.laid ((World.doorLaid Tryd.prog 400 os).forCall (fun _ _ => 0) ⟨#[], args, []⟩).memory :=
  laidMetH_of_parts3 (fuel := 8) (laidMet_of_run' 8 (by kernel_rfl) (by kernel_rfl)) (by kernel_rfl) (by kernel_rfl)

/-! ### THE ROW's STEP: WRITTEN OUT: LEAVE IT -/
set_option maxRecDepth 100000 in
theorem lifted (os : Os) (started : os.Started) (H : Type) (enc : TypeId × Value → H) :
    ReturnsInHanded {} Tryd.checked os 4 .any (fun w args => (Rows.fnNumbersSpec.pre enc Tryd.prog Tryd.f4 [] false w args ∧ laidMetH Tryd.prog Rows.fnNumbersRow.laid w) ∧ sizedMet enc Tryd.prog Tryd.f4 (OpenSpec.ofChange Rows.fnNumbersSpec) false w args) (Rows.fnNumbersSpec.post enc Tryd.prog Tryd.f4 false true false false) := by
  refine returnsInHanded_of_change_and (C := Tryd.checked) (X := fun w _ => laidMetH Tryd.prog Rows.fnNumbersRow.laid w) (fun _ _ _ hh h => h.of_heap hh) own started (by kernel_rfl) Tryd.func4
    (ChangeSpec.witness_shaped (enc := enc) (C := Tryd.checked) (os := os) (X := fun w _ => laidMetH Tryd.prog Rows.fnNumbersRow.laid w) false (World.doorLaid Tryd.prog 400 os) #[.slice none 0 0] 8 rfl (World.shaped_of_RefB (by kernel_rfl) (by kernel_rfl)) (by kernel_rfl) (by kernel_rfl) (by kernel_rfl) (door_met os _)) ?_
  intro W base args ds gs before hval0 hW _ _ hL _
  have hval : ∀ (j : Nat) t v, Tryd.f4.params[j]? = some t → args[j]? = some v → Value.okWide Tryd.prog W .any base t v := hval0
  have hW' := hW
  obtain ⟨p, q, hA0, hV, rfl, hfz, hnd⟩ := hW
  have hA : DataW.TrodAll enc Tryd.prog W 0 (fun _ => true) true Tryd.f4.params.toList args.toList ds p := hA0
  rw [Tryd.params4] at hA hval
  obtain ⟨v0, vs0, d0, ds0, p0, q0, hargs, rfl, rfl, h0, r0⟩ := trodAll_cons hA
  obtain ⟨rfl, rfl, rfl⟩ := trodAll_nil r0
  obtain rfl : args = #[v0] := by cases args; simp_all
  obtain ⟨rfl, rfl⟩ := trodVars_none hV
  obtain ⟨a0, len0, cap0, rfl⟩ := okWide_slice Tryd.underlying22 (hval 0 22 v0 rfl rfl)
  have k0 := h0
  have lt0 : ∀ x ∈ p0, x.block < W.heap.size := by obtain ⟨m, hm⟩ := k0; exact DataW.trod_lt m _ _ _ hm
  obtain ⟨z0, w0⟩ : ∃ zs, IsRow .u8 W a0 len0 cap0 zs := by
    obtain ⟨fuel, hf⟩ := h0
    rcases open_ints Tryd.underlying22 Tryd.underlying5 (by kernel_rfl) hf with ⟨hcs, _⟩ | ⟨x, l, c, zs, hcs, _, hl, hm, hz, _, hcell, hwz⟩
    · simp [Value.cells] at hcs
      obtain ⟨rfl, rfl, rfl⟩ := hcs
      exact ⟨[], .inl ⟨rfl, rfl, rfl, rfl⟩⟩
    · simp [Value.cells] at hcs
      obtain ⟨rfl, rfl, rfl⟩ := hcs
      exact ⟨zs, .inr ⟨_, rfl, hl, hm, by simpa using hz, hcell, hwz⟩⟩
  clear hA0 hval0
  have hT := tens_of_laid (by kernel_rfl) hL
  have hE := errs_of_laid hL
  refine (walk a0 len0 cap0 z0 W w0 hT hE).mono fun e W' ⟨he, bel⟩ => ?_
  subst he
  exact ⟨_, rfl, _, _, _, [], _, [], hW', trodAll_mk1 (shut_bool Tryd.underlying4 _), (trodAll_cons_mk (Below.trod laidOut (by kernel_rfl) (of_decide_eq_true (by kernel_rfl)) k0 bel lt0) trodAll_mk0), rfl, bel.frame _, fun h => by cases h⟩

theorem over : Rows.fnNumbersRow.holds Tryd.pinned (OpenSpec.ofChange Rows.fnNumbersSpec) :=
  OpenClaim.holds_of_wide 4 Tryd.f4 rfl rfl rfl rfl rfl rfl rfl ⟨rfl, rfl, rfl, rfl, rfl⟩ rfl rfl rfl rfl rfl (by kernel_rfl) Tryd.func4 (by kernel_rfl)
    (of_decide_eq_true (by kernel_rfl)) (by unfold Func.isWrapper; first | (rw [if_pos (by decide +kernel)]; kernel_rfl) | (rw [if_neg (by decide +kernel)]; exact ⟨rfl, rfl⟩))
    (fun os started H enc _ => lifted os started H enc)

/-- ████ THE STATEMENT: the card, tied to the program's text ████ -/
theorem proved : Rows.FnNumbersCardSaid :=
  Claim7.holds_tied_plain_at .later [] [.data, .data, .data, .sentinel, .sentinel] true (true, "ca97e75dccc74e16e79ec0d9ecb149f95300149addec336b0ae4c98dd0949c49") true
    over (fun _ h => by cases h) (by kernel_rfl) (fun _ h => by cases h) fnNumbers_row_tie rfl ⟨rfl, rfl⟩ (by kernel_rfl) rfl
    (fun f fn hf hfn => by
      obtain rfl : f = 4 := Option.some.inj ((show Tryd.prog.funcNamed Rows.fnNumbersRow.func = some 4 by kernel_rfl).symm.trans hf) |>.symm
      obtain rfl : fn = Tryd.f4 := (Option.some.inj (Tryd.func4.symm.trans hfn)).symm
      exact ⟨by kernel_rfl, fun j t ht => by
        rw [Tryd.params4] at ht
        have hm : t ∈ [22] := by simpa using Array.mem_of_getElem? ht
        have hall : ([22].all fun u => !Tryd.prog.wantsStandIn u) = true := by kernel_rfl
        exact (show Tryd.prog.wantsStandIn t = false by simpa using List.all_eq_true.1 hall t hm)⟩)
    (by kernel_rfl)
#print axioms proved
end Go.Proofs.YtibdmidinopppaaDoor.fnNumbers
