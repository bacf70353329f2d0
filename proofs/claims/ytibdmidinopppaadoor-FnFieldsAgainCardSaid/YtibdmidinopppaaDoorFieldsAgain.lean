/- For every draw (none longer than 1048576 bytes is looked at), FnFieldsAgain answers true: the fields of a line, joined by single spaces, have the same fields. The card ties the library's tables to the program's text; no other condition. -/
import Derived.Test.YtibdmidinopppaaDoorFieldsD
import Derived.Test.YtibdmidinopppaaDoorFieldsP
import Derived.Test.YtibdmidinopppaaDoorStrsT
import Derived.Test.YtibdmidinopppaaDoorLaidC
import Derived.Test.YtibdmidinopppaaDoorRows
import Derived.Test.YtibdmidinopppaaDoorCards
import Derived.Test.YtibdmidinopppaaDoorTie
import Derived.LaidMore
import Derived.Stop.Joined
import Derived.SevenTiedAt
import Derived.WalkKit
import Derived.ProofKit
import Derived.OpenShut
import Derived.ShutString
import Derived.ChangeOld
import Derived.Below
namespace Go.Proofs.YtibdmidinopppaaDoor.fnFieldsAgain
open Go.ChangeShapes Go.WideShapes Go.ChangeAt Go.RowKit
open Go.ChangeMaps (open_string shut_string)
set_option linter.unusedVariables false

theorem own : ownKnob Tryd.prog.godebug = none := by kernel_rfl
theorem laidOut : laidOutB Tryd.prog = true := by kernel_rfl

/-- WHAT THE WALK IS TOLD OF A SLICE OF INTEGERS THAT CAME IN: it is nil; or it leads to a row of 'cap' cells, the numbers 'zs' (the first 'len' are its elements, the rest its spare room), each fitting its kind. -/
def IsRow (k : IntKind) (w : World) (a : Option Addr) (len cap : Nat) (zs : List Int) : Prop :=
  (a = none ∧ len = 0 ∧ cap = 0 ∧ zs = []) ∨
  ∃ x, a = some x ∧ len ≤ cap ∧ cap ≤ maxLen ∧ zs.length = cap ∧ (∀ i, i < zs.length → w.cell? (x.add i) = some (.int k (zs.getD i 0))) ∧ ∀ n ∈ zs, (Lit.int k n).wf = true

theorem itoa_m3 : strOf (Lib.itoa (-3)) = strOf [45, 51] := by
  congr 2
  rw [show (-3 : Int) = -((3 : Nat) : Int) from rfl, Lib.itoa_neg _ (by omega), Lib.decDigits_one (by omega)]
  rfl
theorem implFormat_m3 (w : World) (ht : Tens w) :
    Calls Tryd.prog 11 #[.int .i64 (-3)] w fun e w' => e = .returned (.string (strOf [45, 51])) ∧ Below w.heap.size w w' := by
  have h := implFormat (-3) w (by omega) (by omega) ht
  rw [itoa_m3] at h
  exact h

theorem join_step (F : List ByteArray) (k : Nat) (h : k < F.length) : strOf (joinB (F.take k)) ++ F[k] ++ strOf [32] = strOf (joinB (F.take (k + 1))) := by
  rw [List.take_succ_eq_append_getElem h, joinB_append, joinB_one]
  have e : F[k] = strOf F[k].data.toList := by cases F[k]; rfl
  generalize F[k] = f at e ⊢
  rw [e, str_append, str_append]
  simp

/-! ### STEP 1: THE WALK: the Go text returns true, AND WRITES NOTHING THAT WAS THERE: 'Below w.heap.size w w'' (Derived/Below.lean: '.refl', '.alloc', '.drew', '.setCell' at a new block, '.trans'). Open each 'IsRow' by 'rcases' AHEAD of 'go_enter'; part every test ahead of the walk. -/
theorem walk (a0 : Option Addr) (len0 cap0 : Nat) (z0 : List Int) (w : World) (w0 : IsRow .u8 w a0 len0 cap0 z0) (hT : Tens w) :
    Calls Tryd.prog 5 #[.slice a0 len0 cap0] w fun e w' => e = .returned (.bool true) ∧ Below w.heap.size w w' := by
  have hr : IsCode w a0 len0 cap0 z0 := w0
  clear w0
  have HT := Lib.hid hT
  clear hT
  have hm := (code_cells hr).1
  unfold maxLen at hm
  by_cases hbig : 1048576 < len0
  · clear hr
    go_enter Tryd.func5, Tryd.ntmps5
    go_wp2_with (go_at_call 8; refine (big_yes _ _ _ _ (by omega) (by omega)).mono ?_; rintro e w' ⟨rfl, rfl⟩)
    go_ret
    exact ⟨rfl, Below.refl _ _⟩
  · go_enter Tryd.func5, Tryd.ntmps5
    go_wp2_with fail
    refine (big_no _ _ _ _ (by omega) (by omega)).mono ?_
    rintro e w' ⟨rfl, rfl⟩
    go_wp2_with fail
    refine (draw_line _ _ _ _ _ hr).mono ?_
    rintro e w1 ⟨tl, htl, rfl, hb⟩
    clear hr
    obtain ⟨s, hs⟩ : ∃ s, s = strOf tl := ⟨_, rfl⟩
    rw [← hs]
    have hsz : s.size ≤ 1000 := by rw [hs]; exact htl
    clear hs htl
    obtain ⟨F, b, hl, hbF, hgood, hS, hI⟩ := split_again s (by omega)
    have HS := Lib.hid hS
    have HI := Lib.hid hI
    have HG := Lib.hid hgood
    have HJ := Lib.hid (joinB_len F hgood)
    clear hS hI hgood
    go_wp2_with fail
    refine (HI.out w1).mono ?_
    rintro e w2 ⟨v1, rfl, o1, b1⟩
    go_wp2_with fail
    refine (HS.out w2).mono ?_
    rintro e w3 ⟨v2, rfl, -, b2⟩
    have o1' := o1.below b2
    have hb12 := hb.trans (b1.mono hb.size)
    have hb13 := hb12.trans (b2.mono hb12.size)
    clear o1
    cases b
    · obtain rfl := hbF rfl
      obtain ⟨ad, cp, rfl⟩ := o1'.len
      go_wp2_with fail
      refine (implFormat_m3 _ (HT.out.below hb13)).mono ?_
      rintro e w4 ⟨rfl, hb4⟩
      go_wp2_with fail
      go_ret
      exact ⟨rfl, hb13.trans (hb4.mono hb13.size)⟩
    · clear hbF
      have HF := Lib.hid o1'.form
      have HO := Lib.hid o1'
      obtain ⟨ad, cp, hv⟩ := o1'.len
      subst hv
      clear o1'
      go_wp2_with fail
      go_loop [8, 9] (fun t i => ∃ k : Nat, k ≤ F.length ∧ i = .int .i64 k ∧ t = .string (strOf (joinB (F.take k)))) (fun _ i => F.length - (intOf i).toNat)
      case atStart => exact ⟨0, Nat.zero_le _, rfl, rfl⟩
      case round =>
        obtain ⟨k, hk, rfl, rfl⟩ := hrel
        by_cases hlt : k < F.length
        · rcases HF.out with ⟨_, h0⟩ | ⟨g, cp2, hv, hBg, hg, -, hcell, hfz⟩
          · rw [h0] at hlt; simp at hlt
          simp only [Value.slice.injEq, true_and] at hv
          obtain ⟨rfl, rfl⟩ := hv
          have hx := hcell k hlt
          clear hcell hfz
          have hk0 : (0 : Int) ≤ (k : Int) := Int.natCast_nonneg _
          have hk1 : (k : Int) < (F.length : Int) := by omega
          have HST := Lib.hid (join_step F k hlt)
          have hj1 : (joinB (F.take k)).length ≤ 601 * 24 := by
            have := joinB_len (F.take k) (fun f hf => HG.out f (List.mem_of_mem_take hf))
            simp at this; omega
          have hj2 : F[k].size ≤ 600 := (HG.out F[k] (List.getElem_mem hlt)).2.1
          obtain ⟨f, hf⟩ : ∃ f, f = F[k] := ⟨_, rfl⟩
          rw [← hf] at hx hj2
          have HFK := Lib.hid hf
          clear hf
          go_wp2_with fail
          go_round
          case rel => exact ⟨k + 1, by omega, by go_num, congrArg Value.string (by rw [HFK.out]; exact HST.out)⟩
          case measure => simp [intOf]; omega
        · obtain rfl : k = F.length := by omega
          rw [List.take_length]
          obtain ⟨t, ht⟩ : ∃ t, t = strOf (joinB F) := ⟨_, rfl⟩
          rw [← ht]
          have hjl := HJ.out
          have htsz : t.size ≤ 601 * 24 := by rw [ht]; show (joinB F).length ≤ _; omega
          by_cases hlong : 600 < t.size
          · have HL := Lib.hid (fun w' => implSplit_long t w' (by omega) hlong)
            clear ht hjl
            go_wp2_with fail
            refine (HL.out w3).mono ?_
            rintro e w4 ⟨v3, rfl, -, b3⟩
            go_wp2_with fail
            go_ret
            exact ⟨rfl, hb13.trans (b3.mono hb13.size)⟩
          · have hA := fun w' => impl_again F HG.out hl w' (by rw [← ht]; omega)
            simp only [← ht] at hA
            have HA := Lib.hid hA
            clear ht hjl hA
            go_wp2_with fail
            refine (HA.out w3).mono ?_
            rintro e w4 ⟨v3, rfl, o3, b3⟩
            have o1'' := HO.out.below b3
            go_wp2_with fail
            refine (sameTexts _ _ _ _ _ F o1'' o3).mono ?_
            rintro e w5 ⟨rfl, b5⟩
            go_wp2_with fail
            go_ret
            have hb14 := hb13.trans (b3.mono hb13.size)
            exact ⟨rfl, hb14.trans (b5.mono hb14.size)⟩

/-- The door's own heap meets the condition. -/
theorem door_met (os : Os) (args : Array Value) : laidMetH Tryd.prog Rows.fnFieldsAgainRow.laid ((World.doorLaid Tryd.prog 400 os).forCall (fun _ _ => 0) ⟨#[], args, []⟩).memory :=
  laidMetH_of_parts3 (fuel := 8) (laidMet_of_run' 8 (by kernel_rfl) (by kernel_rfl)) (by kernel_rfl) (by kernel_rfl)

/-! ### THE ROW's STEP: WRITTEN OUT: LEAVE IT -/
set_option maxRecDepth 100000 in
theorem lifted (os : Os) (started : os.Started) (H : Type) (enc : TypeId × Value → H) :
    ReturnsInHanded {} Tryd.checked os 5 .any (fun w args => (Rows.fnFieldsAgainSpec.pre enc Tryd.prog Tryd.f5 [] false w args ∧ laidMetH Tryd.prog Rows.fnFieldsAgainRow.laid w) ∧ sizedMet enc Tryd.prog Tryd.f5 (OpenSpec.ofChange Rows.fnFieldsAgainSpec) false w args) (Rows.fnFieldsAgainSpec.post enc Tryd.prog Tryd.f5 false true false false) := by
  refine returnsInHanded_of_change_and (C := Tryd.checked) (X := fun w _ => laidMetH Tryd.prog Rows.fnFieldsAgainRow.laid w) (fun _ _ _ hh h => h.of_heap hh) own started (by kernel_rfl) Tryd.func5
    (ChangeSpec.witness_shaped (enc := enc) (C := Tryd.checked) (os := os) (X := fun w _ => laidMetH Tryd.prog Rows.fnFieldsAgainRow.laid w) false (World.doorLaid Tryd.prog 400 os) #[.slice none 0 0] 8 rfl (World.shaped_of_RefB (by kernel_rfl) (by kernel_rfl)) (by kernel_rfl) (by kernel_rfl) (by kernel_rfl) (door_met os _)) ?_
  intro W base args ds gs before hval0 hW _ _ hL _
  have hval : ∀ (j : Nat) t v, Tryd.f5.params[j]? = some t → args[j]? = some v → Value.okWide Tryd.prog W .any base t v := hval0
  have hW' := hW
  obtain ⟨p, q, hA0, hV, rfl, hfz, hnd⟩ := hW
  have hA : DataW.TrodAll enc Tryd.prog W 0 (fun _ => true) true Tryd.f5.params.toList args.toList ds p := hA0
  rw [Tryd.params5] at hA hval
  obtain ⟨v0, vs0, d0, ds0, p0, q0, hargs, rfl, rfl, h0, r0⟩ := trodAll_cons hA
  obtain ⟨rfl, rfl, rfl⟩ := trodAll_nil r0
  obtain rfl : args = #[v0] := by cases args; simp_all
  obtain ⟨rfl, rfl⟩ := trodVars_none hV
  obtain ⟨a0, len0, cap0, rfl⟩ := okWide_slice Tryd.underlying22 (hval 0 22 v0 rfl rfl)
  have k0 := h0
  have lt0 : ∀ x ∈ p0, x.block < W.heap.size := by obtain ⟨m, hm⟩ := k0; exact DataW.trod_lt m _ _ _ hm
  obtain ⟨z0, w0⟩ : ∃ zs, IsRow .u8 W a0 len0 cap0 zs := by
    obtain ⟨fuel, hf⟩ := h0
    rcases open_ints Tryd.underlying22 Tryd.underlying5 (by kernel_rfl) hf with ⟨hcs, _⟩ | ⟨x, l, c, zs, hcs, _, hl, hm, hz, _, hcell, hwz⟩
    · simp [Value.cells] at hcs
      obtain ⟨rfl, rfl, rfl⟩ := hcs
      exact ⟨[], .inl ⟨rfl, rfl, rfl, rfl⟩⟩
    · simp [Value.cells] at hcs
      obtain ⟨rfl, rfl, rfl⟩ := hcs
      exact ⟨zs, .inr ⟨_, rfl, hl, hm, by simpa using hz, hcell, hwz⟩⟩
  clear hA0 hval0
  have hT := tens_of_laid rfl hL
  refine (walk a0 len0 cap0 z0 W w0 hT).mono fun e W' ⟨he, bel⟩ => ?_
  subst he
  exact ⟨_, rfl, _, _, _, [], _, [], hW', trodAll_mk1 (shut_bool Tryd.underlying4 _), (trodAll_cons_mk (Below.trod laidOut (by kernel_rfl) (of_decide_eq_true (by kernel_rfl)) k0 bel lt0) trodAll_mk0), rfl, bel.frame _, fun h => by cases h⟩

theorem over : Rows.fnFieldsAgainRow.holds Tryd.pinned (OpenSpec.ofChange Rows.fnFieldsAgainSpec) :=
  OpenClaim.holds_of_wide 5 Tryd.f5 rfl rfl rfl rfl rfl rfl rfl ⟨rfl, rfl, rfl, rfl, rfl⟩ rfl rfl rfl rfl rfl (by kernel_rfl) Tryd.func5 (by kernel_rfl)
    (of_decide_eq_true (by kernel_rfl)) (by unfold Func.isWrapper; first | (rw [if_pos (by decide +kernel)]; kernel_rfl) | (rw [if_neg (by decide +kernel)]; exact ⟨rfl, rfl⟩))
    (fun os started H enc _ => lifted os started H enc)

/-- ████ THE STATEMENT: the card, tied to the program's text ████ -/
theorem proved : Rows.FnFieldsAgainCardSaid :=
  Claim7.holds_tied_plain_at .later [] [.data, .data, .data] true (true, "ca97e75dccc74e16e79ec0d9ecb149f95300149addec336b0ae4c98dd0949c49") true
    over (fun _ h => by cases h) (by kernel_rfl) (fun _ h => by cases h) fnFieldsAgain_row_tie rfl ⟨rfl, rfl⟩ (by kernel_rfl) rfl
    (fun f fn hf hfn => by
      obtain rfl : f = 5 := Option.some.inj ((show Tryd.prog.funcNamed Rows.fnFieldsAgainRow.func = some 5 by kernel_rfl).symm.trans hf) |>.symm
      obtain rfl : fn = Tryd.f5 := (Option.some.inj (Tryd.func5.symm.trans hfn)).symm
      exact ⟨by kernel_rfl, fun j t ht => by
        rw [Tryd.params5] at ht
        have hm : t ∈ [22] := by simpa using Array.mem_of_getElem? ht
        have hall : ([22].all fun u => !Tryd.prog.wantsStandIn u) = true := by kernel_rfl
        exact (show Tryd.prog.wantsStandIn t = false by simpa using List.all_eq_true.1 hall t hm)⟩)
    (by kernel_rfl)
#print axioms proved
end Go.Proofs.YtibdmidinopppaaDoor.fnFieldsAgain
