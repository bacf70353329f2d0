/- For every draw (none longer than 1048576 bytes is looked at), FnHexText answers true: a text is decoded from its encoding, and a longer text is refused. The card ties the library's tables to the program's text; no other condition. -/
import Derived.Test.YtibdmidinopppaaDoorDrawT
import Derived.Test.YtibdmidinopppaaDoorHexI
import Derived.Test.YtibdmidinopppaaDoorUnhexI
import Derived.Test.YtibdmidinopppaaDoorLaidC
import Derived.Test.YtibdmidinopppaaDoorRows
import Derived.Test.YtibdmidinopppaaDoorCards
import Derived.Test.YtibdmidinopppaaDoorTie
import Derived.LaidMore
import Derived.Stop.Joined
import Derived.SevenTiedAt
import Derived.WalkKit
import Derived.ProofKit
import Derived.OpenShut
import Derived.ShutString
import Derived.ChangeOld
import Derived.Below
namespace Go.Proofs.YtibdmidinopppaaDoor.fnHexText
open Go.ChangeShapes Go.WideShapes Go.ChangeAt Go.RowKit
open Go.ChangeMaps (open_string shut_string)
set_option linter.unusedVariables false

theorem own : ownKnob Tryd.prog.godebug = none := by kernel_rfl
theorem laidOut : laidOutB Tryd.prog = true := by kernel_rfl

/-- WHAT THE WALK IS TOLD OF A SLICE OF INTEGERS THAT CAME IN: it is nil; or it leads to a row of 'cap' cells, the numbers 'zs' (the first 'len' are its elements, the rest its spare room), each fitting its kind. -/
def IsRow (k : IntKind) (w : World) (a : Option Addr) (len cap : Nat) (zs : List Int) : Prop :=
  (a = none ∧ len = 0 ∧ cap = 0 ∧ zs = []) ∨
  ∃ x, a = some x ∧ len ≤ cap ∧ cap ≤ maxLen ∧ zs.length = cap ∧ (∀ i, i < zs.length → w.cell? (x.add i) = some (.int k (zs.getD i 0))) ∧ ∀ n ∈ zs, (Lit.int k n).wf = true

/-! ### What is decoded from an encoding is the text. -/
theorem val_fig (n : Nat) (h : n < 16) : valI ((fig n).toNat : Int) = n := by
  rw [fig_eq n h]
  unfold figI valI
  split
  · rw [if_pos (by omega)]; omega
  · rw [if_neg (by omega), if_pos (by omega)]; omega

theorem hex_get (l : List UInt8) (k : Nat) (h : k < l.length) : (hexOf l).getD (2 * k) 0 = fig (l[k].toNat / 16) ∧ (hexOf l).getD (2 * k + 1) 0 = fig (l[k].toNat % 16) := by
  induction l generalizing k with
  | nil => simp at h
  | cons c l ih =>
    have e : hexOf (c :: l) = fig (c.toNat / 16) :: fig (c.toNat % 16) :: hexOf l := rfl
    rw [e]
    cases k with
    | zero => exact ⟨rfl, rfl⟩
    | succ k =>
      have := ih k (by simpa using h)
      rw [show 2 * (k + 1) = 2 * k + 1 + 1 by omega]
      simpa using this

theorem unhex_hex (l : List UInt8) (k : Nat) (h : k ≤ l.length) : unhexTo (hexOf l) k = some (l.take k) := by
  induction k with
  | zero => simp [unhexTo]
  | succ k ih =>
    obtain ⟨g1, g2⟩ := hex_get l k (by omega)
    have hb := l[k].toNat_lt
    have v1 := val_fig (l[k].toNat / 16) (by omega)
    have v2 := val_fig (l[k].toNat % 16) (by omega)
    unfold unhexTo
    rw [ih (by omega)]
    simp only
    rw [g1, g2, v1, v2, if_neg (by omega), List.take_succ_eq_append_getElem (by omega)]
    congr 2
    have : (16 * ((l[k].toNat / 16 : Nat) : Int) + ((l[k].toNat % 16 : Nat) : Int)).toNat = l[k].toNat := by omega
    rw [this]
    simp

theorem dec_hex (l : List UInt8) : decOf (strOf (hexOf l)) = (l, true) := by
  have hs : (strOf (hexOf l)).size = 2 * l.length := by
    show (hexOf l).toArray.size = _
    rw [List.size_toArray, hexOf_length]
  unfold decOf
  rw [hs, show 2 * l.length / 2 = l.length by omega]
  have := unhex_hex l l.length (Nat.le_refl _)
  rw [List.take_length] at this
  show (match unhexTo (hexOf l) l.length with
    | some r => (r, true)
    | none => ([], false)) = _
  rw [this]

theorem implDecode_hex (l : List UInt8) (w : World) (hl : l.length ≤ 20000) :
    Calls Tryd.prog 12 #[.string (strOf (hexOf l))] w fun e w' => e = .returned (.tuple #[.string (strOf l), .bool true]) ∧ Below w.heap.size w w' := by
  have hs : (strOf (hexOf l)).size = 2 * l.length := by
    show (hexOf l).toArray.size = _
    rw [List.size_toArray, hexOf_length]
  have h := implDecode (strOf (hexOf l)) w (by omega) (by omega)
  unfold UnhexPost at h
  rw [dec_hex] at h
  exact h

/-- A text was drawn; below the block B all is as it was. -/
def OneText (B : Nat) (w : World) (e : Ending) (w' : World) : Prop := ∃ l : List UInt8, l.length ≤ 20001 ∧ e = .returned (.string (strOf l)) ∧ Below B w w'

theorem below_of_grown {w w1 w2 : World} {bc : Nat} (h : Below w.heap.size w w1) (hg : w1.grownBy w2 (some bc)) (hb : bc = w.heap.size) : Below w.heap.size w w2 :=
  h.grown hg h.size (fun k hk => by cases hk; omega)

set_option maxHeartbeats 400000 in
theorem draw (w : World) (a : Option Addr) (n cap : Nat) (zs : List Int) (hr : IsCode w a n cap zs) :
    Calls Tryd.prog 9 #[.slice a n cap] w (OneText w.heap.size w) := by
  go_enter Tryd.func9, Tryd.ntmps9
  go_wp2_with fail
  refine (new_any _ _ _ _ zs hr).mono ?_
  rintro e w1 ⟨rfl, hc1, hb1, -⟩
  clear hr
  go_wp2_with fail
  refine (once_any _ _ _ _ _ _ (by omega) hc1).mono ?_
  rintro e w2 ⟨q, rfl, hc2, hg2⟩
  cases q
  · go_wp2_with fail
    refine (below_any _ _ _ _ _ _ (by omega) hc2).mono ?_
    rintro e w3 ⟨x, ⟨hx0, hx1, -⟩, rfl, hc3, hg3⟩
    have hx2 := hx1 (by omega)
    clear hx1
    go_wp2_with fail
    refine (text_any _ _ _ _ _ _ (by omega) (by omega) hc3).mono ?_
    rintro e w4 ⟨l, hl, rfl, hc4, hg4⟩
    have hl2 : l.length ≤ 20001 := by omega
    clear hl
    go_wp2_with fail
    go_ret
    exact ⟨l, hl2, rfl, below_of_grown hb1 (grown_trans hg2 (grown_trans hg3 hg4)) rfl⟩
  · go_wp2_with fail
    refine (below_any _ _ _ _ _ _ (by omega) hc2).mono ?_
    rintro e w3 ⟨x, ⟨hx0, hx1, -⟩, rfl, hc3, hg3⟩
    have hx2 := hx1 (by omega)
    clear hx1
    go_wp2_with fail
    refine (long_any _ _ _ (by omega) (by omega) (by omega) (by omega)).mono ?_
    rintro e w4 ⟨l, hl, rfl, hb4⟩
    have hl2 : l.length ≤ 20001 := by omega
    clear hl
    have hb3 := below_of_grown hb1 (grown_trans hg2 hg3) rfl
    go_wp2_with fail
    go_ret
    exact ⟨l, hl2, rfl, hb3.trans (hb4.mono hb3.size)⟩

theorem itoa_ten : strOf (Lib.itoa 10) = strOf [49, 48] := by
  congr 2
  rw [show (10 : Int) = ((10 : Nat) : Int) from rfl, Lib.itoa_nonneg, Lib.decDigits_two (by omega) (by omega)]
  rfl
theorem implFormat_ten (w : World) (ht : Tens w) :
    Calls Tryd.prog 11 #[.int .i64 10] w fun e w' => e = .returned (.string (strOf [49, 48])) ∧ Below w.heap.size w w' := by
  have h := implFormat 10 w (by omega) (by omega) ht
  rw [itoa_ten] at h
  exact h

/-! ### STEP 1: THE WALK: the Go text returns true, AND WRITES NOTHING THAT WAS THERE: 'Below w.heap.size w w'' (Derived/Below.lean: '.refl', '.alloc', '.drew', '.setCell' at a new block, '.trans'). Open each 'IsRow' by 'rcases' AHEAD of 'go_enter'; part every test ahead of the walk. -/
theorem walk (a0 : Option Addr) (len0 cap0 : Nat) (z0 : List Int) (w : World) (w0 : IsRow .u8 w a0 len0 cap0 z0) (hT : Tens w) :
    Calls Tryd.prog 3 #[.slice a0 len0 cap0] w fun e w' => e = .returned (.bool true) ∧ Below w.heap.size w w' := by
  have hr : IsCode w a0 len0 cap0 z0 := w0
  clear w0
  have HT := Lib.hid hT
  clear hT
  have hm := (code_cells hr).1
  unfold maxLen at hm
  by_cases hbig : 1048576 < len0
  · clear hr
    go_enter Tryd.func3, Tryd.ntmps3
    go_wp2_with (go_at_call 8; refine (big_yes _ _ _ _ (by omega) (by omega)).mono ?_; rintro e w' ⟨rfl, rfl⟩)
    go_ret
    exact ⟨rfl, Below.refl _ _⟩
  · go_enter Tryd.func3, Tryd.ntmps3
    go_wp2_with fail
    refine (big_no _ _ _ _ (by omega) (by omega)).mono ?_
    rintro e w' ⟨rfl, rfl⟩
    go_wp2_with fail
    refine (draw _ _ _ _ _ hr).mono ?_
    rintro e w1 ⟨l, hl, rfl, hb⟩
    clear hr
    obtain ⟨s, hs⟩ : ∃ s, s = strOf l := ⟨_, rfl⟩
    have hsz : s.size = l.length := by rw [hs]; rfl
    by_cases hlong : 20000 < l.length
    · rw [← hs]
      have hs1 : 20000 < s.size := by omega
      have hs2 : s.size ≤ 20001 := by omega
      clear hs hsz
      go_wp2_with fail
      refine (implEncode_long s _ (by omega) hs1).mono ?_
      rintro e w' ⟨rfl, rfl⟩
      go_wp2_with fail
      refine (implFormat_ten _ (HT.out.below hb)).mono ?_
      rintro e w2 ⟨rfl, hb2⟩
      go_wp2_with fail
      go_ret
      exact ⟨rfl, hb.trans (hb2.mono hb.size)⟩
    · obtain ⟨h, hh⟩ : ∃ h, h = strOf (hexOf l) := ⟨_, rfl⟩
      have hhs : h.size = 2 * s.size := by rw [hh, hsz]; show (hexOf l).toArray.size = _; rw [List.size_toArray, hexOf_length]
      have hE := implEncode s w1 (by omega)
      rw [show s.data.toList = l by rw [hs], ← hh] at hE
      have hD := fun w' => implDecode_hex l w' (by omega)
      simp only [← hh, ← hs] at hD
      rw [← hs]
      have HE := Lib.hid hE
      have HD := Lib.hid hD
      have hs2 : s.size ≤ 20000 := by omega
      have hlen : ((h.size : Int) == 2 * (s.size : Int)) = true := by simp; omega
      have hh2 : h.size ≤ 40000 := by omega
      clear hE hD hh hs hsz hhs
      go_wp2_with fail
      refine HE.out.mono ?_
      rintro e w2 ⟨rfl, hb2⟩
      go_wp2_with fail
      refine (HD.out w2).mono ?_
      rintro e w3 ⟨rfl, hb3⟩
      go_wp2_with fail
      go_ret
      have hb12 := hb.trans (hb2.mono hb.size)
      exact ⟨rfl, hb12.trans (hb3.mono hb12.size)⟩

/-- The door's own heap meets the condition. -/
theorem door_met (os : Os) (args : Array Value) : laidMetH Tryd.prog Rows.fnHexTextRow.laid ((World.doorLaid Tryd.prog 400 os).forCall (fun _ _ => 0) ⟨#[], args, []⟩).memory :=
  laidMetH_of_parts3 (fuel := 8) (laidMet_of_run' 8 (by kernel_rfl) (by kernel_rfl)) (by kernel_rfl) (by kernel_rfl)

/-! ### THE ROW's STEP: WRITTEN OUT: LEAVE IT -/
set_option maxRecDepth 100000 in
theorem lifted (os : Os) (started : os.Started) (H : Type) (enc : TypeId × Value → H) :
    ReturnsInHanded {} Tryd.checked os 3 .any (fun w args => (Rows.fnHexTextSpec.pre enc Tryd.prog Tryd.f3 [] false w args ∧ laidMetH Tryd.prog Rows.fnHexTextRow.laid w) ∧ sizedMet enc Tryd.prog Tryd.f3 (OpenSpec.ofChange Rows.fnHexTextSpec) false w args) (Rows.fnHexTextSpec.post enc Tryd.prog Tryd.f3 false true false false) := by
  refine returnsInHanded_of_change_and (C := Tryd.checked) (X := fun w _ => laidMetH Tryd.prog Rows.fnHexTextRow.laid w) (fun _ _ _ hh h => h.of_heap hh) own started (by kernel_rfl) Tryd.func3
    (ChangeSpec.witness_shaped (enc := enc) (C := Tryd.checked) (os := os) (X := fun w _ => laidMetH Tryd.prog Rows.fnHexTextRow.laid w) false (World.doorLaid Tryd.prog 400 os) #[.slice none 0 0] 8 rfl (World.shaped_of_RefB (by kernel_rfl) (by kernel_rfl)) (by kernel_rfl) (by kernel_rfl) (by kernel_rfl) (door_met os _)) ?_
  intro W base args ds gs before hval0 hW _ _ hL _
  have hval : ∀ (j : Nat) t v, Tryd.f3.params[j]? = some t → args[j]? = some v → Value.okWide Tryd.prog W .any base t v := hval0
  have hW' := hW
  obtain ⟨p, q, hA0, hV, rfl, hfz, hnd⟩ := hW
  have hA : DataW.TrodAll enc Tryd.prog W 0 (fun _ => true) true Tryd.f3.params.toList args.toList ds p := hA0
  rw [Tryd.params3] at hA hval
  obtain ⟨v0, vs0, d0, ds0, p0, q0, hargs, rfl, rfl, h0, r0⟩ := trodAll_cons hA
  obtain ⟨rfl, rfl, rfl⟩ := trodAll_nil r0
  obtain rfl : args = #[v0] := by cases args; simp_all
  obtain ⟨rfl, rfl⟩ := trodVars_none hV
  obtain ⟨a0, len0, cap0, rfl⟩ := okWide_slice Tryd.underlying22 (hval 0 22 v0 rfl rfl)
  have k0 := h0
  have lt0 : ∀ x ∈ p0, x.block < W.heap.size := by obtain ⟨m, hm⟩ := k0; exact DataW.trod_lt m _ _ _ hm
  obtain ⟨z0, w0⟩ : ∃ zs, IsRow .u8 W a0 len0 cap0 zs := by
    obtain ⟨fuel, hf⟩ := h0
    rcases open_ints Tryd.underlying22 Tryd.underlying5 (by kernel_rfl) hf with ⟨hcs, _⟩ | ⟨x, l, c, zs, hcs, _, hl, hm, hz, _, hcell, hwz⟩
    · simp [Value.cells] at hcs
      obtain ⟨rfl, rfl, rfl⟩ := hcs
      exact ⟨[], .inl ⟨rfl, rfl, rfl, rfl⟩⟩
    · simp [Value.cells] at hcs
      obtain ⟨rfl, rfl, rfl⟩ := hcs
      exact ⟨zs, .inr ⟨_, rfl, hl, hm, by simpa using hz, hcell, hwz⟩⟩
  clear hA0 hval0
  have hT := tens_of_laid rfl hL
  refine (walk a0 len0 cap0 z0 W w0 hT).mono fun e W' ⟨he, bel⟩ => ?_
  subst he
  exact ⟨_, rfl, _, _, _, [], _, [], hW', trodAll_mk1 (shut_bool Tryd.underlying4 _), (trodAll_cons_mk (Below.trod laidOut (by kernel_rfl) (of_decide_eq_true (by kernel_rfl)) k0 bel lt0) trodAll_mk0), rfl, bel.frame _, fun h => by cases h⟩

theorem over : Rows.fnHexTextRow.holds Tryd.pinned (OpenSpec.ofChange Rows.fnHexTextSpec) :=
  OpenClaim.holds_of_wide 3 Tryd.f3 rfl rfl rfl rfl rfl rfl rfl ⟨rfl, rfl, rfl, rfl, rfl⟩ rfl rfl rfl rfl rfl (by kernel_rfl) Tryd.func3 (by kernel_rfl)
    (of_decide_eq_true (by kernel_rfl)) (by unfold Func.isWrapper; first | (rw [if_pos (by decide +kernel)]; kernel_rfl) | (rw [if_neg (by decide +kernel)]; exact ⟨rfl, rfl⟩))
    (fun os started H enc _ => lifted os started H enc)

/-- ████ THE STATEMENT: the card, tied to the program's text ████ -/
theorem proved : Rows.FnHexTextCardSaid :=
  Claim7.holds_tied_plain_at .later [] [.data, .data, .data] true (true, "ca97e75dccc74e16e79ec0d9ecb149f95300149addec336b0ae4c98dd0949c49") true
    over (fun _ h => by cases h) (by kernel_rfl) (fun _ h => by cases h) fnHexText_row_tie rfl ⟨rfl, rfl⟩ (by kernel_rfl) rfl
    (fun f fn hf hfn => by
      obtain rfl : f = 3 := Option.some.inj ((show Tryd.prog.funcNamed Rows.fnHexTextRow.func = some 3 by kernel_rfl).symm.trans hf) |>.symm
      obtain rfl : fn = Tryd.f3 := (Option.some.inj (Tryd.func3.symm.trans hfn)).symm
      exact ⟨by kernel_rfl, fun j t ht => by
        rw [Tryd.params3] at ht
        have hm : t ∈ [22] := by simpa using Array.mem_of_getElem? ht
        have hall : ([22].all fun u => !Tryd.prog.wantsStandIn u) = true := by kernel_rfl
        exact (show Tryd.prog.wantsStandIn t = false by simpa using List.all_eq_true.1 hall t hm)⟩)
    (by kernel_rfl)
#print axioms proved
end Go.Proofs.YtibdmidinopppaaDoor.fnHexText
