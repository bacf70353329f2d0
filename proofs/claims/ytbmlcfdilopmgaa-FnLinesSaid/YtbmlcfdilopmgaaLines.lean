/- For every code, FnLines answers true: a line of thrust touches a joint just if nothing is left beside it. -/
import Derived.Test.YtbmlcfdilopmgaaGLine
import Derived.Test.YtbmlcfdilopmgaaStandC
import Derived.Test.YtbmlcfdilopmgaaStandK
import Derived.Test.YtbmlcfdilopmgaaHasC
import Derived.Test.YtbmlcfdilopmgaaAtC
import Derived.Test.YtbmlcfdilopmgaaIntSS
import Derived.Test.YtbmlcfdilopmgaaRows
import Derived.WalkKit
import Derived.ProofKit
import Derived.OpenShut
import Derived.ShutString
import Derived.ChangeOld
import Derived.Below
namespace Go.Proofs.Ytbmlcfdilopmgaa.fnLines
set_option maxRecDepth 100000
open Go.ChangeShapes Go.WideShapes Go.ChangeAt Go.RowKit
open Go.ChangeMaps (open_string shut_string)
set_option linter.unusedVariables false

theorem own : ownKnob Try.prog.godebug = none := by kernel_rfl
theorem laidOut : laidOutB Try.prog = true := by kernel_rfl

/-- WHAT THE WALK IS TOLD OF A SLICE OF INTEGERS THAT CAME IN: it is nil; or it leads to a row of 'cap' cells, the numbers 'zs' (the first 'len' are its elements, the rest its spare room), each fitting its kind. -/
def IsRow (k : IntKind) (w : World) (a : Option Addr) (len cap : Nat) (zs : List Int) : Prop :=
  (a = none ∧ len = 0 ∧ cap = 0 ∧ zs = []) ∨
  ∃ x, a = some x ∧ len ≤ cap ∧ cap ≤ maxLen ∧ zs.length = cap ∧ (∀ i, i < zs.length → w.cell? (x.add i) = some (.int k (zs.getD i 0))) ∧ ∀ n ∈ zs, (Lit.int k n).wf = true

/-- The boxes of an arch and of a thrust, each in its place. -/
def FBx (W : World) (b c : Nat) (s : Value) (F : Cd) : Prop :=
  W.cell? ⟨b, 0, none⟩ = some s ∧ W.cell? ⟨c, 0, none⟩ = some (.int .i64 F.1) ∧ W.cell? ⟨c, 1, none⟩ = some (.int .i64 F.2.1) ∧ W.cell? ⟨c, 2, none⟩ = some (.int .i64 F.2.2.1) ∧ W.cell? ⟨c, 3, none⟩ = some (.int .i64 F.2.2.2)
theorem FBx.below {w w' : World} {b c : Nat} {s : Value} {F : Cd} (h : FBx w b c s F) (hb : Below w.heap.size w w') : FBx w' b c s F :=
  ⟨cell_kept h.1 hb, cell_kept h.2.1 hb, cell_kept h.2.2.1 hb, cell_kept h.2.2.2.1 hb, cell_kept h.2.2.2.2 hb⟩
/-- Where there is no corner, the thrust is the zero one, and has no line. -/
theorem no_line {js : List Jt} {ls : List Ld} (h : stB js ls = false) : cenT js ls = (0, 0, 0, 0) ∧ lineV js ls 0 0 0 0 = [] := by
  constructor
  · have h0 : coV (rowsV js ls) = [] := by
      unfold stB at h
      rw [decide_eq_false_iff_not] at h
      exact List.eq_nil_of_length_eq_zero (by omega)
    unfold cenT
    rw [h0]
    rfl
  · by_cases hj : js.length = 0
    · have := lineV_len js ls 0 0 0 0
      exact List.eq_nil_of_length_eq_zero (by omega)
    · refine lineV_no ?_
      rw [← Bool.not_eq_true, allV_iff]
      intro hall
      have h1 := hall 0 (by omega)
      have hk : phOk js ls 0 0 0 0 (0 : Nat) = false := phOk_t (by decide)
      unfold plAt at h1
      rw [phA_no hk, phB_no hk] at h1
      exact absurd h1 (by decide)
theorem line_empty {V : List (Int × Int)} (h : V.length = 0) : maQ V = (0, 0) ∧ maOk V = false ∧ tjV V = [] ∧ hiV V = -1 := by
  obtain rfl := List.eq_nil_of_length_eq_zero h
  exact ⟨rfl, rfl, rfl, rfl⟩
/-- What is known of a line with places. -/
structure LineK (V : List (Int × Int)) (N : Nat) : Prop where
  ok : maOk V = true
  hi0 : 0 ≤ hiV V
  hi1 : hiV V < N
  pos : 1 ≤ (maQ V).2
  le : (maQ V).2 ≤ 6000000000000000
  nn : 0 ≤ (maQ V).1
  half : 2 * (maQ V).1 ≤ (maQ V).2
  zero : ((maQ V).1 = 0 ↔ 0 < (tjV V).length)
  hundred : (maQ V).2 ≤ (maQ V).1 * 100 → inmV V 100 = true
theorem line_known {V : List (Int × Int)} {N : Nat} (hp : Pls V) (hN : N = V.length) (h : ¬ N = 0) : LineK V N := by
  subst hN
  obtain ⟨e1, e2⟩ := maQ_yes (l := V) h
  have h1 := mrTo_ok hp V.length (Nat.le_refl _)
  have h2 := mrTo_half hp V.length (by omega) (Nat.le_refl _)
  have h3 := hiTo_bd V V.length
  have h4 := mr_zero hp
  have h5 := inm_hundred (l := V) (by omega)
  have hv : mrV V = mrTo V V.length := rfl
  rw [hv] at h4 h5
  exact ⟨e2, h3.2.2 (by omega), h3.2.1, by rw [e1]; exact h1.pos, by rw [e1]; exact h1.le, by rw [e1]; exact h1.lo, by rw [e1]; exact h2, by rw [e1]; exact h4, by rw [e1]; exact h5⟩
theorem touched_at {V : List (Int × Int)} {k : Nat} (h : k < V.length) : decide ((k : Int) ∈ tjV V) = endQ (pt V k) := by
  rw [Bool.eq_iff_iff, decide_eq_true_iff]
  unfold tjV
  rw [tjTo_mem]
  constructor
  · rintro ⟨i, hi, e, he⟩
    obtain rfl : k = i := by omega
    exact he
  · intro he
    exact ⟨k, h, rfl, he⟩

/-! ### THE WALK: the Go text returns true, and writes nothing that was there. -/
set_option maxRecDepth 100000 in
set_option maxHeartbeats 8000000 in
theorem walk (a0 : Option Addr) (len0 cap0 : Nat) (z0 : List Int) (w : World) (g0 : IsRow .u8 w a0 len0 cap0 z0) :
    Calls Try.prog 3 #[.slice a0 len0 cap0] w fun e w' => e = .returned (.bool true) ∧ Below w.heap.size w w' := by
  have hr : IsCode w a0 len0 cap0 z0 := g0
  clear g0
  have hm := (code_cells hr).1
  unfold maxLen at hm
  by_cases hbig : 1048576 < len0
  · clear hr
    go_enter Try.func3, Try.ntmps3
    go_wp2_with (go_at_call 5; refine (big_yes _ _ _ _ (by omega) (by omega)).mono ?_; rintro e w' ⟨rfl, rfl⟩)
    go_ret
    exact ⟨rfl, Below.refl _ _⟩
  go_enter Try.func3, Try.ntmps3
  go_wp2_with fail
  refine (big_no _ _ _ _ (by omega) (by omega)).mono ?_
  rintro e w' ⟨rfl, rfl⟩
  go_wp2_with fail
  refine (drawStanding _ _ _ _ _ hr).mono ?_
  rintro e w1 ⟨g, cap, n, js, v, ls, hn, h8, rfl, hj, hlr, hb1⟩
  obtain ⟨la, lc, rfl, -, -⟩ := lrow_slice hlr
  obtain ⟨m, hm1⟩ : ∃ m, m = ls.length := ⟨_, rfl⟩
  rw [← hm1] at hlr ⊢
  have hl : Lds w1 w.heap.size la m lc ls := ⟨hlr, hm1.symm⟩
  have HR1 := Lib.hid (hr.below hb1)
  have HB1 := Lib.hid hb1
  have HJ1 := Lib.hid hj
  have HL1 := Lib.hid hl
  have HN := Lib.hid hn
  clear hr hlr hl hj hn hb1 hm1
  have hal := cd_al w1 (.cells #[.slice (some ⟨g, 0, none⟩) n cap] 26)
  have HB2 := Lib.hid (HB1.out.trans (hal.mono HB1.out.size))
  have HJ2 := Lib.hid (JRowAt.below HJ1.out hal)
  have HL2 := Lib.hid (HL1.out.below hal)
  have HR2 := Lib.hid (HR1.out.below hal)
  have s2 : (w1.alloc (.cells #[.slice (some ⟨g, 0, none⟩) n cap] 26)).cell? ⟨w1.heap.size, 0, none⟩ = some (.slice (some ⟨g, 0, none⟩) n cap) := by go_simp
  clear hal
  go_upto_region 4 with (fail)
  generalize hW : w1.alloc (.cells #[.slice (some ⟨g, 0, none⟩) n cap] 26) = w2 at *
  clear hW
  go_wp2_with fail
  refine (specCentralThrust _ _ _ _ _ _ _ _ _ js ls HJ2.out HN.out (by omega) HL2.out).mono ?_
  rintro e w3 ⟨rfl, hb3⟩
  have hlo := fun (h : stB js ls = false) => no_line h
  obtain ⟨F, hF⟩ : ∃ F, cenT js ls = F := ⟨_, rfl⟩
  obtain ⟨o, ho⟩ : ∃ o, stB js ls = o := ⟨_, rfl⟩
  rw [hF, ho] at hlo
  rw [hF, ho]
  obtain ⟨th, tv, tm, td⟩ := F
  dsimp only
  have HLO := Lib.hid hlo
  clear hF ho hlo
  have hal := cd_al w3 (.cells #[.int .i64 th, .int .i64 tv, .int .i64 tm, .int .i64 td] 31)
  have hb34 := hb3.trans (hal.mono hb3.size)
  have HB4 := Lib.hid (HB2.out.trans (hb34.mono HB2.out.size))
  have HJ4 := Lib.hid (JRowAt.below HJ2.out hb34)
  have HL4 := Lib.hid (HL2.out.below hb34)
  have HR4 := Lib.hid (HR2.out.below hb34)
  have HX4 : RowKit.Hid (FBx (w3.alloc (.cells #[.int .i64 th, .int .i64 tv, .int .i64 tm, .int .i64 td] 31)) w1.heap.size w3.heap.size (.slice (some ⟨g, 0, none⟩) n cap) (th, tv, tm, td)) := Lib.hid ⟨cell_kept s2 hb34, by go_simp, by go_simp, by go_simp, by go_simp⟩
  clear hal hb3 hb34 s2 HB2 HJ2 HL2 HR2 HB1 HJ1 HL1 HR1
  go_upto_region 5 with (fail)
  generalize hW : w3.alloc (.cells #[.int .i64 th, .int .i64 tv, .int .i64 tm, .int .i64 td] 31) = w4 at *
  clear hW
  obtain ⟨x0, x1, x2, x3, x4⟩ := HX4.out
  have HP := Lib.hid (fun (W : World) (hW : Below w4.heap.size w4 W) => implPlacesOf W _ _ g cap n la m lc js ls th tv tm td (JRowAt.below HJ4.out hW) HN.out (HL4.out.below hW))
  have HMA := Lib.hid (fun (W : World) (hW : Below w4.heap.size w4 W) => implMarginOf W _ _ g cap n la m lc js ls th tv tm td (JRowAt.below HJ4.out hW) HN.out (HL4.out.below hW))
  have HTJ := Lib.hid (fun (W : World) (hW : Below w4.heap.size w4 W) => implTouchedJoints W _ _ g cap n la m lc js ls th tv tm td (JRowAt.below HJ4.out hW) HN.out (HL4.out.below hW))
  have HHI := Lib.hid (fun (W : World) (hW : Below w4.heap.size w4 W) => implHighestJoint W _ _ g cap n la m lc js ls th tv tm td (JRowAt.below HJ4.out hW) HN.out (HL4.out.below hW))
  have HIM := Lib.hid (fun (z : Int) (W : World) (hW : Below w4.heap.size w4 W) => implInMiddle W _ _ g cap n la m lc js ls th tv tm td z (JRowAt.below HJ4.out hW) HN.out (HL4.out.below hW))
  have hpl := lineV_pls js ls th tv tm td
  have hvl := lineV_len js ls th tv tm td
  have hvn : (lineV js ls th tv tm td).length = 0 ∨ (lineV js ls th tv tm td).length = js.length := by
    unfold lineV; split
    · right; rw [lnTo_length]
    · left; rfl
  dsimp only at x1 x2 x3 x4
  cases o
  · have h0 : (lineV js ls th tv tm td).length = 0 := by
      obtain ⟨e1, e2⟩ := HLO.out rfl
      simp only [Prod.mk.injEq] at e1
      obtain ⟨rfl, rfl, rfl, rfl⟩ := e1
      rw [e2]; rfl
    have HH0 := Lib.hid h0
    clear hpl hvl hvn h0
    go_wp2_with fail
    refine (HP.out _ (Below.refl _ _)).mono ?_
    rintro e w5 ⟨x, rfl, ⟨gs, hq⟩, hb5⟩
    obtain ⟨qa, qc, rfl, -, -⟩ := hq.slice
    rw [show gs.length = 0 from hq.len.trans HH0.out]
    go_wp2_with fail
    go_ret
    exact ⟨rfl, HB4.out.trans (hb5.mono HB4.out.size)⟩
  · have hnx := fun z hz h => inm_next hpl z hz h
    have hlk := fun N hN h => line_known (N := N) hpl hN h
    have hle := fun (h : (lineV js ls th tv tm td).length = 0) => line_empty h
    rw [HN.out] at hvl hvn
    generalize lineV js ls th tv tm td = V at *
    obtain ⟨N, hNV⟩ : ∃ N, N = V.length := ⟨_, rfl⟩
    rw [← hNV] at hvl hvn hle
    have HV := Lib.hid hNV
    have HPL := Lib.hid hpl
    have HNX := Lib.hid hnx
    have HLK := Lib.hid (hlk N hNV)
    have HLE := Lib.hid hle
    have HVN := Lib.hid hvn
    clear hpl hnx hlk hle hvn hNV hvl
    have F4 := Lib.hid (fun (X : World) (hX : Below w4.heap.size w4 X) => HX4.out.below hX)
    go_wp2_with fail
    refine (HP.out _ (Below.refl _ _)).mono ?_
    rintro e w5 ⟨qx, rfl, ⟨gs, hq⟩, hb5⟩
    obtain ⟨qa, qc, rfl, hqc, hqm⟩ := hq.slice
    have hgl : gs.length = N := hq.len.trans HV.out.symm
    rw [hgl] at hq hqc ⊢
    have HGL := Lib.hid hgl
    have HQ5 := Lib.hid hq
    have HC5 := Lib.hid hb5
    clear hq hb5 hgl
    obtain ⟨x0, x1, x2, x3, x4⟩ := F4.out _ HC5.out
    dsimp only at x1 x2 x3 x4
    go_wp2_with fail
    refine (HMA.out _ HC5.out).mono ?_
    rintro e w6 ⟨rfl, hb6⟩
    have HC6 := Lib.hid (HC5.out.trans (hb6.mono HC5.out.size))
    have HQ6 := Lib.hid (HQ5.out.below hb6)
    clear hb6 HQ5
    obtain ⟨x0, x1, x2, x3, x4⟩ := F4.out _ HC6.out
    dsimp only at x1 x2 x3 x4
    go_wp2_with fail
    refine (HTJ.out _ HC6.out).mono ?_
    rintro e w7 ⟨ux, rfl, hit, hb7⟩
    obtain ⟨ta, tn, tc, rfl, hI7⟩ := insOf hit
    have HC7 := Lib.hid (HC6.out.trans (hb7.mono HC6.out.size))
    have HQ7 := Lib.hid (HQ6.out.below hb7)
    have HT7 := Lib.hid hI7
    have HTN := Lib.hid hI7.2
    obtain ⟨htc, htm⟩ := hI7.cap
    clear hb7 HQ6 hit hI7
    obtain ⟨x0, x1, x2, x3, x4⟩ := F4.out _ HC7.out
    dsimp only at x1 x2 x3 x4
    go_wp2_with fail
    refine (HHI.out _ HC7.out).mono ?_
    rintro e w8 ⟨rfl, hb8⟩
    have HC8 := Lib.hid (HC7.out.trans (hb8.mono HC7.out.size))
    have HQ8 := Lib.hid (HQ7.out.below hb8)
    have HT8 := Lib.hid (HT7.out.below hb8)
    clear hb8 HQ7 HT7
    obtain ⟨x0, x1, x2, x3, x4⟩ := F4.out _ HC8.out
    dsimp only at x1 x2 x3 x4
    unfold maxLen at hqm htm
    by_cases hN0 : N = 0
    · obtain ⟨e1, e2, e3, e4⟩ := HLE.out hN0
      rw [e1, e2, e4]
      have htn : tn = 0 := by rw [← HTN.out, e3]; rfl
      subst hN0 htn
      clear e1 e2 e3 e4
      dsimp only
      go_wp2_with fail
      go_ret
      exact ⟨rfl, HB4.out.trans (HC8.out.mono HB4.out.size)⟩
    · have hk := HLK.out hN0
      have hNn : N = n := HVN.out.resolve_left hN0
      have hok := hk.ok
      have hi0 := hk.hi0
      have hi1 := hk.hi1
      have hps := hk.pos
      have hle := hk.le
      have hnn := hk.nn
      have hhf := hk.half
      have hzz := hk.zero
      have hhu := hk.hundred
      rw [hok]
      clear hk hok
      generalize hiV V = H at *
      obtain ⟨⟨p, q⟩, hpq⟩ : ∃ p, maQ V = p := ⟨_, rfl⟩
      rw [hpq] at hps hle hnn hhf hzz hhu ⊢
      dsimp only at hps hle hnn hhf hzz hhu ⊢
      have HZZ := Lib.hid (show ((p == 0) == decide (0 < tn)) = true by
        rw [HTN.out] at hzz
        by_cases h : p = 0
        · have h2 := hzz.1 h
          rw [decide_eq_true h2, h]; rfl
        · have h2 : ¬ 0 < tn := fun h' => h (hzz.2 h')
          rw [decide_eq_false h2, beq_eq_false_iff_ne.2 h]; rfl)
      have HHU := Lib.hid hhu
      have hN1 : (N : Int) > 0 := by omega
      have hNd : decide (0 < N) = true := decide_eq_true (by omega)
      have hNd2 : decide (0 < (N : Int)) = true := decide_eq_true (by omega)
      have hnb : ((N : Int) != (n : Int)) = false := by rw [hNn]; simp
      have hHd : decide (H < 0) = false := decide_eq_false (by omega)
      have hHn : decide ((N : Int) ≤ H) = false := decide_eq_false (by omega)
      have hqd : decide (q < 1) = false := decide_eq_false (by omega)
      have hpd : decide (p < 0) = false := decide_eq_false (by omega)
      have hpq2 : decide (q < 2 * p) = false := decide_eq_false (by omega)
      have w2p : IntKind.i64.wrap (2 * p) = 2 * p := IntWalk.i64_in _ (by omega)
      clear hzz hpq hhu
      go_wp2_with fail
      go_loopw [13] (fun t wr => ∃ k : Nat, k ≤ N ∧ t = .int .i64 k ∧ Below w8.heap.size w8 wr)
        (fun t _ => N - (intOf t).toNat)
      case atStart => exact ⟨0, Nat.zero_le _, rfl, Below.refl _ _⟩
      case round =>
        obtain ⟨k, hk, rfl, hbw⟩ := hrel
        have HB := Lib.hid hbw
        by_cases hlt : k < N
        · have hkg : k < gs.length := by have := HGL.out; omega
          have hqw := HQ8.out.below hbw
          obtain ⟨bb, rfl, a0'⟩ := hqw.at k hkg
          obtain ⟨i0, i1⟩ := two_cells (hqw.two k hkg)
          have HHS := Lib.hid (fun (x : Since wr) => hasIn x.1 _ ta tn tc (k : Int) (tjV V) ((HT8.out.below hbw).below x.2))
          rw [touched_at (V := V) (k := k) (by have := HV.out; omega)] at HHS
          have hp := HPL.out k (by have := HV.out; omega)
          obtain ⟨⟨x, y⟩, hxy⟩ : ∃ p, pt V k = p := ⟨_, rfl⟩
          rw [hxy] at i0 i1 HHS hp
          dsimp only at i0 i1
          generalize gs.getD k 0 = gk at *
          have hlo := hp.lo
          have hhi := hp.hi
          dsimp only at hlo hhi
          have hxd : decide (x < 0) = false := decide_eq_false (by omega)
          have hyd : decide (y < x) = false := decide_eq_false (by omega)
          have hkn : (k : Int) < (N : Int) := by omega
          have HE := Lib.hid (endQ_iff (q := (x, y)))
          clear hqw hbw hxy hp
          have hn1 := Since.nonempty wr
          have sa0 := fun (x : Since wr) => (x.cell bb k (cell_block_lt a0')).trans a0'
          have si0 := fun (x : Since wr) => (x.cell gk 0 (cell_block_lt i0)).trans i0
          have si1 := fun (x : Since wr) => (x.cell gk 1 (cell_block_lt i1)).trans i1
          go_upto_region 18 with (fail)
          cases hen : endQ (x, y)
          · have hne : ¬ (x = 0 ∨ x = y) := fun h => by have := HE.out.2 h; rw [hen] at this; cases this
            have h1 : (x == 0) = false := by simp; omega
            have h2 : (x == y) = false := by simp; omega
            rw [hen] at HHS
            clear hen hne a0' i0 i1
            refine wp_region_fast (by kernel_rfl) (by kernel_rfl) ?_
            try dsimp only [List.append]
            repeat (go_big_quiet_step (first
              | (go_at_call 12; exact Since.call (HHS.out _))))
            refine wpQuiet_nil ?_
            rintro w2' ⟨⟨w2', hb2⟩, rfl⟩
            have HB2 := Lib.hid (HB.out.trans (hb2.mono HB.out.size))
            clear hb2 sa0 si0 si1 hn1
            go_wp2_with fail
            go_roundw
            case rel => exact ⟨k + 1, hlt, by go_num, HB2.out⟩
            case measure => simp [intOf]; omega
          · have hor := HE.out.1 hen
            have h12 : (x == 0) = true ∨ ((x == 0) = false ∧ (x == y) = true) := by
              by_cases h : x = 0
              · exact .inl (by simp [h])
              · exact .inr ⟨by simp [h], by simp; omega⟩
            rw [hen] at HHS
            clear hen hor a0' i0 i1
            rcases h12 with h1 | ⟨h1, h2⟩
            all_goals
              refine wp_region_fast (by kernel_rfl) (by kernel_rfl) ?_
              try dsimp only [List.append]
              repeat (go_big_quiet_step (first
                | (go_at_call 12; exact Since.call (HHS.out _))))
              refine wpQuiet_nil ?_
              rintro w2' ⟨⟨w2', hb2⟩, rfl⟩
              have HB2 := Lib.hid (HB.out.trans (hb2.mono HB.out.size))
              clear hb2 sa0 si0 si1 hn1
              go_wp2_with fail
              go_roundw
            all_goals first
              | exact ⟨k + 1, hlt, by go_num, HB2.out⟩
              | (simp [intOf]; omega)
        · have HC9 := Lib.hid (HC8.out.trans (hbw.mono HC8.out.size))
          have HR9 := Lib.hid (HR4.out.below HC9.out)
          obtain ⟨x0, x1, x2, x3, x4⟩ := F4.out _ HC9.out
          dsimp only at x1 x2 x3 x4
          clear hbw
          go_wp2_with fail
          refine (at_any _ _ _ _ z0 0 (by omega) HR9.out).mono ?_
          rintro e wq ⟨z, hz0, hz1, rfl, rfl⟩
          have hzt : z.tmod 30 = z % 30 := Int.tmod_eq_emod_of_nonneg hz0
          have hz30 : 0 ≤ z % 30 ∧ z % 30 ≤ 29 := by omega
          go_upto_region 21 with (fail)
          obtain ⟨i, hi⟩ : ∃ i, 2 + z % 30 = i := ⟨_, rfl⟩
          rw [hi]
          have hib : 2 ≤ i ∧ i ≤ 31 := by omega
          clear hi hz30 hzt
          have w100 : IntKind.i64.wrap (p * 100) = p * 100 := IntWalk.i64_in _ (by omega)
          have wi : IntKind.i64.wrap (i + 1) = i + 1 := IntWalk.i64_in _ (by omega)
          have HNI := Lib.hid (HNX.out i (by omega))
          by_cases hp0 : p = 0
          · have hb1 : (p == 0) = true := by simp [hp0]
            have hb2 : decide (0 < tn) = true := by have := HZZ.out; rw [hb1] at this; simpa using this
            cases hv : inmV V i
            · have HV1 := Lib.hid hv
              clear hv
              go_wp2_with fail
              refine (HIM.out i _ HC9.out).mono ?_
              rintro e wa ⟨rfl, hba⟩
              rw [HV1.out]
              have HCa := Lib.hid (HC9.out.trans (hba.mono HC9.out.size))
              obtain ⟨x0, x1, x2, x3, x4⟩ := F4.out _ HCa.out
              dsimp only at x1 x2 x3 x4
              clear hba
              go_wp2_with fail
              go_ret
              exact ⟨rfl, HB4.out.trans (HCa.out.mono HB4.out.size)⟩
            · have HV1 := Lib.hid hv
              have HV2 := Lib.hid (HNI.out hv)
              clear hv
              go_wp2_with fail
              refine (HIM.out i _ HC9.out).mono ?_
              rintro e wa ⟨rfl, hba⟩
              rw [HV1.out]
              have HCa := Lib.hid (HC9.out.trans (hba.mono HC9.out.size))
              obtain ⟨x0, x1, x2, x3, x4⟩ := F4.out _ HCa.out
              dsimp only at x1 x2 x3 x4
              clear hba
              go_wp2_with fail
              refine (HIM.out (i + 1) _ HCa.out).mono ?_
              rintro e wa ⟨rfl, hba⟩
              rw [HV2.out]
              have HCb := Lib.hid (HCa.out.trans (hba.mono HCa.out.size))
              obtain ⟨x0, x1, x2, x3, x4⟩ := F4.out _ HCb.out
              dsimp only at x1 x2 x3 x4
              clear hba
              go_wp2_with fail
              go_ret
              exact ⟨rfl, HB4.out.trans (HCb.out.mono HB4.out.size)⟩
          · have hb1 : (p == 0) = false := by simp [hp0]
            have hb2 : decide (0 < tn) = false := by have := HZZ.out; rw [hb1] at this; simpa using this
            by_cases hlt1 : p * 100 < q
            · have hd1 : decide (p * 100 < q) = true := decide_eq_true hlt1
              cases hv : inmV V i
              · have HV1 := Lib.hid hv
                clear hv
                go_wp2_with fail
                refine (HIM.out i _ HC9.out).mono ?_
                rintro e wa ⟨rfl, hba⟩
                rw [HV1.out]
                have HCa := Lib.hid (HC9.out.trans (hba.mono HC9.out.size))
                obtain ⟨x0, x1, x2, x3, x4⟩ := F4.out _ HCa.out
                dsimp only at x1 x2 x3 x4
                clear hba
                go_wp2_with fail
                go_ret
                exact ⟨rfl, HB4.out.trans (HCa.out.mono HB4.out.size)⟩
              · have HV1 := Lib.hid hv
                have HV2 := Lib.hid (HNI.out hv)
                clear hv
                go_wp2_with fail
                refine (HIM.out i _ HC9.out).mono ?_
                rintro e wa ⟨rfl, hba⟩
                rw [HV1.out]
                have HCa := Lib.hid (HC9.out.trans (hba.mono HC9.out.size))
                obtain ⟨x0, x1, x2, x3, x4⟩ := F4.out _ HCa.out
                dsimp only at x1 x2 x3 x4
                clear hba
                go_wp2_with fail
                refine (HIM.out (i + 1) _ HCa.out).mono ?_
                rintro e wa ⟨rfl, hba⟩
                rw [HV2.out]
                have HCb := Lib.hid (HCa.out.trans (hba.mono HCa.out.size))
                obtain ⟨x0, x1, x2, x3, x4⟩ := F4.out _ HCb.out
                dsimp only at x1 x2 x3 x4
                clear hba
                go_wp2_with fail
                go_ret
                exact ⟨rfl, HB4.out.trans (HCb.out.mono HB4.out.size)⟩
            · have hd1 : decide (p * 100 < q) = false := decide_eq_false hlt1
              have HV3 := Lib.hid (HHU.out (by omega))
              cases hv : inmV V i
              · have HV1 := Lib.hid hv
                clear hv
                go_wp2_with fail
                refine (HIM.out i _ HC9.out).mono ?_
                rintro e wa ⟨rfl, hba⟩
                rw [HV1.out]
                have HCa := Lib.hid (HC9.out.trans (hba.mono HC9.out.size))
                obtain ⟨x0, x1, x2, x3, x4⟩ := F4.out _ HCa.out
                dsimp only at x1 x2 x3 x4
                clear hba
                go_wp2_with fail
                refine (HIM.out 100 _ HCa.out).mono ?_
                rintro e wa ⟨rfl, hba⟩
                rw [HV3.out]
                have HCb := Lib.hid (HCa.out.trans (hba.mono HCa.out.size))
                obtain ⟨x0, x1, x2, x3, x4⟩ := F4.out _ HCb.out
                dsimp only at x1 x2 x3 x4
                clear hba
                go_wp2_with fail
                go_ret
                exact ⟨rfl, HB4.out.trans (HCb.out.mono HB4.out.size)⟩
              · have HV1 := Lib.hid hv
                have HV2 := Lib.hid (HNI.out hv)
                clear hv
                go_wp2_with fail
                refine (HIM.out i _ HC9.out).mono ?_
                rintro e wa ⟨rfl, hba⟩
                rw [HV1.out]
                have HCa := Lib.hid (HC9.out.trans (hba.mono HC9.out.size))
                obtain ⟨x0, x1, x2, x3, x4⟩ := F4.out _ HCa.out
                dsimp only at x1 x2 x3 x4
                clear hba
                go_wp2_with fail
                refine (HIM.out (i + 1) _ HCa.out).mono ?_
                rintro e wa ⟨rfl, hba⟩
                rw [HV2.out]
                have HCb := Lib.hid (HCa.out.trans (hba.mono HCa.out.size))
                obtain ⟨x0, x1, x2, x3, x4⟩ := F4.out _ HCb.out
                dsimp only at x1 x2 x3 x4
                clear hba
                go_wp2_with fail
                refine (HIM.out 100 _ HCb.out).mono ?_
                rintro e wa ⟨rfl, hba⟩
                rw [HV3.out]
                have HCc := Lib.hid (HCb.out.trans (hba.mono HCb.out.size))
                obtain ⟨x0, x1, x2, x3, x4⟩ := F4.out _ HCc.out
                dsimp only at x1 x2 x3 x4
                clear hba
                go_wp2_with fail
                go_ret
                exact ⟨rfl, HB4.out.trans (HCc.out.mono HB4.out.size)⟩

/-! ### THE ROW's STEP -/
set_option maxRecDepth 100000 in
theorem lifted (os : Os) (started : os.Started) (H : Type) (enc : TypeId × Value → H) :
    ReturnsInHanded {} Try.checked os 3 .any (Rows.fnLinesSpec.pre6 enc Try.prog Try.f3 Rows.fnLinesRow.domain false) (Rows.fnLinesSpec.post enc Try.prog Try.f3 false true false false) := by
  refine returnsInHanded_of_change (C := Try.checked) own started (by kernel_rfl) Try.func3
    (ChangeSpec.witness6 (enc := enc) (C := Try.checked) false ⟨#[], #[.slice none 0 0], []⟩ 8 (by kernel_rfl) (by kernel_rfl) (by kernel_rfl) (by kernel_rfl)) ?_
  intro W base args ds gs before hval0 hW hcnd _
  have hval : ∀ (j : Nat) t v, Try.f3.params[j]? = some t → args[j]? = some v → Value.okWide Try.prog W .any base t v := hval0
  have hW' := hW
  obtain ⟨p, q, hA0, hV, rfl, hfz, hnd⟩ := hW
  have hA : DataW.TrodAll enc Try.prog W 0 (fun _ => true) true Try.f3.params.toList args.toList ds p := hA0
  rw [Try.params3] at hA hval
  obtain ⟨v0, vs0, d0, ds0, p0, q0, hargs, rfl, rfl, h0, r0⟩ := trodAll_cons hA
  obtain ⟨rfl, rfl, rfl⟩ := trodAll_nil r0
  obtain rfl : args = #[v0] := by cases args; simp_all
  obtain ⟨rfl, rfl⟩ := trodVars_none hV
  have k0 := h0
  have lt0 : ∀ x ∈ p0, x.block < W.heap.size := by obtain ⟨m, hm⟩ := k0; exact DataW.trod_lt m _ _ _ hm
  obtain ⟨a0, len0, cap0, rfl⟩ := okWide_slice Try.underlying22 (hval 0 22 v0 rfl rfl)
  obtain ⟨z0, g0⟩ : ∃ zs, IsRow .u8 W a0 len0 cap0 zs := by
    obtain ⟨fuel, hf⟩ := h0
    rcases open_ints Try.underlying22 Try.underlying5 (by kernel_rfl) hf with ⟨hcs, _⟩ | ⟨x, l, c, zs, hcs, _, hl, hm, hz, _, hcell, hwz⟩
    · simp [Value.cells] at hcs
      obtain ⟨rfl, rfl, rfl⟩ := hcs
      exact ⟨[], .inl ⟨rfl, rfl, rfl, rfl⟩⟩
    · simp [Value.cells] at hcs
      obtain ⟨rfl, rfl, rfl⟩ := hcs
      exact ⟨zs, .inr ⟨_, rfl, hl, hm, by simpa using hz, hcell, hwz⟩⟩
  clear hA0 hval0
  refine (walk a0 len0 cap0 z0 W g0).mono fun e W' ⟨he, bel⟩ => ?_
  subst he
  exact ⟨_, rfl, _, _, _, [], _, [], hW', trodAll_mk1 (shut_bool Try.underlying4 _), (trodAll_cons_mk (Below.trod laidOut (by kernel_rfl) (of_decide_eq_true (by kernel_rfl)) k0 bel lt0) trodAll_mk0), rfl, bel.frame _, fun h => by cases h⟩

theorem over : Rows.fnLinesRow.holds Try.pinned (OpenSpec.ofChange Rows.fnLinesSpec) :=
  OpenClaim.holds_of_wide 3 Try.f3 rfl rfl rfl rfl rfl rfl rfl ⟨rfl, rfl, rfl, rfl, rfl⟩ rfl rfl rfl rfl rfl (by kernel_rfl) Try.func3 (by kernel_rfl)
    (of_decide_eq_true (by kernel_rfl)) (by unfold Func.isWrapper; first | (rw [if_pos (by decide +kernel)]; kernel_rfl) | (rw [if_neg (by decide +kernel)]; exact ⟨rfl, rfl⟩))
    (fun os started H enc _ => lifted os started H enc)

/-- THE STATEMENT. -/
theorem proved : Rows.FnLinesSaid := over
#print axioms proved
end Go.Proofs.Ytbmlcfdilopmgaa.fnLines
